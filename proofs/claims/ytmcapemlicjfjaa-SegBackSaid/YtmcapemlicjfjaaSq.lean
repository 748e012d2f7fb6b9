/- Layer 5: what is written is read, what is read is written (pure words over bytes). -/
import Derived.Test.YtmcapemlicjfjaaSk
namespace Go.Proofs.Ytmcapemlicjfjaa
open Go.RowKit
theorem tcpX_ok {on n : Nat} {re : Int} (h : tcpX on n re = 0) : on ≤ 40 ∧ on % 4 = 0 ∧ re ≤ 15 ∧ 20 + on + n ≤ 1660 := by
  unfold tcpX at h
  split at h
  · omega
  split at h
  · omega
  omega
theorem udpX_ok {v6 ns : Bool} {n : Nat} (h : udpX v6 ns n = 0) : (v6 && ns) = false ∧ 8 + n ≤ 1660 := by
  unfold udpX at h
  split at h
  · omega
  split at h
  · omega
  rename_i q1 q2
  exact ⟨by simpa using q1, by omega⟩
theorem tcpB_low {sp dp sq ak : Int} {on : Nat} {re fl wi su ur : Int} {fo f : Nat → Int} (k : Nat) (hk : k < 20) : tcpB sp dp sq ak on re fl wi su ur fo f k = tcpH sp dp sq ak on re fl wi su ur k := cat_lt hk
theorem tcpB_byt {sp dp sq ak : Int} {on : Nat} {re fl wi su ur : Int} {fo f : Nat → Int} (h1 : 0 ≤ sp ∧ sp ≤ 65535) (h2 : 0 ≤ dp ∧ dp ≤ 65535) (h3 : 0 ≤ sq ∧ sq ≤ 4294967295) (h4 : 0 ≤ ak ∧ ak ≤ 4294967295) (ho : on ≤ 40) (h5 : 0 ≤ re ∧ re ≤ 15) (h6 : 0 ≤ fl ∧ fl ≤ 255) (h7 : 0 ≤ wi ∧ wi ≤ 65535) (h9 : 0 ≤ su ∧ su ≤ 65535) (h8 : 0 ≤ ur ∧ ur ≤ 65535) (hfo : Byt fo) (hf : Byt f) :
    Byt (tcpB sp dp sq ak on re fl wi su ur fo f) := cat_byt 20 (tcpH_byt h1 h2 h3 h4 ho h5 h6 h7 h9 h8) (cat_byt on hfo hf)
/-- A written segment, read. -/
theorem tcp_back {sp dp sq ak : Int} {on n : Nat} {re fl wi ur S : Int} {fo f : Nat → Int} (h1 : 0 ≤ sp ∧ sp ≤ 65535) (h2 : 0 ≤ dp ∧ dp ≤ 65535) (h3 : 0 ≤ sq ∧ sq ≤ 4294967295) (h4 : 0 ≤ ak ∧ ak ≤ 4294967295) (h5 : 0 ≤ re) (h6 : 0 ≤ fl ∧ fl ≤ 255) (h7 : 0 ≤ wi ∧ wi ≤ 65535) (h8 : 0 ≤ ur ∧ ur ≤ 65535) (hfo : Byt fo) (hf : Byt f) (hS : 0 ≤ S ∧ S ≤ 65535)
    (hx : tcpX on n re = 0) (g : Nat → Int) (hg : g = tcpB sp dp sq ak on re fl wi (rgt S (tcpB sp dp sq ak on re fl wi 0 ur fo f) (20 + on + n)) ur fo f) :
    Byt g ∧ tcpE S g (20 + on + n) = 0 ∧ tcpc (w2 g 0) (w2 g 2) (w4 g 4) (w4 g 8) (g 12 % 16) (g 13) (w2 g 14) (w2 g 18) = tcpc sp dp sq ak re fl wi ur ∧ tcpO g = on ∧ (∀ k, g (20 + k) = cat on fo f k) := by
  obtain ⟨x1, x2, x3, x4⟩ := tcpX_ok hx
  have hb0 : Byt (tcpB sp dp sq ak on re fl wi 0 ur fo f) := tcpB_byt h1 h2 h3 h4 x1 ⟨h5, x3⟩ h6 h7 ⟨by omega, by omega⟩ h8 hfo hf
  have hC := rgt_bd hb0 hS (20 + on + n)
  have hr : rgt S g (20 + on + n) = 0 := by
    rw [hg, tcpB_sum]
    exact rgt_laid hb0 hS 16 (20 + on + n) (by omega) (by omega) (by rw [tcpB_low 16 (by omega)]; simp [tcpH]) (by rw [tcpB_low 17 (by omega)]; simp [tcpH])
  obtain ⟨C, hCe⟩ : ∃ C, C = rgt S (tcpB sp dp sq ak on re fl wi 0 ur fo f) (20 + on + n) := ⟨_, rfl⟩
  rw [← hCe] at hg hC
  have hby : Byt g := by rw [hg]; exact tcpB_byt h1 h2 h3 h4 x1 ⟨h5, x3⟩ h6 h7 hC h8 hfo hf
  obtain ⟨e0, e1, e2, e3, e4, e5, e6, e7, e8, _, e10⟩ := tcp_read (sp := sp) (dp := dp) (sq := sq) (ak := ak) (ol := on) (rest := re) (fl := fl) (wi := wi) (su := C) (ur := ur) x2 ⟨h5, x3⟩ (g := g) (fun k hk => by rw [hg]; exact tcpB_low k hk)
  refine ⟨hby, tcpE_4 (by omega) (by rw [e4]; omega) (by rw [e4]; omega) hr, by rw [e0, e1, e2, e3, e6, e7, e8, e10], e5, fun k => ?_⟩
  rw [hg]
  unfold tcpB
  rw [cat_ge (by omega)]
  congr 1
  omega
theorem udpB_low {sp dp L su : Int} {f : Nat → Int} (k : Nat) (hk : k < 8) : udpB sp dp L su f k = udpH sp dp L su k := cat_lt hk
/-- A written datagram, read. -/
theorem udp_back {v6 ns : Bool} {sp dp S : Int} {n : Nat} {f : Nat → Int} (h1 : 0 ≤ sp ∧ sp ≤ 65535) (h2 : 0 ≤ dp ∧ dp ≤ 65535) (hf : Byt f) (hS : 0 ≤ S ∧ S ≤ 65535) (hx : udpX v6 ns n = 0) (g : Nat → Int)
    (hg : g = udpB sp dp (8 + (n : Int)) (udpS ns S (udpB sp dp (8 + (n : Int)) 0 f) (8 + n)) f) :
    Byt g ∧ udpE v6 S g (8 + n) = 0 ∧ udpc (w2 g 0) (w2 g 2) (decide (w2 g 6 = 0)) = udpc sp dp ns ∧ (∀ k, g (8 + k) = f k) := by
  obtain ⟨x1, x2⟩ := udpX_ok hx
  have hb0 : Byt (udpB sp dp (8 + (n : Int)) 0 f) := cat_byt 8 (udpH_byt h1 h2 (by omega) ⟨by omega, by omega⟩) hf
  have hC := rgt_bd hb0 hS (8 + n)
  have z6 : udpB sp dp (8 + (n : Int)) 0 f 6 = 0 := by rw [udpB_low 6 (by omega)]; simp [udpH]
  have z7 : udpB sp dp (8 + (n : Int)) 0 f 7 = 0 := by rw [udpB_low 7 (by omega)]; simp [udpH]
  have key : ∃ su, su = udpS ns S (udpB sp dp (8 + (n : Int)) 0 f) (8 + n) ∧ (0 ≤ su ∧ su ≤ 65535) ∧ ((ns = true ∧ su = 0) ∨ (ns = false ∧ su ≠ 0 ∧ rgt S (lay2 (udpB sp dp (8 + (n : Int)) 0 f) 6 su) (8 + n) = 0)) := by
    refine ⟨_, rfl, ?_⟩
    unfold udpS
    cases ns with
    | true => exact ⟨⟨by simp, by simp⟩, .inl ⟨rfl, by simp⟩⟩
    | false =>
      rw [if_neg (by decide)]
      by_cases h0 : rgt S (udpB sp dp (8 + (n : Int)) 0 f) (8 + n) = 0
      · rw [if_pos h0]
        exact ⟨⟨by omega, by omega⟩, .inr ⟨rfl, by omega, rgt_full hb0 hS 6 (8 + n) (by omega) (by omega) z6 z7 h0⟩⟩
      · rw [if_neg h0]
        exact ⟨hC, .inr ⟨rfl, h0, rgt_laid hb0 hS 6 (8 + n) (by omega) (by omega) z6 z7⟩⟩
  obtain ⟨su, hsu, hsb, hcase⟩ := key
  rw [← hsu] at hg
  have hby : Byt g := by rw [hg]; exact cat_byt 8 (udpH_byt h1 h2 (by omega) hsb) hf
  obtain ⟨e0, e1, e2, e3⟩ := udp_read (sp := sp) (dp := dp) (L := 8 + (n : Int)) (su := su) (g := g) (fun k hk => by rw [hg]; exact udpB_low k hk)
  have e4 : w2 g 4 = ((8 + n : Nat) : Int) := by rw [e2]; omega
  have hr : rgt S g (8 + n) = rgt S (lay2 (udpB sp dp (8 + (n : Int)) 0 f) 6 su) (8 + n) := by rw [hg, udpB_sum]
  refine ⟨hby, ?_, ?_, fun k => ?_⟩
  · rcases hcase with ⟨hn, h0⟩ | ⟨hn, h0, h1'⟩
    · subst hn
      have hv : v6 = false := by simpa using x1
      subst hv
      exact udpE_3 (by omega) e4 (by rw [e3, h0])
    · exact udpE_5 (by omega) e4 (by rw [e3]; exact h0) (by rw [hr]; exact h1')
  · rw [e0, e1, e3]
    rcases hcase with ⟨hn, h0⟩ | ⟨hn, h0, _⟩
    · rw [hn, decide_eq_true h0]
    · rw [hn, decide_eq_false h0]
  · rw [hg]
    unfold udpB
    rw [cat_ge (by omega)]
    congr 1
    omega
theorem psq_same {v6 : Bool} {s d : Nat → Int} {pr : Int} {n m : Nat} (h : n = m) : psq v6 s d pr n = psq v6 s d pr m := by rw [h]
/-- 'x ^ y' of bytes. -/
theorem xor_u8 (x y : Int) (hx : 0 ≤ x ∧ x ≤ 255) (hy : 0 ≤ y ∧ y ≤ 255) : ∃ v, bits .xor .u8 x y = v ∧ 0 ≤ v ∧ v ≤ 255 ∧ (y ≠ 0 → v ≠ x) := by
  obtain ⟨X, rfl⟩ := Int.eq_ofNat_of_zero_le hx.1
  obtain ⟨Y, rfl⟩ := Int.eq_ofNat_of_zero_le hy.1
  have hX : X < 256 := by omega
  have hY : Y < 256 := by omega
  have hz : X ^^^ Y < 2 ^ 8 := Nat.xor_lt_two_pow (n := 8) hX hY
  have e : bits .xor .u8 (X : Int) (Y : Int) = IntKind.u8.wrap ((X ^^^ Y : Nat) : Int) := by
    unfold bits
    simp only [toNat_ofInt _ X (show X < 2 ^ IntKind.u8.bits by simpa [IntKind.bits] using hX), toNat_ofInt _ Y (show Y < 2 ^ IntKind.u8.bits by simpa [IntKind.bits] using hY), BitVec.toNat_xor]
  have hw : IntKind.u8.wrap ((X ^^^ Y : Nat) : Int) = ((X ^^^ Y : Nat) : Int) := wr_u8 _ (by omega)
  refine ⟨((X ^^^ Y : Nat) : Int), by rw [e, hw], by omega, by omega, fun h0 h1 => ?_⟩
  have h2 : X ^^^ Y = X := by omega
  have h3 : Y = 0 := by
    have h4 : X ^^^ (X ^^^ Y) = X ^^^ X := by rw [h2]
    rw [← Nat.xor_assoc, Nat.xor_self, Nat.zero_xor] at h4
    exact h4
  omega
/-- What was read, written. -/
theorem tcp_again {S : Int} {f : Nat → Int} {n : Nat} (hf : Byt f) (h : tcpE S f n = 0) (hn : n ≤ 1600) : tcpX (tcpO f) (n - (20 + tcpO f)) (f 12 % 16) = 0 ∧ 20 + tcpO f + (n - (20 + tcpO f)) = n ∧ tcpO f ≤ 40 := by
  obtain ⟨h1, h2, h3, _⟩ := tcp_ok h
  have b := hf 12
  have e : tcpO f ≤ 40 ∧ tcpO f % 4 = 0 ∧ 20 + tcpO f ≤ n := by unfold tcpO; omega
  refine ⟨?_, by omega, e.1⟩
  unfold tcpX
  rw [if_neg (by omega), if_neg (by omega)]
theorem tcp_rewrite {S : Int} {f : Nat → Int} {n : Nat} (hf : Byt f) (h : tcpE S f n = 0) (su : Int) (k : Nat) (hk : k < n) (h16 : k ≠ 16) (h17 : k ≠ 17) :
    tcpB (w2 f 0) (w2 f 2) (w4 f 4) (w4 f 8) (tcpO f) (f 12 % 16) (f 13) (w2 f 14) su (w2 f 18) (fun k => f (20 + k)) (fun k => f (20 + tcpO f + k)) k = f k := by
  obtain ⟨h1, h2, h3, _⟩ := tcp_ok h
  unfold tcpB
  by_cases c : k < 20
  · rw [cat_lt c, tcp_write hf h2 su k c, if_neg h16, if_neg h17]
  · rw [cat_ge (by omega)]
    by_cases c2 : k - 20 < tcpO f
    · rw [cat_lt c2]
      show f (20 + (k - 20)) = f k
      congr 1
      omega
    · rw [cat_ge (by omega)]
      show f (20 + tcpO f + (k - 20 - tcpO f)) = f k
      congr 1
      omega
/-- One byte another one, not the data offset's. -/
theorem tcp_other {S : Int} {f : Nat → Int} {n i : Nat} {v : Int} (hf : Byt f) (hS : 0 ≤ S ∧ S ≤ 65535) (h : tcpE S f n = 0) (hi : i < n) (h12 : i ≠ 12) (hv : 0 ≤ v ∧ v ≤ 255) (hd : v ≠ f i) : tcpE S (upd f i v) n = 6 := by
  obtain ⟨h1, h2, h3, h4⟩ := tcp_ok h
  have e : upd f i v 12 = f 12 := by unfold upd; rw [if_neg (by omega)]
  exact tcpE_3 (by omega) (by rw [e]; exact h2) (by rw [e]; omega) (rgt_other hf hS i n hi v hv hd h4)
theorem udp_rewrite {v6 : Bool} {S : Int} {f : Nat → Int} {n : Nat} (hf : Byt f) (h : udpE v6 S f n = 0) (su : Int) (k : Nat) (h6 : k < 6 ∨ 8 ≤ k) :
    udpB (w2 f 0) (w2 f 2) (8 + ((n - 8 : Nat) : Int)) su (fun k => f (8 + k)) k = f k := by
  obtain ⟨h1, h2, _⟩ := udp_ok h
  have e : 8 + ((n - 8 : Nat) : Int) = w2 f 4 := by rw [h2]; omega
  rw [e]
  unfold udpB
  by_cases c : k < 8
  · rw [cat_lt c]
    exact udp_write hf su k (by omega)
  · rw [cat_ge (by omega)]
    show f (8 + (k - 8)) = f k
    congr 1
    omega
theorem udp_again {v6 : Bool} {S : Int} {f : Nat → Int} {n : Nat} (h : udpE v6 S f n = 0) (hn : n ≤ 1600) : udpX v6 (decide (w2 f 6 = 0)) (n - 8) = 0 ∧ 8 + (n - 8) = n := by
  obtain ⟨h1, h2, h3⟩ := udp_ok h
  refine ⟨?_, by omega⟩
  unfold udpX
  rcases h3 with ⟨h6, hv⟩ | ⟨h6, _⟩
  · rw [hv, if_neg (by simp), if_neg (by omega)]
  · rw [decide_eq_false h6, if_neg (by simp), if_neg (by omega)]
end Go.Proofs.Ytmcapemlicjfjaa
