import Derived.Test.YthjgecdnlpdcdaaM6
import Derived.Test.YthjgecdnlpdcdaaM8
/- Layer 5's words: the checksum behind a pseudo header, TCP's and UDP's headers, what is written and what is read (pure). -/
namespace Go.Proofs.Ythjgecdnlpdcdaa
open Go.RowKit
--CUT
/-- The sum of a pseudo header. -/
def psq (v6 : Bool) (s d : Nat → Int) (pr : Int) (n : Nat) : Int := (psum v6 s d pr ((n : Int) % 4294967296)).1
theorem fld_even (f : Nat → Int) (p : Int × Bool) (hp : p.2 = false) (k : Nat) : (fld f p (2 * k)).2 = false := by
  obtain ⟨a, b⟩ := p
  simp at hp
  subst hp
  exact fld_flag f a k
theorem psum_flag (v6 : Bool) (s d : Nat → Int) (pr L : Int) : (psum v6 s d pr L).2 = false := by
  cases v6
  · exact fld_even _ _ (fld_even _ _ (fld_even _ _ rfl 2) 2) 2
  · exact fld_even _ _ (fld_even _ _ (fld_even _ _ rfl 8) 8) 4
theorem psq_bd (v6 : Bool) {s d : Nat → Int} (hs : Byt s) (hd : Byt d) {pr : Int} (h1 : 0 ≤ pr) (h2 : pr ≤ 255) (n : Nat) : 0 ≤ psq v6 s d pr n ∧ psq v6 s d pr n ≤ 65535 := by
  unfold psq psum
  cases v6
  · exact fld_bd (head4_byt h1 h2 _) (fld_bd hd (fld_bd hs ⟨by omega, by omega⟩ _) _) _
  · exact fld_bd (head6_byt h1 h2 _) (fld_bd hd (fld_bd hs ⟨by omega, by omega⟩ _) _) _
theorem psum_mk (v6 : Bool) (s d : Nat → Int) (pr : Int) (n : Nat) : psum v6 s d pr ((n : Int) % 4294967296) = (psq v6 s d pr n, false) := by
  have h := psum_flag v6 s d pr ((n : Int) % 4294967296)
  unfold psq
  rw [← h]
/-- The checksum of bytes behind a sum so far. -/
def rgt (S : Int) (f : Nat → Int) (n : Nat) : Int := 65535 - (fld f (S, false) n).1
theorem nrm_self {S : Int} (h : 0 ≤ S ∧ S ≤ 65535) : nrm S = S := by
  unfold nrm
  split <;> omega
theorem fld_from {f : Nat → Int} (hf : Byt f) {S : Int} (hS : 0 ≤ S ∧ S ≤ 65535) : ∀ n, (fld f (S, false) n).1 = nrm (S + tot f n)
  | 0 => by
    show S = nrm (S + 0)
    rw [Int.add_zero, nrm_self hS]
  | n + 1 => by
    have ih := fld_from hf hS n
    have ho := fld_odd f S n
    have hw := wgt_bd (k := n) (hf n)
    have e : (fld f (S, false) (n + 1)).1 = pl (fld f (S, false) n).1 (wgt n (f n)) := by
      show (stp (fld f (S, false) n) (f n)).1 = _
      unfold stp wgt
      rw [ho]
      rcases Nat.mod_two_eq_zero_or_one n with h | h <;> simp [h]
    rw [e, ih]
    have ht := tot_nonneg hf n
    rw [pl_nrm _ _ (by omega) hw.1 hw.2]
    show nrm _ = nrm (S + (tot f n + wgt n (f n)))
    congr 1
    omega
theorem rgt_tot {f : Nat → Int} (hf : Byt f) {S : Int} (hS : 0 ≤ S ∧ S ≤ 65535) (n : Nat) : rgt S f n = 65535 - nrm (S + tot f n) := by
  unfold rgt
  rw [fld_from hf hS]
theorem rgt_bd {f : Nat → Int} (hf : Byt f) {S : Int} (hS : 0 ≤ S ∧ S ≤ 65535) (n : Nat) : 0 ≤ rgt S f n ∧ rgt S f n ≤ 65535 := by
  have := fld_bd (p := (S, false)) hf hS n
  unfold rgt
  omega
theorem rgt_zero {f : Nat → Int} (hf : Byt f) {S : Int} (hS : 0 ≤ S ∧ S ≤ 65535) (n : Nat) : rgt S f n = 0 ↔ 0 < S + tot f n ∧ (S + tot f n) % 65535 = 0 := by
  rw [rgt_tot hf hS]
  have h := tot_nonneg hf n
  unfold nrm
  split <;> omega
theorem rgt_same {f g : Nat → Int} {S : Int} (n : Nat) (h : ∀ k, k < n → g k = f k) : rgt S g n = rgt S f n := by
  unfold rgt
  rw [fld_same _ n h]
/-- A number in two bytes at a place. -/
def lay2 (f : Nat → Int) (p : Nat) (x : Int) : Nat → Int := upd (upd f p (x / 256)) (p + 1) (x % 256)
theorem lay2_byt {f : Nat → Int} (hf : Byt f) (p : Nat) {x : Int} (h : 0 ≤ x ∧ x ≤ 65535) : Byt (lay2 f p x) := upd_byt (upd_byt hf p (by omega)) (p + 1) (by omega)
theorem lay2_tot {f : Nat → Int} (p n : Nat) (hp : p % 2 = 0) (hn : p + 1 < n) (h0 : f p = 0) (h1 : f (p + 1) = 0) (x : Int) : tot (lay2 f p x) n = tot f n + x := by
  unfold lay2
  rw [tot_upd _ _ _ n (by omega), tot_upd _ _ _ n (by omega)]
  have e : upd f p (x / 256) (p + 1) = 0 := by unfold upd; rw [if_neg (by omega)]; exact h1
  rw [e, h0]
  have w1 : ∀ x, wgt p x = x * 256 := fun x => by unfold wgt; rw [if_pos hp]
  have w2 : ∀ x, wgt (p + 1) x = x := fun x => by unfold wgt; rw [if_neg (by omega)]
  rw [w1, w1, w2, w2]
  omega
/-- With its checksum laid where noughts were it is right. -/
theorem rgt_laid {f : Nat → Int} (hf : Byt f) {S : Int} (hS : 0 ≤ S ∧ S ≤ 65535) (p n : Nat) (hp : p % 2 = 0) (hn : p + 1 < n) (h0 : f p = 0) (h1 : f (p + 1) = 0) : rgt S (lay2 f p (rgt S f n)) n = 0 := by
  have hb := rgt_bd hf hS n
  rw [rgt_zero (lay2_byt hf p hb) hS, lay2_tot p n hp hn h0 h1, rgt_tot hf hS]
  have h := tot_nonneg hf n
  unfold nrm
  split <;> omega
/-- .. and with 65535, if its checksum is 0. -/
theorem rgt_full {f : Nat → Int} (hf : Byt f) {S : Int} (hS : 0 ≤ S ∧ S ≤ 65535) (p n : Nat) (hp : p % 2 = 0) (hn : p + 1 < n) (h0 : f p = 0) (h1 : f (p + 1) = 0) (h : rgt S f n = 0) : rgt S (lay2 f p 65535) n = 0 := by
  rw [rgt_zero hf hS] at h
  rw [rgt_zero (lay2_byt hf p ⟨by omega, by omega⟩) hS, lay2_tot p n hp hn h0 h1]
  omega
/-- One byte another one: it is wrong. -/
theorem rgt_other {f : Nat → Int} (hf : Byt f) {S : Int} (hS : 0 ≤ S ∧ S ≤ 65535) (p n : Nat) (hn : p < n) (v : Int) (hv : 0 ≤ v ∧ v ≤ 255) (hd : v ≠ f p) (h : rgt S f n = 0) : rgt S (upd f p v) n ≠ 0 := by
  intro hc
  have a := (rgt_zero hf hS n).1 h
  have b := (rgt_zero (upd_byt hf p hv) hS n).1 hc
  rw [tot_upd _ _ _ n hn] at b
  have hp := hf p
  unfold wgt at b
  split at b <;> omega

/-- Numbers of two and four bytes. -/
def w2 (f : Nat → Int) (a : Nat) : Int := f a * 256 + f (a + 1)
def w4 (f : Nat → Int) (a : Nat) : Int := ((f a * 256 + f (a + 1)) * 256 + f (a + 2)) * 256 + f (a + 3)
theorem w2_bd {f : Nat → Int} (hf : Byt f) (a : Nat) : 0 ≤ w2 f a ∧ w2 f a ≤ 65535 := by
  have := hf a
  have := hf (a + 1)
  unfold w2
  omega
theorem w4_bd {f : Nat → Int} (hf : Byt f) (a : Nat) : 0 ≤ w4 f a ∧ w4 f a ≤ 4294967295 := by
  have := hf a
  have := hf (a + 1)
  have := hf (a + 2)
  have := hf (a + 3)
  unfold w4
  omega
/-- What is wrong with a TCP segment (S: the sum of its pseudo header). -/
def tcpE (S : Int) (f : Nat → Int) (n : Nat) : Int :=
  if n < 20 then 4 else if f 12 / 16 < 5 then 5 else if n < 4 * (f 12 / 16).toNat then 4 else if rgt S f n ≠ 0 then 6 else 0
/-- How many bytes of options. -/
def tcpO (f : Nat → Int) : Nat := 4 * (f 12 / 16).toNat - 20
theorem tcp_ok {S : Int} {f : Nat → Int} {n : Nat} (h : tcpE S f n = 0) : 20 ≤ n ∧ 5 ≤ f 12 / 16 ∧ 4 * (f 12 / 16).toNat ≤ n ∧ rgt S f n = 0 := by
  unfold tcpE at h
  split at h
  · omega
  split at h
  · omega
  split at h
  · omega
  split at h
  · omega
  rename_i q1 q2 q3 q4
  exact ⟨by omega, by omega, by omega, Classical.not_not.1 q4⟩
/-- A TCP header's bytes. -/
def tcpH (sp dp sq ak : Int) (ol : Nat) (rest fl wi su ur : Int) (k : Nat) : Int :=
  if k = 0 then sp / 256 else if k = 1 then sp % 256 else if k = 2 then dp / 256 else if k = 3 then dp % 256
  else if k = 4 then sq / 16777216 else if k = 5 then sq / 65536 % 256 else if k = 6 then sq / 256 % 256 else if k = 7 then sq % 256
  else if k = 8 then ak / 16777216 else if k = 9 then ak / 65536 % 256 else if k = 10 then ak / 256 % 256 else if k = 11 then ak % 256
  else if k = 12 then (5 + (ol : Int) / 4) * 16 + rest else if k = 13 then fl else if k = 14 then wi / 256 else if k = 15 then wi % 256
  else if k = 16 then su / 256 else if k = 17 then su % 256 else if k = 18 then ur / 256 else if k = 19 then ur % 256 else 0
theorem tcpH_byt {sp dp sq ak : Int} {ol : Nat} {rest fl wi su ur : Int} (h1 : 0 ≤ sp ∧ sp ≤ 65535) (h2 : 0 ≤ dp ∧ dp ≤ 65535) (h3 : 0 ≤ sq ∧ sq ≤ 4294967295) (h4 : 0 ≤ ak ∧ ak ≤ 4294967295) (ho : ol ≤ 40) (h5 : 0 ≤ rest ∧ rest ≤ 15) (h6 : 0 ≤ fl ∧ fl ≤ 255)
    (h7 : 0 ≤ wi ∧ wi ≤ 65535) (h8 : 0 ≤ su ∧ su ≤ 65535) (h9 : 0 ≤ ur ∧ ur ≤ 65535) : Byt (tcpH sp dp sq ak ol rest fl wi su ur) := fun k => by
  unfold tcpH
  repeat' split
  all_goals omega
/-- .. with another sum. -/
theorem tcpH_sum (sp dp sq ak : Int) (ol : Nat) (rest fl wi su ur : Int) : tcpH sp dp sq ak ol rest fl wi su ur = lay2 (tcpH sp dp sq ak ol rest fl wi 0 ur) 16 su := by
  funext k
  unfold lay2 upd
  by_cases h17 : k = 17
  · subst h17
    simp [tcpH]
  · rw [if_neg h17]
    by_cases h16 : k = 16
    · subst h16
      simp [tcpH]
    · rw [if_neg h16]
      unfold tcpH
      repeat' split
      all_goals first | rfl | omega
/-- What stands in bytes that begin with such a header. -/
theorem tcp_read {sp dp sq ak : Int} {ol : Nat} {rest fl wi su ur : Int} (ho4 : ol % 4 = 0) (h5 : 0 ≤ rest ∧ rest ≤ 15)
    {g : Nat → Int} (hg : ∀ k, k < 20 → g k = tcpH sp dp sq ak ol rest fl wi su ur k) :
    w2 g 0 = sp ∧ w2 g 2 = dp ∧ w4 g 4 = sq ∧ w4 g 8 = ak ∧ g 12 / 16 = 5 + (ol : Int) / 4 ∧ tcpO g = ol ∧ g 12 % 16 = rest ∧ g 13 = fl ∧ w2 g 14 = wi ∧ w2 g 16 = su ∧ w2 g 18 = ur := by
  have e0 : g 0 = sp / 256 := by rw [hg 0 (by omega)]; simp [tcpH]
  have e1 : g 1 = sp % 256 := by rw [hg 1 (by omega)]; simp [tcpH]
  have e2 : g 2 = dp / 256 := by rw [hg 2 (by omega)]; simp [tcpH]
  have e3 : g 3 = dp % 256 := by rw [hg 3 (by omega)]; simp [tcpH]
  have e4 : g 4 = sq / 16777216 := by rw [hg 4 (by omega)]; simp [tcpH]
  have e5 : g 5 = sq / 65536 % 256 := by rw [hg 5 (by omega)]; simp [tcpH]
  have e6 : g 6 = sq / 256 % 256 := by rw [hg 6 (by omega)]; simp [tcpH]
  have e7 : g 7 = sq % 256 := by rw [hg 7 (by omega)]; simp [tcpH]
  have e8 : g 8 = ak / 16777216 := by rw [hg 8 (by omega)]; simp [tcpH]
  have e9 : g 9 = ak / 65536 % 256 := by rw [hg 9 (by omega)]; simp [tcpH]
  have e10 : g 10 = ak / 256 % 256 := by rw [hg 10 (by omega)]; simp [tcpH]
  have e11 : g 11 = ak % 256 := by rw [hg 11 (by omega)]; simp [tcpH]
  have e12 : g 12 = (5 + (ol : Int) / 4) * 16 + rest := by rw [hg 12 (by omega)]; simp [tcpH]
  have e13 : g 13 = fl := by rw [hg 13 (by omega)]; simp [tcpH]
  have e14 : g 14 = wi / 256 := by rw [hg 14 (by omega)]; simp [tcpH]
  have e15 : g 15 = wi % 256 := by rw [hg 15 (by omega)]; simp [tcpH]
  have e16 : g 16 = su / 256 := by rw [hg 16 (by omega)]; simp [tcpH]
  have e17 : g 17 = su % 256 := by rw [hg 17 (by omega)]; simp [tcpH]
  have e18 : g 18 = ur / 256 := by rw [hg 18 (by omega)]; simp [tcpH]
  have e19 : g 19 = ur % 256 := by rw [hg 19 (by omega)]; simp [tcpH]
  unfold w2 w4 tcpO
  simp only [Nat.reduceAdd, e0, e1, e2, e3, e4, e5, e6, e7, e8, e9, e10, e11, e12, e13, e14, e15, e16, e17, e18, e19]
  refine ⟨by omega, by omega, by omega, by omega, by omega, by omega, by omega, trivial, by omega, by omega, by omega⟩
/-- What was read, written: its header again, but for the sum. -/
theorem tcp_write {f : Nat → Int} (hf : Byt f) (h5 : 5 ≤ f 12 / 16) (su : Int) (k : Nat) (hk : k < 20) :
    tcpH (w2 f 0) (w2 f 2) (w4 f 4) (w4 f 8) (tcpO f) (f 12 % 16) (f 13) (w2 f 14) su (w2 f 18) k = if k = 16 then su / 256 else if k = 17 then su % 256 else f k := by
  have b := hf
  obtain rfl | rfl | rfl | rfl | rfl | rfl | rfl | rfl | rfl | rfl | rfl | rfl | rfl | rfl | rfl | rfl | rfl | rfl | rfl | rfl : k = 0 ∨ k = 1 ∨ k = 2 ∨ k = 3 ∨ k = 4 ∨ k = 5 ∨ k = 6 ∨ k = 7 ∨ k = 8 ∨ k = 9 ∨ k = 10 ∨ k = 11 ∨ k = 12 ∨ k = 13 ∨ k = 14 ∨ k = 15 ∨ k = 16 ∨ k = 17 ∨ k = 18 ∨ k = 19 := by omega
  all_goals simp [tcpH, w2, w4, tcpO]
  · have := b 0; have := b 1; omega
  · have := b 0; have := b 1; omega
  · have := b 2; have := b 3; omega
  · have := b 2; have := b 3; omega
  · have := b 4; have := b 5; have := b 6; have := b 7; omega
  · have := b 4; have := b 5; have := b 6; have := b 7; omega
  · have := b 4; have := b 5; have := b 6; have := b 7; omega
  · have := b 4; have := b 5; have := b 6; have := b 7; omega
  · have := b 8; have := b 9; have := b 10; have := b 11; omega
  · have := b 8; have := b 9; have := b 10; have := b 11; omega
  · have := b 8; have := b 9; have := b 10; have := b 11; omega
  · have := b 8; have := b 9; have := b 10; have := b 11; omega
  · have := b 12; omega
  · have := b 14; have := b 15; omega
  · have := b 14; have := b 15; omega
  · have := b 18; have := b 19; omega
  · have := b 18; have := b 19; omega
/-- What is wrong with a UDP datagram. -/
def udpE (v6 : Bool) (S : Int) (f : Nat → Int) (n : Nat) : Int :=
  if n < 8 then 4 else if w2 f 4 ≠ (n : Int) then 5 else if w2 f 6 = 0 then (if v6 = true then 6 else 0) else if rgt S f n ≠ 0 then 6 else 0
theorem udp_ok {v6 : Bool} {S : Int} {f : Nat → Int} {n : Nat} (h : udpE v6 S f n = 0) : 8 ≤ n ∧ w2 f 4 = (n : Int) ∧ ((w2 f 6 = 0 ∧ v6 = false) ∨ (w2 f 6 ≠ 0 ∧ rgt S f n = 0)) := by
  unfold udpE at h
  split at h
  · omega
  split at h
  · omega
  rename_i q1 q2
  split at h
  · rename_i q3
    split at h
    · omega
    · rename_i q4
      exact ⟨by omega, Classical.not_not.1 q2, .inl ⟨q3, by simpa using q4⟩⟩
  · rename_i q3
    split at h
    · omega
    · rename_i q4
      exact ⟨by omega, Classical.not_not.1 q2, .inr ⟨q3, Classical.not_not.1 q4⟩⟩
/-- A UDP header's bytes. -/
def udpH (sp dp L su : Int) (k : Nat) : Int :=
  if k = 0 then sp / 256 else if k = 1 then sp % 256 else if k = 2 then dp / 256 else if k = 3 then dp % 256
  else if k = 4 then L / 256 else if k = 5 then L % 256 else if k = 6 then su / 256 else if k = 7 then su % 256 else 0
theorem udpH_byt {sp dp L su : Int} (h1 : 0 ≤ sp ∧ sp ≤ 65535) (h2 : 0 ≤ dp ∧ dp ≤ 65535) (h3 : 0 ≤ L ∧ L ≤ 65535) (h4 : 0 ≤ su ∧ su ≤ 65535) : Byt (udpH sp dp L su) := fun k => by
  unfold udpH
  repeat' split
  all_goals omega
theorem udpH_sum (sp dp L su : Int) : udpH sp dp L su = lay2 (udpH sp dp L 0) 6 su := by
  funext k
  unfold lay2 upd
  by_cases h7 : k = 7
  · subst h7
    simp [udpH]
  · rw [if_neg h7]
    by_cases h6 : k = 6
    · subst h6
      simp [udpH]
    · rw [if_neg h6]
      unfold udpH
      repeat' split
      all_goals first | rfl | omega
theorem udp_read {sp dp L su : Int} {g : Nat → Int} (hg : ∀ k, k < 8 → g k = udpH sp dp L su k) :
    w2 g 0 = sp ∧ w2 g 2 = dp ∧ w2 g 4 = L ∧ w2 g 6 = su := by
  have e0 : g 0 = sp / 256 := by rw [hg 0 (by omega)]; simp [udpH]
  have e1 : g 1 = sp % 256 := by rw [hg 1 (by omega)]; simp [udpH]
  have e2 : g 2 = dp / 256 := by rw [hg 2 (by omega)]; simp [udpH]
  have e3 : g 3 = dp % 256 := by rw [hg 3 (by omega)]; simp [udpH]
  have e4 : g 4 = L / 256 := by rw [hg 4 (by omega)]; simp [udpH]
  have e5 : g 5 = L % 256 := by rw [hg 5 (by omega)]; simp [udpH]
  have e6 : g 6 = su / 256 := by rw [hg 6 (by omega)]; simp [udpH]
  have e7 : g 7 = su % 256 := by rw [hg 7 (by omega)]; simp [udpH]
  unfold w2
  simp only [Nat.reduceAdd, e0, e1, e2, e3, e4, e5, e6, e7]
  refine ⟨by omega, by omega, by omega, by omega⟩
theorem udp_write {f : Nat → Int} (hf : Byt f) (su : Int) (k : Nat) (hk : k < 6) : udpH (w2 f 0) (w2 f 2) (w2 f 4) su k = f k := by
  have b := hf
  obtain rfl | rfl | rfl | rfl | rfl | rfl : k = 0 ∨ k = 1 ∨ k = 2 ∨ k = 3 ∨ k = 4 ∨ k = 5 := by omega
  all_goals simp [udpH, w2]
  · have := b 0; have := b 1; omega
  · have := b 0; have := b 1; omega
  · have := b 2; have := b 3; omega
  · have := b 2; have := b 3; omega
  · have := b 4; have := b 5; omega
  · have := b 4; have := b 5; omega
end Go.Proofs.Ythjgecdnlpdcdaa
