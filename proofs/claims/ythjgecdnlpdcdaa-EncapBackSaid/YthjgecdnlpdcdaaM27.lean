import Derived.Test.YthjgecdnlpdcdaaM9
import Derived.Test.YthjgecdnlpdcdaaM15
import Derived.Test.YthjgecdnlpdcdaaM25
import Derived.Test.YthjgecdnlpdcdaaM23
import Derived.Test.YthjgecdnlpdcdaaM24
import Derived.Test.YthjgecdnlpdcdaaM26
import Derived.Laws.StructEq
/- The document's answers for layer 5: Num, Lay. -/
namespace Go.Proofs.Ythjgecdnlpdcdaa
set_option maxRecDepth 100000
open Go.RowKit
def pw (x : Int) : Nat → Int
  | 0 => x
  | k + 1 => pw x k / 256
def layb (x : Int) (m k : Nat) : Int := pw x (m - 1 - k) % 256
end Go.Proofs.Ythjgecdnlpdcdaa
/- Layer 5: the bytes that the document's writers make. -/
namespace Go.Proofs.Ythjgecdnlpdcdaa
set_option maxRecDepth 100000
open Go.RowKit
def h6 (sp dp L : Int) : Nat → Int := cat 4 (cat 2 (cat 0 (fun _ => 0) (layb sp 2)) (layb dp 2)) (layb L 2)
end Go.Proofs.Ythjgecdnlpdcdaa
/- Layer 5: what is written is read, what is read is written (pure words over bytes). -/
namespace Go.Proofs.Ythjgecdnlpdcdaa
open Go.RowKit
theorem udpX_ok {v6 ns : Bool} {n : Nat} (h : udpX v6 ns n = 0) : (v6 && ns) = false ∧ 8 + n ≤ 1660 := by
  unfold udpX at h
  split at h
  · omega
  split at h
  · omega
  rename_i q1 q2
  exact ⟨by simpa using q1, by omega⟩
theorem udpB_low {sp dp L su : Int} {f : Nat → Int} (k : Nat) (hk : k < 8) : udpB sp dp L su f k = udpH sp dp L su k := cat_lt hk
/-- A written datagram, read. -/
theorem udp_back {v6 ns : Bool} {sp dp S : Int} {n : Nat} {f : Nat → Int} (h1 : 0 ≤ sp ∧ sp ≤ 65535) (h2 : 0 ≤ dp ∧ dp ≤ 65535) (hf : Byt f) (hS : 0 ≤ S ∧ S ≤ 65535) (hx : udpX v6 ns n = 0) (g : Nat → Int)
    (hg : g = udpB sp dp (8 + (n : Int)) (udpS ns S (udpB sp dp (8 + (n : Int)) 0 f) (8 + n)) f) :
    Byt g ∧ udpE v6 S g (8 + n) = 0 ∧ udpc (w2 g 0) (w2 g 2) (decide (w2 g 6 = 0)) = udpc sp dp ns ∧ (∀ k, g (8 + k) = f k) := by
  obtain ⟨x1, x2⟩ := udpX_ok hx
  have hb0 : Byt (udpB sp dp (8 + (n : Int)) 0 f) := cat_byt 8 (udpH_byt h1 h2 (by omega) ⟨by omega, by omega⟩) hf
  have hC := rgt_bd hb0 hS (8 + n)
  have z6 : udpB sp dp (8 + (n : Int)) 0 f 6 = 0 := by rw [udpB_low 6 (by omega)]; simp [udpH]
  have z7 : udpB sp dp (8 + (n : Int)) 0 f 7 = 0 := by rw [udpB_low 7 (by omega)]; simp [udpH]
  have key : ∃ su, su = udpS ns S (udpB sp dp (8 + (n : Int)) 0 f) (8 + n) ∧ (0 ≤ su ∧ su ≤ 65535) ∧ ((ns = true ∧ su = 0) ∨ (ns = false ∧ su ≠ 0 ∧ rgt S (lay2 (udpB sp dp (8 + (n : Int)) 0 f) 6 su) (8 + n) = 0)) := by
    refine ⟨_, rfl, ?_⟩
    unfold udpS
    cases ns with
    | true => exact ⟨⟨by simp, by simp⟩, .inl ⟨rfl, by simp⟩⟩
    | false =>
      rw [if_neg (by decide)]
      by_cases h0 : rgt S (udpB sp dp (8 + (n : Int)) 0 f) (8 + n) = 0
      · rw [if_pos h0]
        exact ⟨⟨by omega, by omega⟩, .inr ⟨rfl, by omega, rgt_full hb0 hS 6 (8 + n) (by omega) (by omega) z6 z7 h0⟩⟩
      · rw [if_neg h0]
        exact ⟨hC, .inr ⟨rfl, h0, rgt_laid hb0 hS 6 (8 + n) (by omega) (by omega) z6 z7⟩⟩
  obtain ⟨su, hsu, hsb, hcase⟩ := key
  rw [← hsu] at hg
  have hby : Byt g := by rw [hg]; exact cat_byt 8 (udpH_byt h1 h2 (by omega) hsb) hf
  obtain ⟨e0, e1, e2, e3⟩ := udp_read (sp := sp) (dp := dp) (L := 8 + (n : Int)) (su := su) (g := g) (fun k hk => by rw [hg]; exact udpB_low k hk)
  have e4 : w2 g 4 = ((8 + n : Nat) : Int) := by rw [e2]; omega
  have hr : rgt S g (8 + n) = rgt S (lay2 (udpB sp dp (8 + (n : Int)) 0 f) 6 su) (8 + n) := by rw [hg, udpB_sum]
  refine ⟨hby, ?_, ?_, fun k => ?_⟩
  · rcases hcase with ⟨hn, h0⟩ | ⟨hn, h0, h1'⟩
    · subst hn
      have hv : v6 = false := by simpa using x1
      subst hv
      exact udpE_3 (by omega) e4 (by rw [e3, h0])
    · exact udpE_5 (by omega) e4 (by rw [e3]; exact h0) (by rw [hr]; exact h1')
  · rw [e0, e1, e3]
    rcases hcase with ⟨hn, h0⟩ | ⟨hn, h0, _⟩
    · rw [hn, decide_eq_true h0]
    · rw [hn, decide_eq_false h0]
  · rw [hg]
    unfold udpB
    rw [cat_ge (by omega)]
    congr 1
    omega
/-- 'x ^ y' of bytes. -/
theorem xor_u8 (x y : Int) (hx : 0 ≤ x ∧ x ≤ 255) (hy : 0 ≤ y ∧ y ≤ 255) : ∃ v, bits .xor .u8 x y = v ∧ 0 ≤ v ∧ v ≤ 255 ∧ (y ≠ 0 → v ≠ x) := by
  obtain ⟨X, rfl⟩ := Int.eq_ofNat_of_zero_le hx.1
  obtain ⟨Y, rfl⟩ := Int.eq_ofNat_of_zero_le hy.1
  have hX : X < 256 := by omega
  have hY : Y < 256 := by omega
  have hz : X ^^^ Y < 2 ^ 8 := Nat.xor_lt_two_pow (n := 8) hX hY
  have e : bits .xor .u8 (X : Int) (Y : Int) = IntKind.u8.wrap ((X ^^^ Y : Nat) : Int) := by
    unfold bits
    simp only [toNat_ofInt _ X (show X < 2 ^ IntKind.u8.bits by simpa [IntKind.bits] using hX), toNat_ofInt _ Y (show Y < 2 ^ IntKind.u8.bits by simpa [IntKind.bits] using hY), BitVec.toNat_xor]
  have hw : IntKind.u8.wrap ((X ^^^ Y : Nat) : Int) = ((X ^^^ Y : Nat) : Int) := wr_u8 _ (by omega)
  refine ⟨((X ^^^ Y : Nat) : Int), by rw [e, hw], by omega, by omega, fun h0 h1 => ?_⟩
  have h2 : X ^^^ Y = X := by omega
  have h3 : Y = 0 := by
    have h4 : X ^^^ (X ^^^ Y) = X ^^^ X := by rw [h2]
    rw [← Nat.xor_assoc, Nat.xor_self, Nat.zero_xor] at h4
    exact h4
  omega
end Go.Proofs.Ythjgecdnlpdcdaa
