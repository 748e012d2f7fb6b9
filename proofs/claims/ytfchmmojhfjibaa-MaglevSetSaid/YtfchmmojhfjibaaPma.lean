/- Stage 17: primes in pure words; what is asked of the program. -/
import Derived.Test.YtfchmmojhfjibaaQg
namespace Go.Proofs.Ytfchmmojhfjibaa
set_option maxRecDepth 100000
open Go.RowKit Go.Shelf
/-- d is the least number from 2 on that divides n. -/
structure LdAt (n d : Nat) : Prop where
  two : 2 ≤ d
  div : n % d = 0
  low : ∀ k, 2 ≤ k → k < d → n % k ≠ 0
theorem LdAt.one {n a b : Nat} (h : LdAt n a) (k : LdAt n b) : a = b := by
  rcases Nat.lt_trichotomy a b with q | q | q
  · exact absurd h.div (k.low a h.two q)
  · exact q
  · exact absurd k.div (h.low b k.two q)
theorem LdAt.le {n d : Nat} (h : LdAt n d) (hn : 2 ≤ n) : d ≤ n := by
  rcases Nat.lt_or_ge n d with q | q
  · exact absurd (Nat.mod_self n) (h.low n hn q)
  · exact q
theorem ld_ex {n : Nat} (hn : 2 ≤ n) : ∃ d, LdAt n d := by
  have : ∀ m k, 2 ≤ k → n ≤ k + m → (∀ j, 2 ≤ j → j < k → n % j ≠ 0) → ∃ d, LdAt n d := by
    intro m
    induction m with
    | zero =>
      intro k hk hm hl
      by_cases e : n < k
      · exact absurd (Nat.mod_self n) (hl n hn e)
      · obtain rfl : n = k := by omega
        exact ⟨n, hk, Nat.mod_self n, hl⟩
    | succ m ih =>
      intro k hk hm hl
      by_cases e : n % k = 0
      · exact ⟨k, hk, e, hl⟩
      · refine ih (k + 1) (by omega) (by omega) fun j hj hjk => ?_
        rcases (show j < k ∨ j = k by omega) with q | rfl
        · exact hl j hj q
        · exact e
  exact this n 2 (Nat.le_refl _) (by omega) fun j hj hj2 => by omega
/-- The least divisor from 2 on; 0 where there is none. -/
noncomputable def ld (n : Nat) : Nat := open Classical in if h : 2 ≤ n then Classical.choose (ld_ex h) else 0
theorem ld_at {n : Nat} (hn : 2 ≤ n) : LdAt n (ld n) := by
  unfold ld
  rw [dif_pos hn]
  exact Classical.choose_spec (ld_ex hn)
theorem ld_is {n d : Nat} (hn : 2 ≤ n) (h : LdAt n d) : ld n = d := (ld_at hn).one h
/-- A number that no number from 2 on whose square is at most it divides is its own least divisor. -/
theorem ld_sq {n : Nat} (hn : 2 ≤ n) (h : ∀ k, 2 ≤ k → k * k ≤ n → n % k ≠ 0) : ld n = n := by
  refine ld_is hn ⟨hn, Nat.mod_self n, fun k hk hkn hz => ?_⟩
  by_cases hs : k * k ≤ n
  · exact h k hk hs hz
  · obtain ⟨q, hq⟩ : ∃ q, q = n / k := ⟨_, rfl⟩
    have hn' : k * q = n := by
      have := Nat.div_add_mod n k
      rw [hz, ← hq] at this
      omega
    have hq2 : 2 ≤ q := by
      rcases (show q = 0 ∨ q = 1 ∨ 2 ≤ q by omega) with r | r | r
      · rw [r] at hn'; omega
      · rw [r] at hn'; omega
      · exact r
    have hqk : q < k := by
      rcases Nat.lt_or_ge q k with r | r
      · exact r
      · have := Nat.mul_le_mul_left k r
        omega
    refine h q hq2 ?_ ?_
    · have := Nat.mul_le_mul_right q (Nat.le_of_lt hqk)
      omega
    · rw [← hn']
      exact Nat.mul_mod_left k q
noncomputable def lst (n : Int) : Nat := if 2 ≤ n ∧ n ≤ 1048576 then ld n.toNat else 0
noncomputable def isP (n : Int) : Bool := decide (2 ≤ n) && (decide (n ≤ 1048576) && decide (ld n.toNat = n.toNat))
noncomputable def szP (n : Int) : Bool := decide (7 ≤ n) && (decide (n ≤ 65537) && isP n)
/-- The next size is x. -/
def NxAt (n : Int) (x : Nat) : Prop := szP x = true ∧ n ≤ (x : Int) ∧ ∀ y : Nat, n ≤ (y : Int) → y < x → szP y = false
theorem szP_le {x : Nat} (h : szP x = true) : 7 ≤ x ∧ x ≤ 65537 ∧ ld x = x := by
  unfold szP isP at h
  simp only [Bool.and_eq_true, decide_eq_true_eq] at h
  obtain ⟨h1, h2, h3, h4, h5⟩ := h
  rw [Int.toNat_natCast] at h5
  omega
theorem szP_of {x : Nat} (h1 : 7 ≤ x) (h2 : x ≤ 65537) (h3 : ld x = x) : szP x = true := by
  unfold szP isP
  simp only [Bool.and_eq_true, decide_eq_true_eq, Int.toNat_natCast]
  omega
noncomputable def nxV (n : Int) : Nat × Int := open Classical in if h : ∃ x, NxAt n x then (Classical.choose h, 0) else (0, 15)
end Go.Proofs.Ytfchmmojhfjibaa
