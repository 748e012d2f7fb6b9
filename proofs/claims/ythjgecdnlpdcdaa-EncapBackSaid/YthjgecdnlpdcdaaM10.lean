import Derived.Test.YthjgecdnlpdcdaaM0
/- Layer 3's words: what options are, a header's bytes. -/
namespace Go.Proofs.Ythjgecdnlpdcdaa
open Go.RowKit
--CUT
/-- The kinds of the options of n bytes, from a place on; none: they are not of the form. -/
def optK (f : Nat → Int) (n at_ : Nat) : Option (List Int) :=
  if _h : n ≤ at_ ∨ f at_ = 0 then some []
  else if f at_ = 1 then (optK f n (at_ + 1)).map (1 :: ·)
  else if _h2 : at_ + 1 = n ∨ f (at_ + 1) < 2 then none
  else if n < at_ + (f (at_ + 1)).toNat then none
  else (optK f n (at_ + (f (at_ + 1)).toNat)).map (f at_ :: ·)
termination_by n - at_
decreasing_by
  · omega
  · omega
/-- Is it a route? -/
def route (x : Int) : Bool := x == 131 || x == 137
/-- What Options tells. -/
def optE (f : Nat → Int) (n : Nat) : Int :=
  if 40 < n ∨ n % 4 ≠ 0 then 5 else match optK f n 0 with
    | none => 5
    | some ks => if ks.any route then 12 else 0
theorem optK_end {f : Nat → Int} {n a : Nat} (h : n ≤ a ∨ f a = 0) : optK f n a = some [] := by
  unfold optK
  rw [dif_pos h]
theorem optK_one {f : Nat → Int} {n a : Nat} (h : a < n) (h1 : f a = 1) : optK f n a = (optK f n (a + 1)).map (1 :: ·) := by
  rw [optK, dif_neg (by omega), if_pos h1]
theorem optK_bad {f : Nat → Int} {n a : Nat} (h : a < n) (h0 : f a ≠ 0) (h1 : f a ≠ 1) (h2 : a + 1 = n ∨ f (a + 1) < 2) : optK f n a = none := by
  rw [optK, dif_neg (by omega), if_neg h1, dif_pos h2]
theorem optK_over {f : Nat → Int} {n a : Nat} (h : a < n) (h0 : f a ≠ 0) (h1 : f a ≠ 1) (h2 : ¬ (a + 1 = n ∨ f (a + 1) < 2)) (h3 : n < a + (f (a + 1)).toNat) : optK f n a = none := by
  rw [optK, dif_neg (by omega), if_neg h1, dif_neg h2, if_pos h3]
theorem optK_more {f : Nat → Int} {n a : Nat} (h : a < n) (h0 : f a ≠ 0) (h1 : f a ≠ 1) (h2 : ¬ (a + 1 = n ∨ f (a + 1) < 2)) (h3 : ¬ n < a + (f (a + 1)).toNat) : optK f n a = (optK f n (a + (f (a + 1)).toNat)).map (f a :: ·) := by
  rw [optK, dif_neg (by omega), if_neg h1, dif_neg h2, if_neg h3]
/-- Options hang on their bytes alone. -/
theorem optK_congr {f g : Nat → Int} {n : Nat} (h : ∀ k, k < n → g k = f k) : ∀ m a, n - a ≤ m → optK g n a = optK f n a := by
  intro m
  induction m with
  | zero =>
    intro a ha
    rw [optK_end (.inl (by omega)), optK_end (.inl (by omega))]
  | succ m ih =>
    intro a ha
    by_cases hn : n ≤ a
    · rw [optK_end (.inl hn), optK_end (.inl hn)]
    · have e := h a (by omega)
      by_cases h0 : f a = 0
      · rw [optK_end (.inr (by rw [e]; exact h0)), optK_end (.inr h0)]
      · by_cases h1 : f a = 1
        · rw [optK_one (by omega) (by rw [e]; exact h1), optK_one (by omega) h1, ih (a + 1) (by omega)]
        · by_cases h2 : a + 1 = n
          · rw [optK_bad (by omega) (by rw [e]; exact h0) (by rw [e]; exact h1) (.inl h2), optK_bad (by omega) h0 h1 (.inl h2)]
          · have e2 := h (a + 1) (by omega)
            by_cases h3 : f (a + 1) < 2
            · rw [optK_bad (by omega) (by rw [e]; exact h0) (by rw [e]; exact h1) (.inr (by rw [e2]; exact h3)), optK_bad (by omega) h0 h1 (.inr h3)]
            · by_cases h4 : n < a + (f (a + 1)).toNat
              · rw [optK_over (by omega) (by rw [e]; exact h0) (by rw [e]; exact h1) (by rw [e2]; omega) (by rw [e2]; exact h4), optK_over (by omega) h0 h1 (by omega) h4]
              · rw [optK_more (by omega) (by rw [e]; exact h0) (by rw [e]; exact h1) (by rw [e2]; omega) (by rw [e2]; exact h4), optK_more (by omega) h0 h1 (by omega) h4, e, e2, ih _ (by omega)]
theorem optE_congr {f g : Nat → Int} {n : Nat} (h : ∀ k, k < n → g k = f k) : optE g n = optE f n := by
  unfold optE
  rw [optK_congr h n 0 (by omega)]
theorem optE_cases (f : Nat → Int) (n : Nat) : optE f n = 0 ∨ optE f n = 5 ∨ optE f n = 12 := by
  unfold optE
  split
  · exact .inr (.inl rfl)
  · split
    · exact .inr (.inl rfl)
    · split
      · exact .inr (.inr rfl)
      · exact .inl rfl
theorem optE_ok {f : Nat → Int} {n : Nat} (h : optE f n = 0) : n ≤ 40 ∧ n % 4 = 0 := by
  unfold optE at h
  split at h
  · omega
  · omega
end Go.Proofs.Ythjgecdnlpdcdaa
