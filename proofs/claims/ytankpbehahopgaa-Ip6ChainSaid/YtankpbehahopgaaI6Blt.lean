/- Layer 4's words: a chain that is built header by header. -/
import Derived.Test.YtankpbehahopgaaI6Spec
namespace Go.Proofs.Ytankpbehahopgaa
open Go.RowKit
--CUT
/-- The next header ahead of some headers, and their bytes. -/
def nxt6 (p : Int) : List (Int × Nat) → Int
  | [] => p
  | x :: _ => x.1
def byts6 (p : Int) : List (Int × Nat) → List Int
  | [] => []
  | x :: t => (nxt6 p t :: (x.2 : Int) :: List.replicate (6 + 8 * x.2) 0) ++ byts6 p t
/-- Headers that may be. -/
def may6 (x : Int × Nat) : Prop := (x.1 = 43 ∨ x.1 = 60 ∨ (x.1 = 44 ∧ x.2 = 0)) ∧ x.2 ≤ 3
theorem byts6_len (p : Int) (x : Int × Nat) (t : List (Int × Nat)) : (byts6 p (x :: t)).length = 8 + 8 * x.2 + (byts6 p t).length := by
  simp [byts6]
  omega
theorem byts6_head (p : Int) (x : Int × Nat) (t : List (Int × Nat)) : (byts6 p (x :: t)).getD 0 0 = nxt6 p t ∧ (byts6 p (x :: t)).getD 1 0 = x.2 ∧ (byts6 p (x :: t)).getD 2 0 = 0 ∧ (byts6 p (x :: t)).getD 3 0 = 0 := by
  refine ⟨by simp [byts6], by simp [byts6], ?_, ?_⟩
  · simp [byts6, List.replicate_succ, show 6 + 8 * x.2 = (4 + 8 * x.2 + 1) + 1 by omega]
  · simp [byts6, List.replicate_succ, show 6 + 8 * x.2 = (4 + 8 * x.2 + 1) + 1 by omega]
theorem byts6_tail (p : Int) (x : Int × Nat) (t : List (Int × Nat)) (j : Nat) : (byts6 p (x :: t)).getD (8 + 8 * x.2 + j) 0 = (byts6 p t).getD j 0 := by
  have hl : (nxt6 p t :: (x.2 : Int) :: List.replicate (6 + 8 * x.2) 0).length = 8 + 8 * x.2 := by simp; omega
  show ((nxt6 p t :: (x.2 : Int) :: List.replicate (6 + 8 * x.2) 0) ++ byts6 p t).getD (8 + 8 * x.2 + j) 0 = _
  simp only [List.getD]
  rw [List.getElem?_append_right (by omega), hl]
  congr 2
  omega
theorem ext6_may {x : Int × Nat} (h : may6 x) : ext6 x.1 = true := by
  obtain ⟨h | h | ⟨h, _⟩, _⟩ := h <;> rw [h] <;> rfl
/-- One header of a built chain, whole or cut. -/
theorem one6_may {x : Int × Nat} (h : may6 x) (first : Bool) {f : Nat → Int} (m : Nat) (h1 : 8 ≤ m → f 1 = x.2) (h2 : 8 ≤ m → f 2 = 0) (h3 : 8 ≤ m → f 3 = 0) : one6 x.1 first f m = if 8 + 8 * x.2 ≤ m then (8 + 8 * x.2, 0) else (0, 4) := by
  obtain ⟨hk, hw⟩ := h
  have h0 : x.1 ≠ 0 := by omega
  unfold one6
  rw [if_neg (by omega)]
  by_cases h8 : m < 8
  · rw [if_pos h8, if_neg (by omega)]
  · rw [if_neg h8]
    have e1 := h1 (by omega)
    have e2 := h2 (by omega)
    have e3 := h3 (by omega)
    have el : len6 x.1 f = 8 + 8 * x.2 := by
      unfold len6
      rw [e1]
      by_cases h44 : x.1 = 44
      · rw [if_pos h44]; omega
      · rw [if_neg h44]; omega
    rw [el]
    by_cases hm : 8 + 8 * x.2 ≤ m
    · rw [if_neg (by omega), if_pos hm, if_neg (by omega), if_neg (by rw [e2, e3]; omega)]
    · rw [if_pos (by omega), if_neg hm]
/-- A built chain: whole, too long, cut. -/
theorem chn_built {p : Int} (hp : ext6 p = false) {f : Nat → Int} : ∀ (hs : List (Int × Nat)) (k a : Nat), (∀ x, x ∈ hs → may6 x) → (∀ j, j < (byts6 p hs).length → f (a + j) = (byts6 p hs).getD j 0) →
    (hs.length ≤ k → chn f (a + (byts6 p hs).length) k (nxt6 p hs) a = (p, a + (byts6 p hs).length, 0)) ∧ (k < hs.length → chn f (a + (byts6 p hs).length) k (nxt6 p hs) a = (0, 0, 3)) ∧
    (∀ c, hs.length ≤ k → c < (byts6 p hs).length → chn f (a + c) k (nxt6 p hs) a = (0, 0, 4))
  | [], k, a, _, _ => by
    have hn : ¬ ext6 p = true := by rw [hp]; decide
    refine ⟨fun _ => ?_, fun h => by simp at h, fun c _ hc => by simp [byts6] at hc⟩
    show chn f (a + 0) k p a = (p, a + 0, 0)
    cases k with
    | zero => unfold chn; rw [if_neg hn]; rfl
    | succ k => unfold chn; rw [if_neg hn]; rfl
  | x :: t, 0, a, hm, _ => by
    refine ⟨fun h => by simp at h, fun _ => ?_, fun c h => by simp at h⟩
    show chn f _ 0 x.1 a = _
    unfold chn
    rw [if_pos (ext6_may (hm x (by simp)))]
  | x :: t, k + 1, a, hm, hf => by
    have hx := hm x (by simp)
    obtain ⟨b0, b1, b2, b3⟩ := byts6_head p x t
    have hl := byts6_len p x t
    have hone : ∀ c, c ≤ (byts6 p (x :: t)).length → one6 x.1 (decide (k = 7)) (fun j => f (a + j)) (a + c - a) = if 8 + 8 * x.2 ≤ c then (8 + 8 * x.2, 0) else (0, 4) := fun c hc => by
      rw [show a + c - a = c by omega]
      exact one6_may hx _ c (fun h => by show f (a + 1) = _; rw [hf 1 (by omega), b1]) (fun h => by show f (a + 2) = _; rw [hf 2 (by omega), b2]) (fun h => by show f (a + 3) = _; rw [hf 3 (by omega), b3])
    have hfa : f a = nxt6 p t := by
      have := hf 0 (by omega)
      rw [Nat.add_zero] at this
      rw [this, b0]
    obtain ⟨i1, i2, i3⟩ := chn_built hp t k (a + (8 + 8 * x.2)) (fun y hy => hm y (by simp [hy])) (fun j hj => by
      have := hf (8 + 8 * x.2 + j) (by omega)
      rw [byts6_tail] at this
      rw [← this]
      congr 1
      omega)
    have hstep : ∀ c, c ≤ (byts6 p (x :: t)).length → chn f (a + c) (k + 1) x.1 a = if 8 + 8 * x.2 ≤ c then chn f (a + c) k (nxt6 p t) (a + (8 + 8 * x.2)) else (0, 0, 4) := fun c hc => by
      unfold chn
      rw [if_pos (ext6_may hx), hone c hc, hfa]
      by_cases q : 8 + 8 * x.2 ≤ c
      · rw [if_pos q, if_pos q, if_pos rfl]
        cases k <;> rfl
      · rw [if_neg q, if_neg q]
        rfl
    have hfull := hstep (byts6 p (x :: t)).length (Nat.le_refl _)
    rw [if_pos (by omega)] at hfull
    have hN : a + (byts6 p (x :: t)).length = a + (8 + 8 * x.2) + (byts6 p t).length := by omega
    refine ⟨fun h => ?_, fun h => ?_, fun c h hc => ?_⟩
    · show chn f _ (k + 1) x.1 a = _
      rw [hfull, hN]
      exact i1 (by simpa using h)
    · show chn f _ (k + 1) x.1 a = _
      rw [hfull, hN]
      exact i2 (by simpa using h)
    · show chn f _ (k + 1) x.1 a = _
      rw [hstep c (by omega)]
      by_cases q : 8 + 8 * x.2 ≤ c
      · rw [if_pos q, show a + c = a + (8 + 8 * x.2) + (c - (8 + 8 * x.2)) by omega]
        exact i3 _ (by simpa using h) (by omega)
      · rw [if_neg q]
end Go.Proofs.Ytankpbehahopgaa
