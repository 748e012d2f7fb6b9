/- Layer 4's words: a chain of extension headers. -/
import Derived.Test.YtfaelihfjmaekaaBytes
namespace Go.Proofs.Ytfaelihfjmaekaa
open Go.RowKit
--CUT
/-- Is a next header an extension header? -/
def ext6 (k : Int) : Bool := k == 0 || k == 43 || k == 44 || k == 60
/-- How many bytes one says that it has. -/
def len6 (k : Int) (f : Nat → Int) : Nat := if k = 44 then 8 else 8 + 8 * (f 1).toNat
/-- How many bytes one has that begins m bytes, and what is wrong with it. -/
def one6 (k : Int) (first : Bool) (f : Nat → Int) (m : Nat) : Nat × Int :=
  if k = 0 ∧ first = false then (0, 5)
  else if m < 8 then (0, 4)
  else if m < len6 k f then (0, 4)
  else if k = 43 ∧ f 3 ≠ 0 then (0, 12)
  else if k = 44 ∧ ((f 2 * 256 + f 3) / 8 ≠ 0 ∨ (f 2 * 256 + f 3) % 2 = 1) then (0, 11)
  else (len6 k f, 0)
/-- A chain from a place on, of at most so many headers more. -/
def chn (f : Nat → Int) (N : Nat) : Nat → Int → Nat → Int × Nat × Int
  | 0, next, a => if ext6 next = true then (0, 0, 3) else (next, a, 0)
  | k + 1, next, a => if ext6 next = true then
      (if (one6 next (decide (k = 7)) (fun j => f (a + j)) (N - a)).2 = 0 then chn f N k (f a) (a + (one6 next (decide (k = 7)) (fun j => f (a + j)) (N - a)).1)
       else (0, 0, (one6 next (decide (k = 7)) (fun j => f (a + j)) (N - a)).2))
    else (next, a, 0)
theorem one6_ok {k : Int} {first : Bool} {f : Nat → Int} {m : Nat} (h : (one6 k first f m).2 = 0) : 8 ≤ (one6 k first f m).1 ∧ (one6 k first f m).1 ≤ m ∧ (one6 k first f m).1 = len6 k f := by
  unfold one6 at *
  split at h
  · cases h
  rename_i q1
  rw [if_neg q1]
  split at h
  · cases h
  rename_i q2
  rw [if_neg q2]
  split at h
  · cases h
  rename_i q3
  rw [if_neg q3]
  split at h
  · cases h
  rename_i q4
  rw [if_neg q4]
  split at h
  · cases h
  rename_i q5
  rw [if_neg q5]
  refine ⟨?_, by simpa using q3, rfl⟩
  show 8 ≤ len6 k f
  unfold len6
  split <;> omega
/-- One header hangs on its own bytes, if it is whole. -/
theorem one6_same {k : Int} {first : Bool} {f g : Nat → Int} {m m' : Nat} (h : (one6 k first f m).2 = 0) (hm : (one6 k first f m).1 ≤ m') (hg : ∀ j, j < (one6 k first f m).1 → g j = f j) : one6 k first g m' = one6 k first f m := by
  obtain ⟨a, b, c⟩ := one6_ok h
  have e1 := hg 1 (by omega)
  have e2 := hg 2 (by omega)
  have e3 := hg 3 (by omega)
  rw [c] at hm
  have q : ¬ (k = 0 ∧ first = false) ∧ ¬ (k = 43 ∧ f 3 ≠ 0) ∧ ¬ (k = 44 ∧ ((f 2 * 256 + f 3) / 8 ≠ 0 ∨ (f 2 * 256 + f 3) % 2 = 1)) ∧ ¬ m < 8 ∧ ¬ m < len6 k f := by
    unfold one6 at h
    split at h
    · cases h
    split at h
    · cases h
    split at h
    · cases h
    split at h
    · cases h
    split at h
    · cases h
    rename_i q1 q2 q3 q4 q5
    exact ⟨q1, q4, q5, q2, q3⟩
  obtain ⟨q1, q4, q5, q2, q3⟩ := q
  have el : len6 k g = len6 k f := by unfold len6; rw [e1]
  have q8 : 8 ≤ len6 k f := by rw [← c]; exact a
  unfold one6
  rw [el, e2, e3, if_neg q1, if_neg (show ¬ m' < 8 by omega), if_neg (show ¬ m' < len6 k f by omega), if_neg q4, if_neg q5, if_neg q1, if_neg q2, if_neg q3]
/-- A chain hangs on its own bytes. -/
theorem chn_same {f g : Nat → Int} {N N' : Nat} : ∀ (k : Nat) (next : Int) (a : Nat) (p : Int) (n : Nat), chn f N k next a = (p, n, 0) → a ≤ N → (n ≤ N' → (∀ j, j < n → g j = f j) → chn g N' k next a = (p, n, 0)) ∧ a ≤ n ∧ n ≤ N
  | 0, next, a, p, n, h, ha => by
    unfold chn at h
    split at h
    · injection h with _ h
      injection h with _ h
      cases h
    · rename_i q
      injection h with h1 h2
      injection h2 with h2 _
      subst h1 h2
      refine ⟨fun _ _ => ?_, Nat.le_refl _, ha⟩
      unfold chn
      rw [if_neg q]
  | k + 1, next, a, p, n, h, ha => by
    unfold chn at h
    split at h
    · rename_i q
      split at h
      · rename_i h0
        obtain ⟨b1, b2, _⟩ := one6_ok h0
        obtain ⟨ih, l1, l2⟩ := chn_same k _ _ p n h (by omega)
        refine ⟨fun hn hg => ?_, by omega, l2⟩
        have e := one6_same (g := fun j => g (a + j)) (m' := N' - a) h0 (by omega) (fun j hj => hg _ (by omega))
        unfold chn
        rw [if_pos q, e, if_pos h0, hg a (by omega)]
        exact ih hn hg
      · rename_i h0
        injection h with _ h
        injection h with _ h
        exact absurd h h0
    · rename_i q
      injection h with h1 h2
      injection h2 with h2 _
      subst h1 h2
      refine ⟨fun _ _ => ?_, Nat.le_refl _, ha⟩
      unfold chn
      rw [if_neg q]
theorem chn_congr {f g : Nat → Int} {N : Nat} (h : ∀ j, j < N → g j = f j) : ∀ (k : Nat) (next : Int) (a : Nat), a ≤ N → chn g N k next a = chn f N k next a
  | 0, _, _, _ => rfl
  | k + 1, next, a, ha => by
    have e : one6 next (decide (k = 7)) (fun j => g (a + j)) (N - a) = one6 next (decide (k = 7)) (fun j => f (a + j)) (N - a) := by
      unfold one6
      by_cases h8 : N - a < 8
      · rw [if_pos h8, if_pos h8]
      · have el : len6 next (fun j => g (a + j)) = len6 next (fun j => f (a + j)) := by
          unfold len6
          show (if next = 44 then 8 else 8 + 8 * (g (a + 1)).toNat) = (if next = 44 then 8 else 8 + 8 * (f (a + 1)).toNat)
          rw [h (a + 1) (by omega)]
        have e2 : g (a + 2) = f (a + 2) := h (a + 2) (by omega)
        have e3 : g (a + 3) = f (a + 3) := h (a + 3) (by omega)
        simp only [el, e2, e3]
    unfold chn
    rw [e]
    split
    · split
      · rename_i h0
        obtain ⟨b1, b2, _⟩ := one6_ok h0
        rw [h a (by omega)]
        exact chn_congr h k _ _ (by omega)
      · rfl
    · rfl
theorem chn_bad {f : Nat → Int} {N : Nat} : ∀ (k : Nat) (next : Int) (a : Nat), (chn f N k next a).2.2 ≠ 0 → (chn f N k next a).1 = 0 ∧ (chn f N k next a).2.1 = 0
  | 0, next, a, h => by
    unfold chn at *
    split at h
    · rename_i q; rw [if_pos q]; exact ⟨rfl, rfl⟩
    · exact absurd rfl h
  | k + 1, next, a, h => by
    unfold chn at *
    split at h
    · rename_i q
      rw [if_pos q]
      split at h
      · rename_i h0
        rw [if_pos h0]
        exact chn_bad k _ _ h
      · rename_i h0
        rw [if_neg h0]
        exact ⟨rfl, rfl⟩
    · exact absurd rfl h
end Go.Proofs.Ytfaelihfjmaekaa
