/- Frames told by closed keys: one entry told anew; all at once. For qreg.py's regions; over any program. -/
import Derived.Test.YtdeghjhlbhpopaaFk
namespace Go.Proofs.Ytdeghjhlbhpopaa
open Go.RowKit
/-- One entry told anew, that has not come. -/
theorem FrU.swapQ {a0 a : Act} {K : List (Nat × Nat)} {V V' : Nat → Value} {l : Array Bool} (h : FrU a0 (kv K V) l a) (i : Nat) (hn : l.getD i true = false) (hV : ∀ k, k ≠ i → V k = V' k) : FrU a0 (kv K V') l a := by
  obtain ⟨h1, h2, h3, h4⟩ := h
  refine ⟨h1, h2, fun x hx hl => ?_, fun s hs => h4 s fun x hx => ?_⟩
  · obtain ⟨y, hy, rfl⟩ := List.mem_map.1 hx
    by_cases e : y.1 = i
    · have hl : l.getD y.1 false = true := hl
      rw [e] at hl
      rw [Array.getD_eq_getD_getElem?] at hl hn
      cases hq : l[i]? with
      | none => rw [hq] at hl; cases hl
      | some b =>
        rw [hq] at hl hn
        have e1 : b = true := hl
        have e2 : b = false := hn
        rw [e1] at e2
        cases e2
    · show a.tmps[y.2]?.getD undef = V' y.1
      rw [← hV y.1 e]
      exact h3 _ (List.mem_map.2 ⟨y, hy, rfl⟩) hl
  · obtain ⟨y, hy, rfl⟩ := List.mem_map.1 hx
    exact hs (y.1, y.2, V' y.1) (List.mem_map.2 ⟨y, hy, rfl⟩)
theorem FrU.allQ {a0 a : Act} {K : List (Nat × Nat)} {V : Nat → Value} {BL : List (Nat × Nat × Value)} {l : Array Bool} (h : FrU a0 (kv K V) l a) (hB : kv K V = BL) {n : Nat} (hl : ∀ i, i < n → l.getD i false = true) (hk : (keysB K && K.all fun x => decide (x.1 < n) && decide (x.2 < a0.tmps.size)) = true) : a = { tmps := setAll BL a0.tmps, defers := a0.defers } := by
  subst hB
  exact h.allK hl hk
end Go.Proofs.Ytdeghjhlbhpopaa
