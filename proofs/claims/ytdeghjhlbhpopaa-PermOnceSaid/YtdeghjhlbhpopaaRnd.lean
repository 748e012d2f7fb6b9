/- Regions that draw their order within a round of a loop over a function: one quiet walk serves, as outside; over any program. -/
import Derived.Sort.QuietThIn
import Derived.RangeFuncCalls
import Derived.Test.YtdeghjhlbhpopaaBytes
namespace Go.Proofs.Ytdeghjhlbhpopaa
set_option maxRecDepth 100000
open Go.RowKit
section
variable {F : Fence} {n : Nat} {P : Program} {ops : Array Oper} {Q : Exit → Act → World → Prop}
theorem oper_inRound {o : Oper} {a : Act} {w : World} {K : Act → World → Prop} (l : Nat) (_hro : F.round = none) (hd : ∀ c, o.op ≠ .defer c) (h : o.wpIn F n P a w K Q) : o.wpIn (F.inRound l) n P a w K Q := by
  unfold Oper.wpIn at h ⊢
  rw [Oper.semAt_eq _ _ _ hd] at h ⊢
  refine ⟨h.1, ?_⟩
  have h := h.2
  generalize (execOp a.eval o).run P w = r at *
  cases r with
  | ok x w' => cases x <;> exact h
  | halt x w' => cases x <;> exact h
theorem wpOpIn_inRound {i : Nat} {a : Act} {w : World} {K : Act → World → Prop} (l : Nat) (hro : F.round = none) (hd : ∀ (i : Nat) (o : Oper), ops[i]? = some o → ∀ c, o.op ≠ .defer c) (h : wpOpIn F n P ops Q i K a w) : wpOpIn (F.inRound l) n P ops Q i K a w := by
  unfold wpOpIn at *
  split
  · rename_i ho
    simpa only [ho] using h
  · rename_i o ho
    simp only [ho] at h
    split
    · rename_i hw
      simp only [hw, if_true] at h
      exact oper_inRound l hro (hd i o ho) h
    · rename_i hw
      simp only [hw] at h
      exact h
theorem wpAnyIn_inRound {md : Region.Mode} (l : Nat) (hro : F.round = none) (hd : ∀ (i : Nat) (o : Oper), ops[i]? = some o → ∀ c, o.op ≠ .defer c) : ∀ (fuel : Nat) (listed : Array Bool) (a : Act) (w : World), wpAnyIn F n P md ops Q fuel listed a w → wpAnyIn (F.inRound l) n P md ops Q fuel listed a w
  | 0, _, _, _, h => h
  | fuel + 1, _listed, _a, _w, h => ⟨h.1, fun i hi => wpOpIn_mono (fun a w h => wpAnyIn_inRound l hro hd fuel _ a w h) (wpOpIn_inRound l hro hd (h.2 i hi))⟩
end
section
variable {n : Nat} {P : Program} {ops : Array Oper} {C : World → Prop}
theorem quietIn_of_quiet {o : Oper} {a : Act} {K : Act → Prop} (h : o.quiet P a C K) : o.quietIn Fence.wide n P a C K := by
  obtain ⟨v, hv, hk⟩ := h
  refine ⟨v, fun w hw => ?_, hk⟩
  have h := hv w hw
  unfold Oper.quietAt at h
  unfold Oper.quietAtIn
  generalize (execOp a.eval o).run P w = r at *
  cases r with
  | ok x w' =>
    cases x with
    | enter f args => exact ⟨h.1, fun e => (nomatch e), callsIn_wide.2 h.2⟩
    | _ => exact h
  | halt x w' => exact h
theorem quietIn_mono {o : Oper} {a : Act} {K K' : Act → Prop} (h : o.quiet P a C K) (hk : ∀ a, K a → K' a) : o.quiet P a C K' := by
  obtain ⟨v, hv, h⟩ := h
  exact ⟨v, hv, hk _ h⟩
theorem wpQuietIn_of {Q : Act → Prop} : ∀ (l : List Oper) (a : Act), wpQuiet P ops C Q l a → wpQuietIn Fence.wide n P ops C Q l a
  | [], _, h => h
  | o :: rest, a, h => by
    refine ⟨fun _ _ _ _ => trivial, ?_⟩
    unfold wpQuiet at h
    by_cases hw : Region.wanted o (yielded ops a.tmps) = true
    · rw [if_pos hw] at h ⊢
      exact quietIn_of_quiet (quietIn_mono h fun a h => wpQuietIn_of rest a h)
    · rw [if_neg hw] at h ⊢
      exact wpQuietIn_of rest _ h
def noDeferB (ops : Array Oper) : Bool := (List.range ops.size).all fun i => match ops[i]? with | some o => (match o.op with | .defer _ => false | _ => true) | none => true
theorem noDeferB_spec (h : noDeferB ops = true) : ∀ (i : Nat) (o : Oper), ops[i]? = some o → ∀ c, o.op ≠ .defer c := fun i o ho c hc => by
  unfold noDeferB at h
  rw [List.all_eq_true] at h
  have hi : i < ops.size := by
    rcases Nat.lt_or_ge i ops.size with q | q
    · exact q
    · rw [Array.getElem?_eq_none q] at ho; cases ho
  have e := h i (List.mem_range.2 hi)
  simp only [ho, hc] at e
  cases e
/-- A region that draws its order, in a round, by one quiet walk. -/
theorem wpIn_region_stay {l0 id : Nat} {Q : Exit → Act → World → Prop} {a : Act} {w : World} {l : List Oper} (hm : P.follows .mixedOrders = true) (hB : Region.lexB .any l.toArray = true) (hD : noDeferB l.toArray = true)
    (h : wpQuiet P l.toArray (fun w' => ∃ W : Stay w, w' = W.w) (fun a' => ∀ w', (∃ W : Stay w, w' = W.w) → Q .normal a' w') l a) : (Code.region id l.toArray true).wpIn (Fence.wide.inRound l0) n P Q a w := by
  simp only [Region.lexB, Bool.and_eq_true] at hB
  refine wpIn_region_any hm (wpAnyIn_inRound l0 rfl (noDeferB_spec hD) _ _ _ _ (wpAnyIn_of_quiet (F := Fence.wide) (C := fun w' => ∃ W : Stay w, w' = W.w) (Q := fun a' => ∀ w', (∃ W : Stay w, w' = W.w) → Q .normal a' w') rfl (fun _ w' hw' h => h w' hw') _ _ _ _ ⟨⟨w.drew, (Below.refl _ _).drew⟩, rfl⟩ ?_))
  have := wpAnyQIn_lex (F := Fence.wide) (n := n) (P := P) (C := fun w' => ∃ W : Stay w, w' = W.w) (md := .any) hB.1 l 0 (Array.replicate l.toArray.size false) a (by simp) (by simpa using hB.2) (wpQuietIn_of l a h)
  simpa using this
end
end Go.Proofs.Ytdeghjhlbhpopaa
