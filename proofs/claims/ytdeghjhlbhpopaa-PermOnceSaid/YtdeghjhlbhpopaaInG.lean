/- A region that draws its order, by what holds whatever has come up so far, with guards that are known. Over any program. -/
import Derived.Test.YtdeghjhlbhpopaaInv
namespace Go.Proofs.Ytdeghjhlbhpopaa
open Go.RowKit
section
variable {P : Program} {ops : Array Oper} {Q : Exit → Act → World → Prop}
theorem wpAny_invG (I : Array Bool → Act → World → Prop) (hI : ∀ l a w, I l a w → l.size = ops.size) (hord : ∀ (i : Nat) (o : Oper), ops[i]? = some o → ∀ e, e ∈ o.after → Region.binds .any e = true → e.on < i)
    (hstep : ∀ l a w i o, I l a w → ops[i]? = some o → l.getD i true = false → (∀ e, e ∈ o.after → Region.binds .any e = true → l.getD e.on false = true) → Region.wanted o (yielded ops a.tmps) = true ∧ o.wp P a w (fun a' w' => I (l.setIfInBounds i true) a' w') Q)
    (hend : ∀ l a w, I l a w → (∀ i, i < ops.size → l.getD i false = true) → Q .normal a w) :
    ∀ fuel l a w, I l a w → unl l ≤ fuel → wpAny P .any ops Q fuel l a w
  | 0, l, a, w, h, hf => by
    have hr : Region.ready .any ops l = [] := by
      cases hc : Region.ready .any ops l with
      | nil => rfl
      | cons i r =>
        have hm : i ∈ Region.ready .any ops l := by rw [hc]; exact .head _
        exact absurd (Nat.le_zero.1 hf) (unl_none (rdy_spec hm).2.1)
    exact ⟨hr, hend l a w h (all_come hord (hI l a w h) hr)⟩
  | fuel + 1, l, a, w, h, hf => by
    refine ⟨fun hr => hend l a w h (all_come hord (hI l a w h) hr), fun i hi => ?_⟩
    obtain ⟨h1, h2, h3⟩ := rdy_spec hi
    have ho : ops[i]? = some ops[i] := Array.getElem?_eq_getElem h1
    obtain ⟨hw, hs⟩ := hstep l a w i _ h ho h2 (h3 _ ho)
    unfold wpOp
    rw [ho]
    show if Region.wanted ops[i] (yielded ops a.tmps) = true then _ else _
    rw [if_pos hw]
    refine .inl (Oper.wp_mono (fun a' w' h' => ?_) hs)
    exact wpAny_invG I hI hord hstep hend fuel _ a' w' h' (by have := unl_set h2; omega)
def ordG (ops : Array Oper) : Bool := (List.range ops.size).all fun i => match ops[i]? with | some o => o.after.all (fun e => !Region.binds .any e || decide (e.on < i)) | none => true
theorem ordG_spec (h : ordG ops = true) : ∀ (i : Nat) (o : Oper), ops[i]? = some o → ∀ e, e ∈ o.after → Region.binds .any e = true → e.on < i := fun i o ho e he hbe => by
  have hi : i < ops.size := (Array.getElem?_eq_some_iff.1 ho).1
  unfold ordG at h
  have r := List.all_eq_true.1 h i (List.mem_range.2 hi)
  rw [ho] at r
  have r2 := Array.all_eq_true'.1 r e he
  rw [hbe] at r2
  exact of_decide_eq_true (by simpa using r2)
theorem wp_region_invG {id : Nat} {a : Act} {w : World} (I : Act → Array Bool → Act → World → Prop) (hm : P.follows .mixedOrders = true) (hI : ∀ l a' w, I a l a' w → l.size = ops.size)
    (hB : ordG ops = true) (h0 : I a (Array.replicate ops.size false) a w.drew)
    (hstep : ∀ l a' w i o, I a l a' w → ops[i]? = some o → l.getD i true = false → (∀ e, e ∈ o.after → Region.binds .any e = true → l.getD e.on false = true) → Region.wanted o (yielded ops a'.tmps) = true ∧ o.wp P a' w (fun a'' w' => I a (l.setIfInBounds i true) a'' w') Q)
    (hend : ∀ l a' w, I a l a' w → (∀ i, i < ops.size → l.getD i false = true) → Q .normal a' w) : (Code.region id ops true).wp P Q a w :=
  wp_region_any hm (wpAny_invG (I a) hI (ordG_spec hB) hstep hend ops.size _ _ _ h0 (by
    unfold unl
    have := List.countP_le_length (p := fun b => !b) (l := (Array.replicate ops.size false).toList)
    simpa using this))
theorem yld {j s : Nat} {b : Bool} {oj : Oper} {t : Array Value} (h : ops[j]? = some oj) (hd : oj.dst = some s) (ht : t[s]?.getD undef = .bool b) : yielded ops t j = some b := by
  unfold yielded
  rw [h]
  simp only [Option.bind_some, hd]
  cases hc : t[s]? with
  | none => rw [hc] at ht; cases ht
  | some v => rw [hc] at ht; cases (show v = .bool b from ht); rfl
theorem wanted_of {o : Oper} {j s : Nat} {b : Bool} {oj : Oper} {t : Array Value} (hg : o.guard = some (j, b)) (h : ops[j]? = some oj) (hd : oj.dst = some s) (ht : t[s]?.getD undef = .bool b) : Region.wanted o (yielded ops t) = true := by
  unfold Region.wanted
  rw [hg]
  simp [yld h hd ht]
end
end Go.Proofs.Ytdeghjhlbhpopaa
