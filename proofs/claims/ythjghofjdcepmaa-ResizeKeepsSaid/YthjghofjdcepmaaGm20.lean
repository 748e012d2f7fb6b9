import Derived.Test.YthjghofjdcepmaaGm0
import Derived.RegionTactic
/- A region that draws its order, by what holds whatever has come up so far. Over any program. -/
namespace Go.Proofs.Ythjghofjdcepmaa
open Go.RowKit
section
variable {P : Program} {ops : Array Oper} {Q : Exit → Act → World → Prop}
theorem rdy_spec {listed : Array Bool} {i : Nat} (h : i ∈ Region.ready .any ops listed) : i < ops.size ∧ listed.getD i true = false ∧ ∀ o, ops[i]? = some o → ∀ e, e ∈ o.after → Region.binds .any e = true → listed.getD e.on false = true := by
  unfold Region.ready at h
  rw [List.mem_filter] at h
  obtain ⟨h1, h2⟩ := h
  rw [Bool.and_eq_true] at h2
  refine ⟨List.mem_range.1 h1, by simpa using h2.1, fun o ho e he hb => ?_⟩
  have h3 := h2.2
  rw [ho] at h3
  simp only [Option.map_some, Option.getD_some, Array.all_eq_true'] at h3
  have q := h3 e he
  simpa [hb] using q
theorem all_come {l : Array Bool} (hord : ∀ (i : Nat) (o : Oper), ops[i]? = some o → ∀ e, e ∈ o.after → Region.binds .any e = true → e.on < i) (hl : l.size = ops.size) (h : Region.ready .any ops l = []) : ∀ i, i < ops.size → l.getD i false = true := by
  intro i
  induction i using Nat.strongRecOn with
  | ind i ih =>
    intro hi
    cases hc : l.getD i false with
    | true => rfl
    | false =>
      exfalso
      have hm : i ∈ Region.ready .any ops l := by
        unfold Region.ready
        rw [List.mem_filter]
        refine ⟨List.mem_range.2 hi, ?_⟩
        have ht : l.getD i true = false := by
          rw [Array.getD_eq_getD_getElem?] at hc ⊢
          rw [Array.getElem?_eq_getElem (by omega)] at hc ⊢
          exact hc
        have ho : ops[i]? = some ops[i] := Array.getElem?_eq_getElem hi
        rw [ht, ho]
        simp only [Option.map_some, Option.getD_some, Bool.not_false, Bool.true_and, Array.all_eq_true']
        intro e he
        cases hbe : Region.binds .any e with
        | false => rfl
        | true =>
          have hlt := hord i _ ho e he hbe
          rw [ih e.on hlt (by omega)]
          rfl
      rw [h] at hm
      cases hm
def unl (l : Array Bool) : Nat := l.toList.countP (fun b => !b)
theorem unl_set {l : Array Bool} {i : Nat} (h : l.getD i true = false) : unl (l.setIfInBounds i true) + 1 = unl l := by
  have hi : i < l.toList.length := by
    rcases Nat.lt_or_ge i l.size with q | q
    · simpa using q
    · rw [Array.getD_eq_getD_getElem?, Array.getElem?_eq_none q] at h; cases h
  have hv : l.toList[i] = false := by
    rw [Array.getD_eq_getD_getElem?, Array.getElem?_eq_getElem (by simpa using hi)] at h
    simpa using h
  unfold unl
  rw [Array.toList_setIfInBounds, List.countP_set hi, hv]
  have hp : 0 < l.toList.countP (fun b => !b) := List.countP_pos_iff.2 ⟨_, List.getElem_mem hi, by rw [hv]; rfl⟩
  simp only [Bool.not_false, Bool.not_true, if_true, Bool.false_eq_true, if_false]
  omega
theorem unl_none {l : Array Bool} {i : Nat} (h : l.getD i true = false) : unl l ≠ 0 := by
  have := unl_set h
  omega
theorem wpAny_inv (I : Array Bool → Act → World → Prop) (hI : ∀ l a w, I l a w → l.size = ops.size) (hord : ∀ (i : Nat) (o : Oper), ops[i]? = some o → ∀ e, e ∈ o.after → Region.binds .any e = true → e.on < i) (hg : ∀ (i : Nat) (o : Oper), ops[i]? = some o → o.guard = none)
    (hstep : ∀ l a w i o, I l a w → ops[i]? = some o → l.getD i true = false → (∀ e, e ∈ o.after → Region.binds .any e = true → l.getD e.on false = true) → o.wp P a w (fun a' w' => I (l.setIfInBounds i true) a' w') Q)
    (hend : ∀ l a w, I l a w → (∀ i, i < ops.size → l.getD i false = true) → Q .normal a w) :
    ∀ fuel l a w, I l a w → unl l ≤ fuel → wpAny P .any ops Q fuel l a w
  | 0, l, a, w, h, hf => by
    have hr : Region.ready .any ops l = [] := by
      cases hc : Region.ready .any ops l with
      | nil => rfl
      | cons i r =>
        have hm : i ∈ Region.ready .any ops l := by rw [hc]; exact .head _
        exact absurd (Nat.le_zero.1 hf) (unl_none (rdy_spec hm).2.1)
    exact ⟨hr, hend l a w h (all_come hord (hI l a w h) hr)⟩
  | fuel + 1, l, a, w, h, hf => by
    refine ⟨fun hr => hend l a w h (all_come hord (hI l a w h) hr), fun i hi => ?_⟩
    obtain ⟨h1, h2, h3⟩ := rdy_spec hi
    have ho : ops[i]? = some ops[i] := Array.getElem?_eq_getElem h1
    have hs := hstep l a w i _ h ho h2 (h3 _ ho)
    unfold wpOp
    rw [ho]
    show if Region.wanted ops[i] (yielded ops a.tmps) = true then _ else _
    rw [if_pos (by unfold Region.wanted; rw [hg i _ ho])]
    refine .inl (Oper.wp_mono (fun a' w' h' => ?_) hs)
    exact wpAny_inv I hI hord hg hstep hend fuel _ a' w' h' (by have := unl_set h2; omega)
def ordB (ops : Array Oper) : Bool := (List.range ops.size).all fun i => match ops[i]? with | some o => o.after.all (fun e => !Region.binds .any e || decide (e.on < i)) && o.guard.isNone | none => true
theorem ordB_spec (h : ordB ops = true) : (∀ (i : Nat) (o : Oper), ops[i]? = some o → ∀ e, e ∈ o.after → Region.binds .any e = true → e.on < i) ∧ ∀ (i : Nat) (o : Oper), ops[i]? = some o → o.guard = none := by
  have q : ∀ (i : Nat) (o : Oper), ops[i]? = some o → (o.after.all (fun e => !Region.binds .any e || decide (e.on < i)) && o.guard.isNone) = true := fun i o ho => by
    have hi : i < ops.size := (Array.getElem?_eq_some_iff.1 ho).1
    unfold ordB at h
    have r := List.all_eq_true.1 h i (List.mem_range.2 hi)
    rw [ho] at r
    exact r
  refine ⟨fun i o ho e he hbe => ?_, fun i o ho => ?_⟩
  · have r := (Bool.and_eq_true _ _ ▸ q i o ho : _ ∧ _).1
    have r2 := Array.all_eq_true'.1 r e he
    rw [hbe] at r2
    exact of_decide_eq_true (by simpa using r2)
  · have r := (Bool.and_eq_true _ _ ▸ q i o ho : _ ∧ _).2
    simpa using r
theorem wp_region_inv {id : Nat} {a : Act} {w : World} (I : Array Bool → Act → World → Prop) (hm : P.follows .mixedOrders = true) (hI : ∀ l a w, I l a w → l.size = ops.size)
    (hB : ordB ops = true) (h0 : I (Array.replicate ops.size false) a w.drew)
    (hstep : ∀ l a w i o, I l a w → ops[i]? = some o → l.getD i true = false → (∀ e, e ∈ o.after → Region.binds .any e = true → l.getD e.on false = true) → o.wp P a w (fun a' w' => I (l.setIfInBounds i true) a' w') Q)
    (hend : ∀ l a w, I l a w → (∀ i, i < ops.size → l.getD i false = true) → Q .normal a w) : (Code.region id ops true).wp P Q a w :=
  wp_region_any hm (wpAny_inv I hI (ordB_spec hB).1 (ordB_spec hB).2 hstep hend ops.size _ _ _ h0 (by
    unfold unl
    have := List.countP_le_length (p := fun b => !b) (l := (Array.replicate ops.size false).toList)
    simpa using this))
/-- .. where what holds speaks of the frame ahead. -/
theorem wp_region_inv2 {id : Nat} {a : Act} {w : World} (I : Act → Array Bool → Act → World → Prop) (hm : P.follows .mixedOrders = true) (hI : ∀ l a' w, I a l a' w → l.size = ops.size)
    (hB : ordB ops = true) (h0 : I a (Array.replicate ops.size false) a w.drew)
    (hstep : ∀ l a' w i o, I a l a' w → ops[i]? = some o → l.getD i true = false → (∀ e, e ∈ o.after → Region.binds .any e = true → l.getD e.on false = true) → o.wp P a' w (fun a'' w' => I a (l.setIfInBounds i true) a'' w') Q)
    (hend : ∀ l a' w, I a l a' w → (∀ i, i < ops.size → l.getD i false = true) → Q .normal a' w) : (Code.region id ops true).wp P Q a w :=
  wp_region_inv (I a) hm hI hB h0 hstep hend
/-- The slots that have come up. -/
def FrI (BL : List (Nat × Nat × Value)) (n : Nat) (l : Array Bool) (a : Act) : Prop := a.tmps.size = n ∧ a.defers = [] ∧ ∀ x, x ∈ BL → l.getD x.1 false = true → a.tmps.getD x.2.1 undef = x.2.2
theorem getD_set {l : Array Bool} {i j : Nat} (h : j ≠ i) (d : Bool) : (l.setIfInBounds i true).getD j d = l.getD j d := by
  rw [Array.getD_eq_getD_getElem?, Array.getD_eq_getD_getElem?, Array.getElem?_setIfInBounds_ne (fun e => h e.symm)]
theorem getD_set_self {l : Array Bool} {i : Nat} (h : l.getD i true = false) : (l.setIfInBounds i true).getD i false = true := by
  have hi : i < l.size := by
    rcases Nat.lt_or_ge i l.size with q | q
    · exact q
    · rw [Array.getD_eq_getD_getElem?, Array.getElem?_eq_none q] at h; cases h
  rw [Array.getD_eq_getD_getElem?, Array.getElem?_setIfInBounds_self_of_lt hi]
  rfl
theorem FrI.put {BL : List (Nat × Nat × Value)} {n : Nat} {l : Array Bool} {a : Act} (h : FrI BL n l a) (i s : Nat) (v : Value) (hs : s < n) (hU : ∀ x, x ∈ BL → (x.1 = i ∧ x.2.1 = s ∧ x.2.2 = v) ∨ (x.1 ≠ i ∧ x.2.1 ≠ s)) : FrI BL n (l.setIfInBounds i true) (a.put (some s) v) := by
  obtain ⟨h1, h2, h3⟩ := h
  refine ⟨by simp [Act.put, h1], h2, fun x hx hl => ?_⟩
  rcases hU x hx with ⟨e1, e2, e3⟩ | ⟨e1, e2⟩
  · rw [e2, e3]
    show (a.tmps.setIfInBounds s v).getD s undef = v
    rw [Array.getD_eq_getD_getElem?, Array.getElem?_setIfInBounds_self_of_lt (by omega)]
    rfl
  · rw [getD_set e1] at hl
    show (a.tmps.setIfInBounds s v).getD x.2.1 undef = x.2.2
    rw [Array.getD_eq_getD_getElem?, Array.getElem?_setIfInBounds_ne (fun e => e2 e.symm), ← Array.getD_eq_getD_getElem?]
    exact h3 x hx hl
theorem FrI.skip {BL : List (Nat × Nat × Value)} {n : Nat} {l : Array Bool} {a : Act} (h : FrI BL n l a) (i : Nat) (hU : ∀ x, x ∈ BL → x.1 ≠ i) : FrI BL n (l.setIfInBounds i true) a :=
  ⟨h.1, h.2.1, fun x hx hl => h.2.2 x hx (by rw [getD_set (hU x hx)] at hl; exact hl)⟩
theorem owp_value {o : Oper} {a : Act} {w w' : World} {K : Act → World → Prop} (v : Value) (h : (execOp a.eval o).run P w = .ok (.value v) w') (hK : K (a.put o.dst v) w') : o.wp P a w K Q := by
  unfold Oper.wp
  rw [h]
  exact hK
theorem owp_skip {o : Oper} {a : Act} {w w' : World} {K : Act → World → Prop} (h : (execOp a.eval o).run P w = .ok .skip w') (hK : K (a.put o.dst undef) w') : o.wp P a w K Q := by
  unfold Oper.wp
  rw [h]
  exact hK
theorem FrI.slot {BL : List (Nat × Nat × Value)} {n : Nat} {l : Array Bool} {a : Act} (h : FrI BL n l a) {i s : Nat} {v : Value} (hx : (i, s, v) ∈ BL) (hl : l.getD i false = true) : a.tmps[s]?.getD undef = v := by
  have q := h.2.2 _ hx hl
  rw [Array.getD_eq_getD_getElem?] at q
  exact q
theorem frame_eq {t : Array Value} {vs : Array Value} (hs : t.size = vs.size) (h : ∀ s, s < vs.size → t[s]?.getD undef = vs[s]?.getD undef) : t = vs := by
  apply Array.ext hs
  intro i h1 h2
  have q := h i h2
  rw [Array.getElem?_eq_getElem h1, Array.getElem?_eq_getElem h2] at q
  exact q
theorem owp_call {o : Oper} {a : Act} {w : World} {K : Act → World → Prop} {fn : FuncId} {args : Array Value} (h : (execOp a.eval o).run P w = .ok (.enter fn args) w) (hc : Calls P fn args w fun e w' => ∃ v, e = .returned v ∧ K (a.put o.dst v) w') : o.wp P a w K Q := by
  unfold Oper.wp
  rw [h]
  show Calls P fn args w _
  refine hc.mono ?_
  rintro e w' ⟨v, rfl, h1⟩
  exact h1
/-- The slots that have come up; all others are as ahead. -/
def FrU (a0 : Act) (BL : List (Nat × Nat × Value)) (l : Array Bool) (a : Act) : Prop :=
  a.tmps.size = a0.tmps.size ∧ a.defers = a0.defers ∧ (∀ x, x ∈ BL → l.getD x.1 false = true → a.tmps[x.2.1]?.getD undef = x.2.2) ∧ ∀ s, (∀ x, x ∈ BL → x.2.1 ≠ s) → a.tmps[s]? = a0.tmps[s]?
theorem getD_none (n i : Nat) : (Array.replicate n false).getD i false = false := by
  rw [Array.getD_eq_getD_getElem?, Array.getElem?_replicate]
  split <;> rfl
theorem FrU.start (a0 : Act) (BL : List (Nat × Nat × Value)) (n : Nat) : FrU a0 BL (Array.replicate n false) a0 :=
  ⟨rfl, rfl, fun x _ h => (by rw [getD_none] at h; cases h), fun _ _ => rfl⟩
theorem FrU.put {a0 a : Act} {BL BL' : List (Nat × Nat × Value)} {l : Array Bool} (h : FrU a0 BL l a) (i s : Nat) (v : Value) (hs : s < a0.tmps.size) (hin : ∃ x, x ∈ BL' ∧ x.2.1 = s)
    (hU : ∀ x, x ∈ BL' → (x.1 = i ∧ x.2.1 = s ∧ x.2.2 = v) ∨ (x.1 ≠ i ∧ x.2.1 ≠ s ∧ x ∈ BL)) (hS : ∀ x, x ∈ BL → ∃ y, y ∈ BL' ∧ y.2.1 = x.2.1) : FrU a0 BL' (l.setIfInBounds i true) (a.put (some s) v) := by
  obtain ⟨h1, h2, h3, h4⟩ := h
  refine ⟨by simp [Act.put, h1], h2, fun x hx hl => ?_, fun s' hs' => ?_⟩
  · rcases hU x hx with ⟨e1, e2, e3⟩ | ⟨e1, e2, e3⟩
    · rw [e2, e3]
      show (a.tmps.setIfInBounds s v)[s]?.getD undef = v
      rw [Array.getElem?_setIfInBounds_self_of_lt (by omega)]
      rfl
    · rw [getD_set e1] at hl
      show (a.tmps.setIfInBounds s v)[x.2.1]?.getD undef = x.2.2
      rw [Array.getElem?_setIfInBounds_ne (fun e => e2 e.symm)]
      exact h3 x e3 hl
  · obtain ⟨x, hx, hxs⟩ := hin
    have hne : s ≠ s' := fun e => hs' x hx (hxs.trans e)
    show (a.tmps.setIfInBounds s v)[s']? = _
    rw [Array.getElem?_setIfInBounds_ne hne]
    refine h4 s' fun y hy => ?_
    obtain ⟨z, hz, hzs⟩ := hS y hy
    rw [← hzs]
    exact hs' z hz
theorem FrU.skip {a0 a : Act} {BL : List (Nat × Nat × Value)} {l : Array Bool} (h : FrU a0 BL l a) (i : Nat) (hU : ∀ x, x ∈ BL → x.1 ≠ i) : FrU a0 BL (l.setIfInBounds i true) a :=
  ⟨h.1, h.2.1, fun x hx hl => h.2.2.1 x hx (by rw [getD_set (hU x hx)] at hl; exact hl), h.2.2.2⟩
theorem FrU.slot {a0 a : Act} {BL : List (Nat × Nat × Value)} {l : Array Bool} (h : FrU a0 BL l a) {i s : Nat} {v : Value} (hx : (i, s, v) ∈ BL) (hl : l.getD i false = true) : a.tmps[s]?.getD undef = v := h.2.2.1 _ hx hl
theorem FrU.base {a0 a : Act} {BL : List (Nat × Nat × Value)} {l : Array Bool} (h : FrU a0 BL l a) (s : Nat) (hs : ∀ x, x ∈ BL → x.2.1 ≠ s) {v : Value} (h0 : a0.tmps[s]?.getD undef = v) : a.tmps[s]?.getD undef = v := by rw [h.2.2.2 s hs]; exact h0
def setAll : List (Nat × Nat × Value) → Array Value → Array Value
  | [], t => t
  | x :: r, t => setAll r (t.setIfInBounds x.2.1 x.2.2)
theorem setAll_size : ∀ (BL : List (Nat × Nat × Value)) (t : Array Value), (setAll BL t).size = t.size
  | [], _ => rfl
  | x :: r, t => by
    show (setAll r _).size = _
    rw [setAll_size r]
    simp
theorem setAll_out : ∀ (BL : List (Nat × Nat × Value)) (t : Array Value) (s : Nat), (∀ x, x ∈ BL → x.2.1 ≠ s) → (setAll BL t)[s]? = t[s]?
  | [], _, _, _ => rfl
  | x :: r, t, s, h => by
    show (setAll r _)[s]? = _
    rw [setAll_out r _ s (fun y hy => h y (.tail _ hy)), Array.getElem?_setIfInBounds_ne (h x (.head _))]
theorem setAll_in : ∀ (BL : List (Nat × Nat × Value)) (t : Array Value), BL.Pairwise (fun x y => x.2.1 ≠ y.2.1) → ∀ x, x ∈ BL → x.2.1 < t.size → (setAll BL t)[x.2.1]? = some x.2.2
  | [], _, _, _, h, _ => by cases h
  | y :: r, t, hp, x, hx, hs => by
    show (setAll r _)[_]? = _
    obtain ⟨p1, p2⟩ := List.pairwise_cons.1 hp
    rcases List.mem_cons.1 hx with rfl | hx
    · rw [setAll_out r _ _ (fun z hz e => p1 z hz e.symm), Array.getElem?_setIfInBounds_self_of_lt hs]
    · exact setAll_in r _ p2 x hx (by simpa using hs)
theorem FrU.all {a0 a : Act} {BL : List (Nat × Nat × Value)} {l : Array Bool} (h : FrU a0 BL l a) (hl : ∀ x, x ∈ BL → l.getD x.1 false = true) (hp : BL.Pairwise (fun x y => x.2.1 ≠ y.2.1)) (hs : ∀ x, x ∈ BL → x.2.1 < a0.tmps.size) : a = { tmps := setAll BL a0.tmps, defers := a0.defers } := by
  obtain ⟨h1, h2, h3, h4⟩ := h
  have e : a.tmps = setAll BL a0.tmps := by
    refine frame_eq (by rw [setAll_size]; exact h1) fun s _ => ?_
    by_cases hc : ∃ x, x ∈ BL ∧ x.2.1 = s
    · obtain ⟨x, hx, rfl⟩ := hc
      rw [setAll_in BL _ hp x hx (hs x hx), h3 x hx (hl x hx)]
      rfl
    · have q : ∀ x, x ∈ BL → x.2.1 ≠ s := fun x hx e => hc ⟨x, hx, e⟩
      rw [setAll_out BL _ s q, h4 s q]
  obtain ⟨tm, df⟩ := a
  simp only at e h2
  rw [e, h2]
end
end Go.Proofs.Ythjghofjdcepmaa
/- A region that draws its order, by what holds whatever has come up so far, with guards that are known. Over any program. -/
namespace Go.Proofs.Ythjghofjdcepmaa
open Go.RowKit
section
variable {P : Program} {ops : Array Oper} {Q : Exit → Act → World → Prop}
theorem wpAny_invG (I : Array Bool → Act → World → Prop) (hI : ∀ l a w, I l a w → l.size = ops.size) (hord : ∀ (i : Nat) (o : Oper), ops[i]? = some o → ∀ e, e ∈ o.after → Region.binds .any e = true → e.on < i)
    (hstep : ∀ l a w i o, I l a w → ops[i]? = some o → l.getD i true = false → (∀ e, e ∈ o.after → Region.binds .any e = true → l.getD e.on false = true) → Region.wanted o (yielded ops a.tmps) = true ∧ o.wp P a w (fun a' w' => I (l.setIfInBounds i true) a' w') Q)
    (hend : ∀ l a w, I l a w → (∀ i, i < ops.size → l.getD i false = true) → Q .normal a w) :
    ∀ fuel l a w, I l a w → unl l ≤ fuel → wpAny P .any ops Q fuel l a w
  | 0, l, a, w, h, hf => by
    have hr : Region.ready .any ops l = [] := by
      cases hc : Region.ready .any ops l with
      | nil => rfl
      | cons i r =>
        have hm : i ∈ Region.ready .any ops l := by rw [hc]; exact .head _
        exact absurd (Nat.le_zero.1 hf) (unl_none (rdy_spec hm).2.1)
    exact ⟨hr, hend l a w h (all_come hord (hI l a w h) hr)⟩
  | fuel + 1, l, a, w, h, hf => by
    refine ⟨fun hr => hend l a w h (all_come hord (hI l a w h) hr), fun i hi => ?_⟩
    obtain ⟨h1, h2, h3⟩ := rdy_spec hi
    have ho : ops[i]? = some ops[i] := Array.getElem?_eq_getElem h1
    obtain ⟨hw, hs⟩ := hstep l a w i _ h ho h2 (h3 _ ho)
    unfold wpOp
    rw [ho]
    show if Region.wanted ops[i] (yielded ops a.tmps) = true then _ else _
    rw [if_pos hw]
    refine .inl (Oper.wp_mono (fun a' w' h' => ?_) hs)
    exact wpAny_invG I hI hord hstep hend fuel _ a' w' h' (by have := unl_set h2; omega)
def ordG (ops : Array Oper) : Bool := (List.range ops.size).all fun i => match ops[i]? with | some o => o.after.all (fun e => !Region.binds .any e || decide (e.on < i)) | none => true
theorem ordG_spec (h : ordG ops = true) : ∀ (i : Nat) (o : Oper), ops[i]? = some o → ∀ e, e ∈ o.after → Region.binds .any e = true → e.on < i := fun i o ho e he hbe => by
  have hi : i < ops.size := (Array.getElem?_eq_some_iff.1 ho).1
  unfold ordG at h
  have r := List.all_eq_true.1 h i (List.mem_range.2 hi)
  rw [ho] at r
  have r2 := Array.all_eq_true'.1 r e he
  rw [hbe] at r2
  exact of_decide_eq_true (by simpa using r2)
theorem wp_region_invG {id : Nat} {a : Act} {w : World} (I : Act → Array Bool → Act → World → Prop) (hm : P.follows .mixedOrders = true) (hI : ∀ l a' w, I a l a' w → l.size = ops.size)
    (hB : ordG ops = true) (h0 : I a (Array.replicate ops.size false) a w.drew)
    (hstep : ∀ l a' w i o, I a l a' w → ops[i]? = some o → l.getD i true = false → (∀ e, e ∈ o.after → Region.binds .any e = true → l.getD e.on false = true) → Region.wanted o (yielded ops a'.tmps) = true ∧ o.wp P a' w (fun a'' w' => I a (l.setIfInBounds i true) a'' w') Q)
    (hend : ∀ l a' w, I a l a' w → (∀ i, i < ops.size → l.getD i false = true) → Q .normal a' w) : (Code.region id ops true).wp P Q a w :=
  wp_region_any hm (wpAny_invG (I a) hI (ordG_spec hB) hstep hend ops.size _ _ _ h0 (by
    unfold unl
    have := List.countP_le_length (p := fun b => !b) (l := (Array.replicate ops.size false).toList)
    simpa using this))
theorem yld {j s : Nat} {b : Bool} {oj : Oper} {t : Array Value} (h : ops[j]? = some oj) (hd : oj.dst = some s) (ht : t[s]?.getD undef = .bool b) : yielded ops t j = some b := by
  unfold yielded
  rw [h]
  simp only [Option.bind_some, hd]
  cases hc : t[s]? with
  | none => rw [hc] at ht; cases ht
  | some v => rw [hc] at ht; cases (show v = .bool b from ht); rfl
theorem wanted_of {o : Oper} {j s : Nat} {b : Bool} {oj : Oper} {t : Array Value} (hg : o.guard = some (j, b)) (h : ops[j]? = some oj) (hd : oj.dst = some s) (ht : t[s]?.getD undef = .bool b) : Region.wanted o (yielded ops t) = true := by
  unfold Region.wanted
  rw [hg]
  simp [yld h hd ht]
end
end Go.Proofs.Ythjghofjdcepmaa
/- A region that draws its order, by what holds whatever has come up so far, with guards that are known, wanted or not. Over any program. -/
namespace Go.Proofs.Ythjghofjdcepmaa
open Go.RowKit
section
variable {P : Program} {ops : Array Oper} {Q : Exit → Act → World → Prop}
theorem wpAny_invW (I : Array Bool → Act → World → Prop) (hI : ∀ l a w, I l a w → l.size = ops.size) (hord : ∀ (i : Nat) (o : Oper), ops[i]? = some o → ∀ e, e ∈ o.after → Region.binds .any e = true → e.on < i)
    (hstep : ∀ l a w i o, I l a w → ops[i]? = some o → l.getD i true = false → (∀ e, e ∈ o.after → Region.binds .any e = true → l.getD e.on false = true) → (Region.wanted o (yielded ops a.tmps) = true ∧ o.wp P a w (fun a' w' => I (l.setIfInBounds i true) a' w') Q) ∨ (Region.wanted o (yielded ops a.tmps) = false ∧ I (l.setIfInBounds i true) (a.put o.dst undef) w))
    (hend : ∀ l a w, I l a w → (∀ i, i < ops.size → l.getD i false = true) → Q .normal a w) :
    ∀ fuel l a w, I l a w → unl l ≤ fuel → wpAny P .any ops Q fuel l a w
  | 0, l, a, w, h, hf => by
    have hr : Region.ready .any ops l = [] := by
      cases hc : Region.ready .any ops l with
      | nil => rfl
      | cons i r =>
        have hm : i ∈ Region.ready .any ops l := by rw [hc]; exact .head _
        exact absurd (Nat.le_zero.1 hf) (unl_none (rdy_spec hm).2.1)
    exact ⟨hr, hend l a w h (all_come hord (hI l a w h) hr)⟩
  | fuel + 1, l, a, w, h, hf => by
    refine ⟨fun hr => hend l a w h (all_come hord (hI l a w h) hr), fun i hi => ?_⟩
    obtain ⟨h1, h2, h3⟩ := rdy_spec hi
    have ho : ops[i]? = some ops[i] := Array.getElem?_eq_getElem h1
    unfold wpOp
    rw [ho]
    show if Region.wanted ops[i] (yielded ops a.tmps) = true then _ else _
    rcases hstep l a w i _ h ho h2 (h3 _ ho) with ⟨hw, hs⟩ | ⟨hw, hs⟩
    · rw [if_pos hw]
      refine .inl (Oper.wp_mono (fun a' w' h' => ?_) hs)
      exact wpAny_invW I hI hord hstep hend fuel _ a' w' h' (by have := unl_set h2; omega)
    · rw [if_neg (by rw [hw]; decide)]
      exact wpAny_invW I hI hord hstep hend fuel _ _ w hs (by have := unl_set h2; omega)
theorem wp_region_invW {id : Nat} {a : Act} {w : World} (I : Act → Array Bool → Act → World → Prop) (hm : P.follows .mixedOrders = true) (hI : ∀ l a' w, I a l a' w → l.size = ops.size)
    (hB : ordG ops = true) (h0 : I a (Array.replicate ops.size false) a w.drew)
    (hstep : ∀ l a' w i o, I a l a' w → ops[i]? = some o → l.getD i true = false → (∀ e, e ∈ o.after → Region.binds .any e = true → l.getD e.on false = true) → (Region.wanted o (yielded ops a'.tmps) = true ∧ o.wp P a' w (fun a'' w' => I a (l.setIfInBounds i true) a'' w') Q) ∨ (Region.wanted o (yielded ops a'.tmps) = false ∧ I a (l.setIfInBounds i true) (a'.put o.dst undef) w))
    (hend : ∀ l a' w, I a l a' w → (∀ i, i < ops.size → l.getD i false = true) → Q .normal a' w) : (Code.region id ops true).wp P Q a w :=
  wp_region_any hm (wpAny_invW (I a) hI (ordG_spec hB) hstep hend ops.size _ _ _ h0 (by
    unfold unl
    have := List.countP_le_length (p := fun b => !b) (l := (Array.replicate ops.size false).toList)
    simpa using this))
theorem unwanted_of {o : Oper} {j s : Nat} {b b' : Bool} {oj : Oper} {t : Array Value} (hg : o.guard = some (j, b')) (h : ops[j]? = some oj) (hd : oj.dst = some s) (ht : t[s]?.getD undef = .bool b) (hne : (b == b') = false) : Region.wanted o (yielded ops t) = false := by
  unfold Region.wanted
  rw [hg]
  simp [yld h hd ht, hne]
end
end Go.Proofs.Ythjghofjdcepmaa
/- A region that draws its order, told in two phases: ahead of one operation (a call that turns what is old) and behind it; frames told by closed keys. Over any program. -/
namespace Go.Proofs.Ythjghofjdcepmaa
open Go.RowKit
section
variable {P : Program} {ops : Array Oper} {Q : Exit → Act → World → Prop}
/-- Whatever stands behind the n-th operation waits for it, or for another one behind it. -/
def lateB (ops : Array Oper) (n : Nat) : Bool := decide (n < ops.size) && (List.range ops.size).all fun i => decide (i ≤ n) || (match ops[i]? with | some o => o.after.any (fun e => Region.binds .any e && decide (n ≤ e.on)) | none => true)
theorem lateB_spec {n : Nat} (h : lateB ops n = true) : n < ops.size ∧ ∀ (i : Nat) (o : Oper), ops[i]? = some o → n < i → ∃ e, e ∈ o.after ∧ Region.binds .any e = true ∧ n ≤ e.on := by
  unfold lateB at h
  rw [Bool.and_eq_true] at h
  refine ⟨of_decide_eq_true h.1, fun i o ho hi => ?_⟩
  have hs : i < ops.size := (Array.getElem?_eq_some_iff.1 ho).1
  have r := List.all_eq_true.1 h.2 i (List.mem_range.2 hs)
  rw [ho] at r
  have h0 : decide (i ≤ n) = false := by simp; omega
  rw [h0, Bool.false_or] at r
  obtain ⟨e, he, hb⟩ := Array.any_eq_true'.1 r
  rw [Bool.and_eq_true] at hb
  exact ⟨e, he, hb.1, of_decide_eq_true hb.2⟩
theorem wpAny_switch (n : Nat) (hn : n < ops.size) (I : Array Bool → Act → World → Prop) (hI : ∀ l a w, I l a w → l.size = ops.size) (hord : ∀ (i : Nat) (o : Oper), ops[i]? = some o → ∀ e, e ∈ o.after → Region.binds .any e = true → e.on < i)
    (hlate : ∀ (i : Nat) (o : Oper), ops[i]? = some o → n < i → ∃ e, e ∈ o.after ∧ Region.binds .any e = true ∧ n ≤ e.on)
    (hstep : ∀ l a w i o, I l a w → i < n → ops[i]? = some o → l.getD i true = false → (∀ e, e ∈ o.after → Region.binds .any e = true → l.getD e.on false = true) → Region.wanted o (yielded ops a.tmps) = true ∧ o.wp P a w (fun a' w' => I (l.setIfInBounds i true) a' w') Q)
    (hsw : ∀ l a w i o, I l a w → i = n → ops[i]? = some o → l.getD i true = false → (∀ j, n ≤ j → l.getD j false = false) → (∀ e, e ∈ o.after → Region.binds .any e = true → l.getD e.on false = true) → Region.wanted o (yielded ops a.tmps) = true ∧ o.wp P a w (fun a' w' => ∀ fuel, unl (l.setIfInBounds i true) ≤ fuel → wpAny P .any ops Q fuel (l.setIfInBounds i true) a' w') Q) :
    ∀ fuel l a w, I l a w → (∀ j, n ≤ j → l.getD j false = false) → unl l ≤ fuel → wpAny P .any ops Q fuel l a w
  | 0, l, a, w, h, hz, hf => by
    exfalso
    have hr : Region.ready .any ops l = [] := by
      cases hc : Region.ready .any ops l with
      | nil => rfl
      | cons i r =>
        have hm : i ∈ Region.ready .any ops l := by rw [hc]; exact .head _
        exact absurd (Nat.le_zero.1 hf) (unl_none (rdy_spec hm).2.1)
    have hc := all_come hord (hI l a w h) hr n hn
    rw [hz n (Nat.le_refl _)] at hc
    cases hc
  | fuel + 1, l, a, w, h, hz, hf => by
    refine ⟨fun hr => ?_, fun i hi => ?_⟩
    · have hc := all_come hord (hI l a w h) hr n hn
      rw [hz n (Nat.le_refl _)] at hc
      cases hc
    obtain ⟨h1, h2, h3⟩ := rdy_spec hi
    have ho : ops[i]? = some ops[i] := Array.getElem?_eq_getElem h1
    unfold wpOp
    rw [ho]
    show if Region.wanted ops[i] (yielded ops a.tmps) = true then _ else _
    rcases Nat.lt_trichotomy i n with hlt | heq | hgt
    · obtain ⟨hw, hs⟩ := hstep l a w i _ h hlt ho h2 (h3 _ ho)
      rw [if_pos hw]
      refine .inl (Oper.wp_mono (fun a' w' h' => ?_) hs)
      exact wpAny_switch n hn I hI hord hlate hstep hsw fuel _ a' w' h' (fun j hj => by rw [getD_set (by omega)]; exact hz j hj) (by have := unl_set h2; omega)
    · obtain ⟨hw, hs⟩ := hsw l a w i _ h heq ho h2 hz (h3 _ ho)
      rw [if_pos hw]
      exact .inl (Oper.wp_mono (fun a' w' h' => h' fuel (by have := unl_set h2; omega)) hs)
    · exfalso
      obtain ⟨e, he, hb, hle⟩ := hlate i _ ho hgt
      have hc := h3 _ ho e he hb
      rw [hz e.on hle] at hc
      cases hc
theorem wp_region_switch {id : Nat} {a : Act} {w : World} (n : Nat) (I : Act → Array Bool → Act → World → Prop) (hm : P.follows .mixedOrders = true) (hI : ∀ l a' w, I a l a' w → l.size = ops.size)
    (hB : ordG ops = true) (hL : lateB ops n = true) (h0 : I a (Array.replicate ops.size false) a w.drew)
    (hstep : ∀ l a' w i o, I a l a' w → i < n → ops[i]? = some o → l.getD i true = false → (∀ e, e ∈ o.after → Region.binds .any e = true → l.getD e.on false = true) → Region.wanted o (yielded ops a'.tmps) = true ∧ o.wp P a' w (fun a'' w' => I a (l.setIfInBounds i true) a'' w') Q)
    (hsw : ∀ l a' w i o, I a l a' w → i = n → ops[i]? = some o → l.getD i true = false → (∀ j, n ≤ j → l.getD j false = false) → (∀ e, e ∈ o.after → Region.binds .any e = true → l.getD e.on false = true) → Region.wanted o (yielded ops a'.tmps) = true ∧ o.wp P a' w (fun a'' w' => ∀ fuel, unl (l.setIfInBounds i true) ≤ fuel → wpAny P .any ops Q fuel (l.setIfInBounds i true) a'' w') Q) : (Code.region id ops true).wp P Q a w :=
  wp_region_any hm (wpAny_switch n (lateB_spec hL).1 (I a) hI (ordG_spec hB) (lateB_spec hL).2 hstep hsw ops.size _ _ _ h0 (fun j _ => getD_none _ j) (by
    unfold unl
    have := List.countP_le_length (p := fun b => !b) (l := (Array.replicate ops.size false).toList)
    simpa using this))
end
/-- The entries (place, slot, value) off closed keys. -/
def kv (K : List (Nat × Nat)) (V : Nat → Value) : List (Nat × Nat × Value) := K.map fun x => (x.1, x.2, V x.1)
def keyB (K : List (Nat × Nat)) (i s : Nat) : Bool := K.contains (i, s) && K.all fun x => (x.1 == i && x.2 == s) || (x.1 != i && x.2 != s)
section
variable {a0 a : Act} {K : List (Nat × Nat)} {V : Nat → Value} {l : Array Bool}
theorem FrU.putK (h : FrU a0 (kv K V) l a) (i s : Nat) (v : Value) (hs : s < a0.tmps.size) (hk : keyB K i s = true) (hv : V i = v) : FrU a0 (kv K V) (l.setIfInBounds i true) (a.put (some s) v) := by
  unfold keyB at hk
  rw [Bool.and_eq_true] at hk
  refine h.put i s v hs ⟨(i, s, V i), List.mem_map.2 ⟨(i, s), by simpa using hk.1, rfl⟩, rfl⟩ (fun x hx => ?_) fun x hx => ⟨x, hx, rfl⟩
  obtain ⟨y, hy, rfl⟩ := List.mem_map.1 hx
  have := List.all_eq_true.1 hk.2 y hy
  simp only [Bool.or_eq_true, Bool.and_eq_true, beq_iff_eq, bne_iff_ne, ne_eq] at this
  rcases this with ⟨e1, e2⟩ | ⟨e1, e2⟩
  · exact .inl ⟨e1, e2, by show V y.1 = v; rw [e1]; exact hv⟩
  · exact .inr ⟨e1, e2, hx⟩
theorem FrU.slotK (h : FrU a0 (kv K V) l a) {i s : Nat} {v : Value} (hk : K.contains (i, s) = true) (hl : l.getD i false = true) (hv : V i = v) : a.tmps[s]?.getD undef = v := by
  rw [← hv]
  exact h.slot (List.mem_map.2 ⟨(i, s), by simpa using hk, rfl⟩) hl
theorem FrU.baseK (h : FrU a0 (kv K V) l a) (s : Nat) (hk : (K.all fun x => x.2 != s) = true) {v : Value} (h0 : a0.tmps[s]?.getD undef = v) : a.tmps[s]?.getD undef = v := by
  refine h.base s (fun x hx => ?_) h0
  obtain ⟨y, hy, rfl⟩ := List.mem_map.1 hx
  have := List.all_eq_true.1 hk y hy
  simpa using this
def keysB : List (Nat × Nat) → Bool
  | [] => true
  | x :: r => r.all (fun y => x.2 != y.2) && keysB r
theorem keysB_spec : ∀ {K : List (Nat × Nat)}, keysB K = true → ∀ V, (kv K V).Pairwise fun x y => x.2.1 ≠ y.2.1
  | [], _, _ => .nil
  | x :: r, h, V => by
    unfold keysB at h
    rw [Bool.and_eq_true] at h
    refine List.pairwise_cons.2 ⟨fun z hz => ?_, keysB_spec h.2 V⟩
    obtain ⟨y, hy, rfl⟩ := List.mem_map.1 hz
    have := List.all_eq_true.1 h.1 y hy
    simpa using this
theorem FrU.allK (h : FrU a0 (kv K V) l a) {n : Nat} (hl : ∀ i, i < n → l.getD i false = true) (hk : (keysB K && K.all fun x => decide (x.1 < n) && decide (x.2 < a0.tmps.size)) = true) : a = { tmps := setAll (kv K V) a0.tmps, defers := a0.defers } := by
  rw [Bool.and_eq_true] at hk
  refine h.all (fun x hx => ?_) (keysB_spec hk.1 V) fun x hx => ?_
  all_goals
    obtain ⟨y, hy, rfl⟩ := List.mem_map.1 hx
    have := List.all_eq_true.1 hk.2 y hy
    simp only [Bool.and_eq_true, decide_eq_true_eq] at this
  · exact hl _ this.1
  · exact this.2
/-- More keys, none of which has come. -/
theorem FrU.wideK {K' : List (Nat × Nat)} {V' : Nat → Value} {n : Nat} (h : FrU a0 (kv K V) l a) (hz : ∀ j, n ≤ j → l.getD j false = false) (hsub : (K.all fun x => K'.contains x) = true) (hnew : (K'.all fun x => decide (n ≤ x.1) || K.contains x) = true) (hV : ∀ i, i < n → V i = V' i) : FrU a0 (kv K' V') l a := by
  obtain ⟨h1, h2, h3, h4⟩ := h
  refine ⟨h1, h2, fun x hx hl => ?_, fun s hs => h4 s fun x hx => ?_⟩
  · obtain ⟨y, hy, rfl⟩ := List.mem_map.1 hx
    by_cases hn : n ≤ y.1
    · have := hz y.1 hn
      rw [show l.getD y.1 false = true from hl] at this
      cases this
    · have := List.all_eq_true.1 hnew y hy
      simp only [Bool.or_eq_true, decide_eq_true_eq] at this
      have hm : y ∈ K := by rcases this with q | q; exact absurd q hn; simpa using q
      show a.tmps[y.2]?.getD undef = V' y.1
      rw [← hV y.1 (by omega)]
      exact h3 _ (List.mem_map.2 ⟨y, hm, rfl⟩) hl
  · obtain ⟨y, hy, rfl⟩ := List.mem_map.1 hx
    have := List.all_eq_true.1 hsub y hy
    exact hs (y.1, y.2, V' y.1) (List.mem_map.2 ⟨y, by simpa using this, rfl⟩)
end
end Go.Proofs.Ythjghofjdcepmaa
/- Frames told by closed keys: one entry told anew; all at once. For qreg.py's regions; over any program. -/
namespace Go.Proofs.Ythjghofjdcepmaa
open Go.RowKit
/-- One entry told anew, that has not come. -/
theorem FrU.swapQ {a0 a : Act} {K : List (Nat × Nat)} {V V' : Nat → Value} {l : Array Bool} (h : FrU a0 (kv K V) l a) (i : Nat) (hn : l.getD i true = false) (hV : ∀ k, k ≠ i → V k = V' k) : FrU a0 (kv K V') l a := by
  obtain ⟨h1, h2, h3, h4⟩ := h
  refine ⟨h1, h2, fun x hx hl => ?_, fun s hs => h4 s fun x hx => ?_⟩
  · obtain ⟨y, hy, rfl⟩ := List.mem_map.1 hx
    by_cases e : y.1 = i
    · have hl : l.getD y.1 false = true := hl
      rw [e] at hl
      rw [Array.getD_eq_getD_getElem?] at hl hn
      cases hq : l[i]? with
      | none => rw [hq] at hl; cases hl
      | some b =>
        rw [hq] at hl hn
        have e1 : b = true := hl
        have e2 : b = false := hn
        rw [e1] at e2
        cases e2
    · show a.tmps[y.2]?.getD undef = V' y.1
      rw [← hV y.1 e]
      exact h3 _ (List.mem_map.2 ⟨y, hy, rfl⟩) hl
  · obtain ⟨y, hy, rfl⟩ := List.mem_map.1 hx
    exact hs (y.1, y.2, V' y.1) (List.mem_map.2 ⟨y, hy, rfl⟩)
theorem FrU.allQ {a0 a : Act} {K : List (Nat × Nat)} {V : Nat → Value} {BL : List (Nat × Nat × Value)} {l : Array Bool} (h : FrU a0 (kv K V) l a) (hB : kv K V = BL) {n : Nat} (hl : ∀ i, i < n → l.getD i false = true) (hk : (keysB K && K.all fun x => decide (x.1 < n) && decide (x.2 < a0.tmps.size)) = true) : a = { tmps := setAll BL a0.tmps, defers := a0.defers } := by
  subst hB
  exact h.allK hl hk
end Go.Proofs.Ythjghofjdcepmaa
