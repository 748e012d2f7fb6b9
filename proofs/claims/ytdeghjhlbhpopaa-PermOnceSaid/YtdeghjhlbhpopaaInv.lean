/- A region that draws its order, by what holds whatever has come up so far. Over any program. -/
import Derived.Test.YtdeghjhlbhpopaaBytes
import Derived.RegionTactic
namespace Go.Proofs.Ytdeghjhlbhpopaa
open Go.RowKit
section
variable {P : Program} {ops : Array Oper} {Q : Exit → Act → World → Prop}
theorem rdy_spec {listed : Array Bool} {i : Nat} (h : i ∈ Region.ready .any ops listed) : i < ops.size ∧ listed.getD i true = false ∧ ∀ o, ops[i]? = some o → ∀ e, e ∈ o.after → Region.binds .any e = true → listed.getD e.on false = true := by
  unfold Region.ready at h
  rw [List.mem_filter] at h
  obtain ⟨h1, h2⟩ := h
  rw [Bool.and_eq_true] at h2
  refine ⟨List.mem_range.1 h1, by simpa using h2.1, fun o ho e he hb => ?_⟩
  have h3 := h2.2
  rw [ho] at h3
  simp only [Option.map_some, Option.getD_some, Array.all_eq_true'] at h3
  have q := h3 e he
  simpa [hb] using q
theorem all_come {l : Array Bool} (hord : ∀ (i : Nat) (o : Oper), ops[i]? = some o → ∀ e, e ∈ o.after → Region.binds .any e = true → e.on < i) (hl : l.size = ops.size) (h : Region.ready .any ops l = []) : ∀ i, i < ops.size → l.getD i false = true := by
  intro i
  induction i using Nat.strongRecOn with
  | ind i ih =>
    intro hi
    cases hc : l.getD i false with
    | true => rfl
    | false =>
      exfalso
      have hm : i ∈ Region.ready .any ops l := by
        unfold Region.ready
        rw [List.mem_filter]
        refine ⟨List.mem_range.2 hi, ?_⟩
        have ht : l.getD i true = false := by
          rw [Array.getD_eq_getD_getElem?] at hc ⊢
          rw [Array.getElem?_eq_getElem (by omega)] at hc ⊢
          exact hc
        have ho : ops[i]? = some ops[i] := Array.getElem?_eq_getElem hi
        rw [ht, ho]
        simp only [Option.map_some, Option.getD_some, Bool.not_false, Bool.true_and, Array.all_eq_true']
        intro e he
        cases hbe : Region.binds .any e with
        | false => rfl
        | true =>
          have hlt := hord i _ ho e he hbe
          rw [ih e.on hlt (by omega)]
          rfl
      rw [h] at hm
      cases hm
def unl (l : Array Bool) : Nat := l.toList.countP (fun b => !b)
theorem unl_set {l : Array Bool} {i : Nat} (h : l.getD i true = false) : unl (l.setIfInBounds i true) + 1 = unl l := by
  have hi : i < l.toList.length := by
    rcases Nat.lt_or_ge i l.size with q | q
    · simpa using q
    · rw [Array.getD_eq_getD_getElem?, Array.getElem?_eq_none q] at h; cases h
  have hv : l.toList[i] = false := by
    rw [Array.getD_eq_getD_getElem?, Array.getElem?_eq_getElem (by simpa using hi)] at h
    simpa using h
  unfold unl
  rw [Array.toList_setIfInBounds, List.countP_set hi, hv]
  have hp : 0 < l.toList.countP (fun b => !b) := List.countP_pos_iff.2 ⟨_, List.getElem_mem hi, by rw [hv]; rfl⟩
  simp only [Bool.not_false, Bool.not_true, if_true, Bool.false_eq_true, if_false]
  omega
theorem unl_none {l : Array Bool} {i : Nat} (h : l.getD i true = false) : unl l ≠ 0 := by
  have := unl_set h
  omega
theorem wpAny_inv (I : Array Bool → Act → World → Prop) (hI : ∀ l a w, I l a w → l.size = ops.size) (hord : ∀ (i : Nat) (o : Oper), ops[i]? = some o → ∀ e, e ∈ o.after → Region.binds .any e = true → e.on < i) (hg : ∀ (i : Nat) (o : Oper), ops[i]? = some o → o.guard = none)
    (hstep : ∀ l a w i o, I l a w → ops[i]? = some o → l.getD i true = false → (∀ e, e ∈ o.after → Region.binds .any e = true → l.getD e.on false = true) → o.wp P a w (fun a' w' => I (l.setIfInBounds i true) a' w') Q)
    (hend : ∀ l a w, I l a w → (∀ i, i < ops.size → l.getD i false = true) → Q .normal a w) :
    ∀ fuel l a w, I l a w → unl l ≤ fuel → wpAny P .any ops Q fuel l a w
  | 0, l, a, w, h, hf => by
    have hr : Region.ready .any ops l = [] := by
      cases hc : Region.ready .any ops l with
      | nil => rfl
      | cons i r =>
        have hm : i ∈ Region.ready .any ops l := by rw [hc]; exact .head _
        exact absurd (Nat.le_zero.1 hf) (unl_none (rdy_spec hm).2.1)
    exact ⟨hr, hend l a w h (all_come hord (hI l a w h) hr)⟩
  | fuel + 1, l, a, w, h, hf => by
    refine ⟨fun hr => hend l a w h (all_come hord (hI l a w h) hr), fun i hi => ?_⟩
    obtain ⟨h1, h2, h3⟩ := rdy_spec hi
    have ho : ops[i]? = some ops[i] := Array.getElem?_eq_getElem h1
    have hs := hstep l a w i _ h ho h2 (h3 _ ho)
    unfold wpOp
    rw [ho]
    show if Region.wanted ops[i] (yielded ops a.tmps) = true then _ else _
    rw [if_pos (by unfold Region.wanted; rw [hg i _ ho])]
    refine .inl (Oper.wp_mono (fun a' w' h' => ?_) hs)
    exact wpAny_inv I hI hord hg hstep hend fuel _ a' w' h' (by have := unl_set h2; omega)
def ordB (ops : Array Oper) : Bool := (List.range ops.size).all fun i => match ops[i]? with | some o => o.after.all (fun e => !Region.binds .any e || decide (e.on < i)) && o.guard.isNone | none => true
theorem ordB_spec (h : ordB ops = true) : (∀ (i : Nat) (o : Oper), ops[i]? = some o → ∀ e, e ∈ o.after → Region.binds .any e = true → e.on < i) ∧ ∀ (i : Nat) (o : Oper), ops[i]? = some o → o.guard = none := by
  have q : ∀ (i : Nat) (o : Oper), ops[i]? = some o → (o.after.all (fun e => !Region.binds .any e || decide (e.on < i)) && o.guard.isNone) = true := fun i o ho => by
    have hi : i < ops.size := (Array.getElem?_eq_some_iff.1 ho).1
    unfold ordB at h
    have r := List.all_eq_true.1 h i (List.mem_range.2 hi)
    rw [ho] at r
    exact r
  refine ⟨fun i o ho e he hbe => ?_, fun i o ho => ?_⟩
  · have r := (Bool.and_eq_true _ _ ▸ q i o ho : _ ∧ _).1
    have r2 := Array.all_eq_true'.1 r e he
    rw [hbe] at r2
    exact of_decide_eq_true (by simpa using r2)
  · have r := (Bool.and_eq_true _ _ ▸ q i o ho : _ ∧ _).2
    simpa using r
theorem wp_region_inv {id : Nat} {a : Act} {w : World} (I : Array Bool → Act → World → Prop) (hm : P.follows .mixedOrders = true) (hI : ∀ l a w, I l a w → l.size = ops.size)
    (hB : ordB ops = true) (h0 : I (Array.replicate ops.size false) a w.drew)
    (hstep : ∀ l a w i o, I l a w → ops[i]? = some o → l.getD i true = false → (∀ e, e ∈ o.after → Region.binds .any e = true → l.getD e.on false = true) → o.wp P a w (fun a' w' => I (l.setIfInBounds i true) a' w') Q)
    (hend : ∀ l a w, I l a w → (∀ i, i < ops.size → l.getD i false = true) → Q .normal a w) : (Code.region id ops true).wp P Q a w :=
  wp_region_any hm (wpAny_inv I hI (ordB_spec hB).1 (ordB_spec hB).2 hstep hend ops.size _ _ _ h0 (by
    unfold unl
    have := List.countP_le_length (p := fun b => !b) (l := (Array.replicate ops.size false).toList)
    simpa using this))
/-- .. where what holds speaks of the frame ahead. -/
theorem wp_region_inv2 {id : Nat} {a : Act} {w : World} (I : Act → Array Bool → Act → World → Prop) (hm : P.follows .mixedOrders = true) (hI : ∀ l a' w, I a l a' w → l.size = ops.size)
    (hB : ordB ops = true) (h0 : I a (Array.replicate ops.size false) a w.drew)
    (hstep : ∀ l a' w i o, I a l a' w → ops[i]? = some o → l.getD i true = false → (∀ e, e ∈ o.after → Region.binds .any e = true → l.getD e.on false = true) → o.wp P a' w (fun a'' w' => I a (l.setIfInBounds i true) a'' w') Q)
    (hend : ∀ l a' w, I a l a' w → (∀ i, i < ops.size → l.getD i false = true) → Q .normal a' w) : (Code.region id ops true).wp P Q a w :=
  wp_region_inv (I a) hm hI hB h0 hstep hend
/-- The slots that have come up. -/
def FrI (BL : List (Nat × Nat × Value)) (n : Nat) (l : Array Bool) (a : Act) : Prop := a.tmps.size = n ∧ a.defers = [] ∧ ∀ x, x ∈ BL → l.getD x.1 false = true → a.tmps.getD x.2.1 undef = x.2.2
theorem getD_set {l : Array Bool} {i j : Nat} (h : j ≠ i) (d : Bool) : (l.setIfInBounds i true).getD j d = l.getD j d := by
  rw [Array.getD_eq_getD_getElem?, Array.getD_eq_getD_getElem?, Array.getElem?_setIfInBounds_ne (fun e => h e.symm)]
theorem getD_set_self {l : Array Bool} {i : Nat} (h : l.getD i true = false) : (l.setIfInBounds i true).getD i false = true := by
  have hi : i < l.size := by
    rcases Nat.lt_or_ge i l.size with q | q
    · exact q
    · rw [Array.getD_eq_getD_getElem?, Array.getElem?_eq_none q] at h; cases h
  rw [Array.getD_eq_getD_getElem?, Array.getElem?_setIfInBounds_self_of_lt hi]
  rfl
theorem FrI.put {BL : List (Nat × Nat × Value)} {n : Nat} {l : Array Bool} {a : Act} (h : FrI BL n l a) (i s : Nat) (v : Value) (hs : s < n) (hU : ∀ x, x ∈ BL → (x.1 = i ∧ x.2.1 = s ∧ x.2.2 = v) ∨ (x.1 ≠ i ∧ x.2.1 ≠ s)) : FrI BL n (l.setIfInBounds i true) (a.put (some s) v) := by
  obtain ⟨h1, h2, h3⟩ := h
  refine ⟨by simp [Act.put, h1], h2, fun x hx hl => ?_⟩
  rcases hU x hx with ⟨e1, e2, e3⟩ | ⟨e1, e2⟩
  · rw [e2, e3]
    show (a.tmps.setIfInBounds s v).getD s undef = v
    rw [Array.getD_eq_getD_getElem?, Array.getElem?_setIfInBounds_self_of_lt (by omega)]
    rfl
  · rw [getD_set e1] at hl
    show (a.tmps.setIfInBounds s v).getD x.2.1 undef = x.2.2
    rw [Array.getD_eq_getD_getElem?, Array.getElem?_setIfInBounds_ne (fun e => e2 e.symm), ← Array.getD_eq_getD_getElem?]
    exact h3 x hx hl
theorem FrI.skip {BL : List (Nat × Nat × Value)} {n : Nat} {l : Array Bool} {a : Act} (h : FrI BL n l a) (i : Nat) (hU : ∀ x, x ∈ BL → x.1 ≠ i) : FrI BL n (l.setIfInBounds i true) a :=
  ⟨h.1, h.2.1, fun x hx hl => h.2.2 x hx (by rw [getD_set (hU x hx)] at hl; exact hl)⟩
theorem owp_value {o : Oper} {a : Act} {w w' : World} {K : Act → World → Prop} (v : Value) (h : (execOp a.eval o).run P w = .ok (.value v) w') (hK : K (a.put o.dst v) w') : o.wp P a w K Q := by
  unfold Oper.wp
  rw [h]
  exact hK
theorem owp_skip {o : Oper} {a : Act} {w w' : World} {K : Act → World → Prop} (h : (execOp a.eval o).run P w = .ok .skip w') (hK : K (a.put o.dst undef) w') : o.wp P a w K Q := by
  unfold Oper.wp
  rw [h]
  exact hK
theorem FrI.slot {BL : List (Nat × Nat × Value)} {n : Nat} {l : Array Bool} {a : Act} (h : FrI BL n l a) {i s : Nat} {v : Value} (hx : (i, s, v) ∈ BL) (hl : l.getD i false = true) : a.tmps[s]?.getD undef = v := by
  have q := h.2.2 _ hx hl
  rw [Array.getD_eq_getD_getElem?] at q
  exact q
theorem frame_eq {t : Array Value} {vs : Array Value} (hs : t.size = vs.size) (h : ∀ s, s < vs.size → t[s]?.getD undef = vs[s]?.getD undef) : t = vs := by
  apply Array.ext hs
  intro i h1 h2
  have q := h i h2
  rw [Array.getElem?_eq_getElem h1, Array.getElem?_eq_getElem h2] at q
  exact q
theorem owp_call {o : Oper} {a : Act} {w : World} {K : Act → World → Prop} {fn : FuncId} {args : Array Value} (h : (execOp a.eval o).run P w = .ok (.enter fn args) w) (hc : Calls P fn args w fun e w' => ∃ v, e = .returned v ∧ K (a.put o.dst v) w') : o.wp P a w K Q := by
  unfold Oper.wp
  rw [h]
  show Calls P fn args w _
  refine hc.mono ?_
  rintro e w' ⟨v, rfl, h1⟩
  exact h1
/-- The slots that have come up; all others are as ahead. -/
def FrU (a0 : Act) (BL : List (Nat × Nat × Value)) (l : Array Bool) (a : Act) : Prop :=
  a.tmps.size = a0.tmps.size ∧ a.defers = a0.defers ∧ (∀ x, x ∈ BL → l.getD x.1 false = true → a.tmps[x.2.1]?.getD undef = x.2.2) ∧ ∀ s, (∀ x, x ∈ BL → x.2.1 ≠ s) → a.tmps[s]? = a0.tmps[s]?
theorem getD_none (n i : Nat) : (Array.replicate n false).getD i false = false := by
  rw [Array.getD_eq_getD_getElem?, Array.getElem?_replicate]
  split <;> rfl
theorem FrU.start (a0 : Act) (BL : List (Nat × Nat × Value)) (n : Nat) : FrU a0 BL (Array.replicate n false) a0 :=
  ⟨rfl, rfl, fun x _ h => (by rw [getD_none] at h; cases h), fun _ _ => rfl⟩
theorem FrU.put {a0 a : Act} {BL BL' : List (Nat × Nat × Value)} {l : Array Bool} (h : FrU a0 BL l a) (i s : Nat) (v : Value) (hs : s < a0.tmps.size) (hin : ∃ x, x ∈ BL' ∧ x.2.1 = s)
    (hU : ∀ x, x ∈ BL' → (x.1 = i ∧ x.2.1 = s ∧ x.2.2 = v) ∨ (x.1 ≠ i ∧ x.2.1 ≠ s ∧ x ∈ BL)) (hS : ∀ x, x ∈ BL → ∃ y, y ∈ BL' ∧ y.2.1 = x.2.1) : FrU a0 BL' (l.setIfInBounds i true) (a.put (some s) v) := by
  obtain ⟨h1, h2, h3, h4⟩ := h
  refine ⟨by simp [Act.put, h1], h2, fun x hx hl => ?_, fun s' hs' => ?_⟩
  · rcases hU x hx with ⟨e1, e2, e3⟩ | ⟨e1, e2, e3⟩
    · rw [e2, e3]
      show (a.tmps.setIfInBounds s v)[s]?.getD undef = v
      rw [Array.getElem?_setIfInBounds_self_of_lt (by omega)]
      rfl
    · rw [getD_set e1] at hl
      show (a.tmps.setIfInBounds s v)[x.2.1]?.getD undef = x.2.2
      rw [Array.getElem?_setIfInBounds_ne (fun e => e2 e.symm)]
      exact h3 x e3 hl
  · obtain ⟨x, hx, hxs⟩ := hin
    have hne : s ≠ s' := fun e => hs' x hx (hxs.trans e)
    show (a.tmps.setIfInBounds s v)[s']? = _
    rw [Array.getElem?_setIfInBounds_ne hne]
    refine h4 s' fun y hy => ?_
    obtain ⟨z, hz, hzs⟩ := hS y hy
    rw [← hzs]
    exact hs' z hz
theorem FrU.skip {a0 a : Act} {BL : List (Nat × Nat × Value)} {l : Array Bool} (h : FrU a0 BL l a) (i : Nat) (hU : ∀ x, x ∈ BL → x.1 ≠ i) : FrU a0 BL (l.setIfInBounds i true) a :=
  ⟨h.1, h.2.1, fun x hx hl => h.2.2.1 x hx (by rw [getD_set (hU x hx)] at hl; exact hl), h.2.2.2⟩
theorem FrU.slot {a0 a : Act} {BL : List (Nat × Nat × Value)} {l : Array Bool} (h : FrU a0 BL l a) {i s : Nat} {v : Value} (hx : (i, s, v) ∈ BL) (hl : l.getD i false = true) : a.tmps[s]?.getD undef = v := h.2.2.1 _ hx hl
theorem FrU.base {a0 a : Act} {BL : List (Nat × Nat × Value)} {l : Array Bool} (h : FrU a0 BL l a) (s : Nat) (hs : ∀ x, x ∈ BL → x.2.1 ≠ s) {v : Value} (h0 : a0.tmps[s]?.getD undef = v) : a.tmps[s]?.getD undef = v := by rw [h.2.2.2 s hs]; exact h0
def setAll : List (Nat × Nat × Value) → Array Value → Array Value
  | [], t => t
  | x :: r, t => setAll r (t.setIfInBounds x.2.1 x.2.2)
theorem setAll_size : ∀ (BL : List (Nat × Nat × Value)) (t : Array Value), (setAll BL t).size = t.size
  | [], _ => rfl
  | x :: r, t => by
    show (setAll r _).size = _
    rw [setAll_size r]
    simp
theorem setAll_out : ∀ (BL : List (Nat × Nat × Value)) (t : Array Value) (s : Nat), (∀ x, x ∈ BL → x.2.1 ≠ s) → (setAll BL t)[s]? = t[s]?
  | [], _, _, _ => rfl
  | x :: r, t, s, h => by
    show (setAll r _)[s]? = _
    rw [setAll_out r _ s (fun y hy => h y (.tail _ hy)), Array.getElem?_setIfInBounds_ne (h x (.head _))]
theorem setAll_in : ∀ (BL : List (Nat × Nat × Value)) (t : Array Value), BL.Pairwise (fun x y => x.2.1 ≠ y.2.1) → ∀ x, x ∈ BL → x.2.1 < t.size → (setAll BL t)[x.2.1]? = some x.2.2
  | [], _, _, _, h, _ => by cases h
  | y :: r, t, hp, x, hx, hs => by
    show (setAll r _)[_]? = _
    obtain ⟨p1, p2⟩ := List.pairwise_cons.1 hp
    rcases List.mem_cons.1 hx with rfl | hx
    · rw [setAll_out r _ _ (fun z hz e => p1 z hz e.symm), Array.getElem?_setIfInBounds_self_of_lt hs]
    · exact setAll_in r _ p2 x hx (by simpa using hs)
theorem FrU.all {a0 a : Act} {BL : List (Nat × Nat × Value)} {l : Array Bool} (h : FrU a0 BL l a) (hl : ∀ x, x ∈ BL → l.getD x.1 false = true) (hp : BL.Pairwise (fun x y => x.2.1 ≠ y.2.1)) (hs : ∀ x, x ∈ BL → x.2.1 < a0.tmps.size) : a = { tmps := setAll BL a0.tmps, defers := a0.defers } := by
  obtain ⟨h1, h2, h3, h4⟩ := h
  have e : a.tmps = setAll BL a0.tmps := by
    refine frame_eq (by rw [setAll_size]; exact h1) fun s _ => ?_
    by_cases hc : ∃ x, x ∈ BL ∧ x.2.1 = s
    · obtain ⟨x, hx, rfl⟩ := hc
      rw [setAll_in BL _ hp x hx (hs x hx), h3 x hx (hl x hx)]
      rfl
    · have q : ∀ x, x ∈ BL → x.2.1 ≠ s := fun x hx e => hc ⟨x, hx, e⟩
      rw [setAll_out BL _ s q, h4 s q]
  obtain ⟨tm, df⟩ := a
  simp only at e h2
  rw [e, h2]
end
end Go.Proofs.Ytdeghjhlbhpopaa
