import Derived.Test.YtlchegibfopglaaK0
import Derived.RegionTactic
import Derived.Test.YtlchegibfopglaaK38
import Derived.Test.YtlchegibfopglaaK10
/- A region that draws its order, by what holds whatever has come up so far. Over any program. -/
namespace Go.Proofs.Ytlchegibfopglaa
open Go.RowKit
section
variable {P : Program} {ops : Array Oper} {Q : Exit → Act → World → Prop}
theorem rdy_spec {listed : Array Bool} {i : Nat} (h : i ∈ Region.ready .any ops listed) : i < ops.size ∧ listed.getD i true = false ∧ ∀ o, ops[i]? = some o → ∀ e, e ∈ o.after → Region.binds .any e = true → listed.getD e.on false = true := by
  unfold Region.ready at h
  rw [List.mem_filter] at h
  obtain ⟨h1, h2⟩ := h
  rw [Bool.and_eq_true] at h2
  refine ⟨List.mem_range.1 h1, by simpa using h2.1, fun o ho e he hb => ?_⟩
  have h3 := h2.2
  rw [ho] at h3
  simp only [Option.map_some, Option.getD_some, Array.all_eq_true'] at h3
  have q := h3 e he
  simpa [hb] using q
theorem all_come {l : Array Bool} (hord : ∀ (i : Nat) (o : Oper), ops[i]? = some o → ∀ e, e ∈ o.after → Region.binds .any e = true → e.on < i) (hl : l.size = ops.size) (h : Region.ready .any ops l = []) : ∀ i, i < ops.size → l.getD i false = true := by
  intro i
  induction i using Nat.strongRecOn with
  | ind i ih =>
    intro hi
    cases hc : l.getD i false with
    | true => rfl
    | false =>
      exfalso
      have hm : i ∈ Region.ready .any ops l := by
        unfold Region.ready
        rw [List.mem_filter]
        refine ⟨List.mem_range.2 hi, ?_⟩
        have ht : l.getD i true = false := by
          rw [Array.getD_eq_getD_getElem?] at hc ⊢
          rw [Array.getElem?_eq_getElem (by omega)] at hc ⊢
          exact hc
        have ho : ops[i]? = some ops[i] := Array.getElem?_eq_getElem hi
        rw [ht, ho]
        simp only [Option.map_some, Option.getD_some, Bool.not_false, Bool.true_and, Array.all_eq_true']
        intro e he
        cases hbe : Region.binds .any e with
        | false => rfl
        | true =>
          have hlt := hord i _ ho e he hbe
          rw [ih e.on hlt (by omega)]
          rfl
      rw [h] at hm
      cases hm
def unl (l : Array Bool) : Nat := l.toList.countP (fun b => !b)
theorem unl_set {l : Array Bool} {i : Nat} (h : l.getD i true = false) : unl (l.setIfInBounds i true) + 1 = unl l := by
  have hi : i < l.toList.length := by
    rcases Nat.lt_or_ge i l.size with q | q
    · simpa using q
    · rw [Array.getD_eq_getD_getElem?, Array.getElem?_eq_none q] at h; cases h
  have hv : l.toList[i] = false := by
    rw [Array.getD_eq_getD_getElem?, Array.getElem?_eq_getElem (by simpa using hi)] at h
    simpa using h
  unfold unl
  rw [Array.toList_setIfInBounds, List.countP_set hi, hv]
  have hp : 0 < l.toList.countP (fun b => !b) := List.countP_pos_iff.2 ⟨_, List.getElem_mem hi, by rw [hv]; rfl⟩
  simp only [Bool.not_false, Bool.not_true, if_true, Bool.false_eq_true, if_false]
  omega
theorem unl_none {l : Array Bool} {i : Nat} (h : l.getD i true = false) : unl l ≠ 0 := by
  have := unl_set h
  omega
theorem wpAny_inv (I : Array Bool → Act → World → Prop) (hI : ∀ l a w, I l a w → l.size = ops.size) (hord : ∀ (i : Nat) (o : Oper), ops[i]? = some o → ∀ e, e ∈ o.after → Region.binds .any e = true → e.on < i) (hg : ∀ (i : Nat) (o : Oper), ops[i]? = some o → o.guard = none)
    (hstep : ∀ l a w i o, I l a w → ops[i]? = some o → l.getD i true = false → (∀ e, e ∈ o.after → Region.binds .any e = true → l.getD e.on false = true) → o.wp P a w (fun a' w' => I (l.setIfInBounds i true) a' w') Q)
    (hend : ∀ l a w, I l a w → (∀ i, i < ops.size → l.getD i false = true) → Q .normal a w) :
    ∀ fuel l a w, I l a w → unl l ≤ fuel → wpAny P .any ops Q fuel l a w
  | 0, l, a, w, h, hf => by
    have hr : Region.ready .any ops l = [] := by
      cases hc : Region.ready .any ops l with
      | nil => rfl
      | cons i r =>
        have hm : i ∈ Region.ready .any ops l := by rw [hc]; exact .head _
        exact absurd (Nat.le_zero.1 hf) (unl_none (rdy_spec hm).2.1)
    exact ⟨hr, hend l a w h (all_come hord (hI l a w h) hr)⟩
  | fuel + 1, l, a, w, h, hf => by
    refine ⟨fun hr => hend l a w h (all_come hord (hI l a w h) hr), fun i hi => ?_⟩
    obtain ⟨h1, h2, h3⟩ := rdy_spec hi
    have ho : ops[i]? = some ops[i] := Array.getElem?_eq_getElem h1
    have hs := hstep l a w i _ h ho h2 (h3 _ ho)
    unfold wpOp
    rw [ho]
    show if Region.wanted ops[i] (yielded ops a.tmps) = true then _ else _
    rw [if_pos (by unfold Region.wanted; rw [hg i _ ho])]
    refine .inl (Oper.wp_mono (fun a' w' h' => ?_) hs)
    exact wpAny_inv I hI hord hg hstep hend fuel _ a' w' h' (by have := unl_set h2; omega)
def ordB (ops : Array Oper) : Bool := (List.range ops.size).all fun i => match ops[i]? with | some o => o.after.all (fun e => !Region.binds .any e || decide (e.on < i)) && o.guard.isNone | none => true
theorem ordB_spec (h : ordB ops = true) : (∀ (i : Nat) (o : Oper), ops[i]? = some o → ∀ e, e ∈ o.after → Region.binds .any e = true → e.on < i) ∧ ∀ (i : Nat) (o : Oper), ops[i]? = some o → o.guard = none := by
  have q : ∀ (i : Nat) (o : Oper), ops[i]? = some o → (o.after.all (fun e => !Region.binds .any e || decide (e.on < i)) && o.guard.isNone) = true := fun i o ho => by
    have hi : i < ops.size := (Array.getElem?_eq_some_iff.1 ho).1
    unfold ordB at h
    have r := List.all_eq_true.1 h i (List.mem_range.2 hi)
    rw [ho] at r
    exact r
  refine ⟨fun i o ho e he hbe => ?_, fun i o ho => ?_⟩
  · have r := (Bool.and_eq_true _ _ ▸ q i o ho : _ ∧ _).1
    have r2 := Array.all_eq_true'.1 r e he
    rw [hbe] at r2
    exact of_decide_eq_true (by simpa using r2)
  · have r := (Bool.and_eq_true _ _ ▸ q i o ho : _ ∧ _).2
    simpa using r
theorem wp_region_inv {id : Nat} {a : Act} {w : World} (I : Array Bool → Act → World → Prop) (hm : P.follows .mixedOrders = true) (hI : ∀ l a w, I l a w → l.size = ops.size)
    (hB : ordB ops = true) (h0 : I (Array.replicate ops.size false) a w.drew)
    (hstep : ∀ l a w i o, I l a w → ops[i]? = some o → l.getD i true = false → (∀ e, e ∈ o.after → Region.binds .any e = true → l.getD e.on false = true) → o.wp P a w (fun a' w' => I (l.setIfInBounds i true) a' w') Q)
    (hend : ∀ l a w, I l a w → (∀ i, i < ops.size → l.getD i false = true) → Q .normal a w) : (Code.region id ops true).wp P Q a w :=
  wp_region_any hm (wpAny_inv I hI (ordB_spec hB).1 (ordB_spec hB).2 hstep hend ops.size _ _ _ h0 (by
    unfold unl
    have := List.countP_le_length (p := fun b => !b) (l := (Array.replicate ops.size false).toList)
    simpa using this))
/-- .. where what holds speaks of the frame ahead. -/
theorem wp_region_inv2 {id : Nat} {a : Act} {w : World} (I : Act → Array Bool → Act → World → Prop) (hm : P.follows .mixedOrders = true) (hI : ∀ l a' w, I a l a' w → l.size = ops.size)
    (hB : ordB ops = true) (h0 : I a (Array.replicate ops.size false) a w.drew)
    (hstep : ∀ l a' w i o, I a l a' w → ops[i]? = some o → l.getD i true = false → (∀ e, e ∈ o.after → Region.binds .any e = true → l.getD e.on false = true) → o.wp P a' w (fun a'' w' => I a (l.setIfInBounds i true) a'' w') Q)
    (hend : ∀ l a' w, I a l a' w → (∀ i, i < ops.size → l.getD i false = true) → Q .normal a' w) : (Code.region id ops true).wp P Q a w :=
  wp_region_inv (I a) hm hI hB h0 hstep hend
/-- The slots that have come up. -/
def FrI (BL : List (Nat × Nat × Value)) (n : Nat) (l : Array Bool) (a : Act) : Prop := a.tmps.size = n ∧ a.defers = [] ∧ ∀ x, x ∈ BL → l.getD x.1 false = true → a.tmps.getD x.2.1 undef = x.2.2
theorem getD_set {l : Array Bool} {i j : Nat} (h : j ≠ i) (d : Bool) : (l.setIfInBounds i true).getD j d = l.getD j d := by
  rw [Array.getD_eq_getD_getElem?, Array.getD_eq_getD_getElem?, Array.getElem?_setIfInBounds_ne (fun e => h e.symm)]
theorem getD_set_self {l : Array Bool} {i : Nat} (h : l.getD i true = false) : (l.setIfInBounds i true).getD i false = true := by
  have hi : i < l.size := by
    rcases Nat.lt_or_ge i l.size with q | q
    · exact q
    · rw [Array.getD_eq_getD_getElem?, Array.getElem?_eq_none q] at h; cases h
  rw [Array.getD_eq_getD_getElem?, Array.getElem?_setIfInBounds_self_of_lt hi]
  rfl
theorem FrI.put {BL : List (Nat × Nat × Value)} {n : Nat} {l : Array Bool} {a : Act} (h : FrI BL n l a) (i s : Nat) (v : Value) (hs : s < n) (hU : ∀ x, x ∈ BL → (x.1 = i ∧ x.2.1 = s ∧ x.2.2 = v) ∨ (x.1 ≠ i ∧ x.2.1 ≠ s)) : FrI BL n (l.setIfInBounds i true) (a.put (some s) v) := by
  obtain ⟨h1, h2, h3⟩ := h
  refine ⟨by simp [Act.put, h1], h2, fun x hx hl => ?_⟩
  rcases hU x hx with ⟨e1, e2, e3⟩ | ⟨e1, e2⟩
  · rw [e2, e3]
    show (a.tmps.setIfInBounds s v).getD s undef = v
    rw [Array.getD_eq_getD_getElem?, Array.getElem?_setIfInBounds_self_of_lt (by omega)]
    rfl
  · rw [getD_set e1] at hl
    show (a.tmps.setIfInBounds s v).getD x.2.1 undef = x.2.2
    rw [Array.getD_eq_getD_getElem?, Array.getElem?_setIfInBounds_ne (fun e => e2 e.symm), ← Array.getD_eq_getD_getElem?]
    exact h3 x hx hl
theorem FrI.skip {BL : List (Nat × Nat × Value)} {n : Nat} {l : Array Bool} {a : Act} (h : FrI BL n l a) (i : Nat) (hU : ∀ x, x ∈ BL → x.1 ≠ i) : FrI BL n (l.setIfInBounds i true) a :=
  ⟨h.1, h.2.1, fun x hx hl => h.2.2 x hx (by rw [getD_set (hU x hx)] at hl; exact hl)⟩
theorem owp_value {o : Oper} {a : Act} {w w' : World} {K : Act → World → Prop} (v : Value) (h : (execOp a.eval o).run P w = .ok (.value v) w') (hK : K (a.put o.dst v) w') : o.wp P a w K Q := by
  unfold Oper.wp
  rw [h]
  exact hK
theorem owp_skip {o : Oper} {a : Act} {w w' : World} {K : Act → World → Prop} (h : (execOp a.eval o).run P w = .ok .skip w') (hK : K (a.put o.dst undef) w') : o.wp P a w K Q := by
  unfold Oper.wp
  rw [h]
  exact hK
theorem FrI.slot {BL : List (Nat × Nat × Value)} {n : Nat} {l : Array Bool} {a : Act} (h : FrI BL n l a) {i s : Nat} {v : Value} (hx : (i, s, v) ∈ BL) (hl : l.getD i false = true) : a.tmps[s]?.getD undef = v := by
  have q := h.2.2 _ hx hl
  rw [Array.getD_eq_getD_getElem?] at q
  exact q
theorem frame_eq {t : Array Value} {vs : Array Value} (hs : t.size = vs.size) (h : ∀ s, s < vs.size → t[s]?.getD undef = vs[s]?.getD undef) : t = vs := by
  apply Array.ext hs
  intro i h1 h2
  have q := h i h2
  rw [Array.getElem?_eq_getElem h1, Array.getElem?_eq_getElem h2] at q
  exact q
theorem owp_call {o : Oper} {a : Act} {w : World} {K : Act → World → Prop} {fn : FuncId} {args : Array Value} (h : (execOp a.eval o).run P w = .ok (.enter fn args) w) (hc : Calls P fn args w fun e w' => ∃ v, e = .returned v ∧ K (a.put o.dst v) w') : o.wp P a w K Q := by
  unfold Oper.wp
  rw [h]
  show Calls P fn args w _
  refine hc.mono ?_
  rintro e w' ⟨v, rfl, h1⟩
  exact h1
/-- The slots that have come up; all others are as ahead. -/
def FrU (a0 : Act) (BL : List (Nat × Nat × Value)) (l : Array Bool) (a : Act) : Prop :=
  a.tmps.size = a0.tmps.size ∧ a.defers = a0.defers ∧ (∀ x, x ∈ BL → l.getD x.1 false = true → a.tmps[x.2.1]?.getD undef = x.2.2) ∧ ∀ s, (∀ x, x ∈ BL → x.2.1 ≠ s) → a.tmps[s]? = a0.tmps[s]?
theorem getD_none (n i : Nat) : (Array.replicate n false).getD i false = false := by
  rw [Array.getD_eq_getD_getElem?, Array.getElem?_replicate]
  split <;> rfl
theorem FrU.start (a0 : Act) (BL : List (Nat × Nat × Value)) (n : Nat) : FrU a0 BL (Array.replicate n false) a0 :=
  ⟨rfl, rfl, fun x _ h => (by rw [getD_none] at h; cases h), fun _ _ => rfl⟩
theorem FrU.put {a0 a : Act} {BL BL' : List (Nat × Nat × Value)} {l : Array Bool} (h : FrU a0 BL l a) (i s : Nat) (v : Value) (hs : s < a0.tmps.size) (hin : ∃ x, x ∈ BL' ∧ x.2.1 = s)
    (hU : ∀ x, x ∈ BL' → (x.1 = i ∧ x.2.1 = s ∧ x.2.2 = v) ∨ (x.1 ≠ i ∧ x.2.1 ≠ s ∧ x ∈ BL)) (hS : ∀ x, x ∈ BL → ∃ y, y ∈ BL' ∧ y.2.1 = x.2.1) : FrU a0 BL' (l.setIfInBounds i true) (a.put (some s) v) := by
  obtain ⟨h1, h2, h3, h4⟩ := h
  refine ⟨by simp [Act.put, h1], h2, fun x hx hl => ?_, fun s' hs' => ?_⟩
  · rcases hU x hx with ⟨e1, e2, e3⟩ | ⟨e1, e2, e3⟩
    · rw [e2, e3]
      show (a.tmps.setIfInBounds s v)[s]?.getD undef = v
      rw [Array.getElem?_setIfInBounds_self_of_lt (by omega)]
      rfl
    · rw [getD_set e1] at hl
      show (a.tmps.setIfInBounds s v)[x.2.1]?.getD undef = x.2.2
      rw [Array.getElem?_setIfInBounds_ne (fun e => e2 e.symm)]
      exact h3 x e3 hl
  · obtain ⟨x, hx, hxs⟩ := hin
    have hne : s ≠ s' := fun e => hs' x hx (hxs.trans e)
    show (a.tmps.setIfInBounds s v)[s']? = _
    rw [Array.getElem?_setIfInBounds_ne hne]
    refine h4 s' fun y hy => ?_
    obtain ⟨z, hz, hzs⟩ := hS y hy
    rw [← hzs]
    exact hs' z hz
theorem FrU.skip {a0 a : Act} {BL : List (Nat × Nat × Value)} {l : Array Bool} (h : FrU a0 BL l a) (i : Nat) (hU : ∀ x, x ∈ BL → x.1 ≠ i) : FrU a0 BL (l.setIfInBounds i true) a :=
  ⟨h.1, h.2.1, fun x hx hl => h.2.2.1 x hx (by rw [getD_set (hU x hx)] at hl; exact hl), h.2.2.2⟩
theorem FrU.slot {a0 a : Act} {BL : List (Nat × Nat × Value)} {l : Array Bool} (h : FrU a0 BL l a) {i s : Nat} {v : Value} (hx : (i, s, v) ∈ BL) (hl : l.getD i false = true) : a.tmps[s]?.getD undef = v := h.2.2.1 _ hx hl
theorem FrU.base {a0 a : Act} {BL : List (Nat × Nat × Value)} {l : Array Bool} (h : FrU a0 BL l a) (s : Nat) (hs : ∀ x, x ∈ BL → x.2.1 ≠ s) {v : Value} (h0 : a0.tmps[s]?.getD undef = v) : a.tmps[s]?.getD undef = v := by rw [h.2.2.2 s hs]; exact h0
def setAll : List (Nat × Nat × Value) → Array Value → Array Value
  | [], t => t
  | x :: r, t => setAll r (t.setIfInBounds x.2.1 x.2.2)
theorem setAll_size : ∀ (BL : List (Nat × Nat × Value)) (t : Array Value), (setAll BL t).size = t.size
  | [], _ => rfl
  | x :: r, t => by
    show (setAll r _).size = _
    rw [setAll_size r]
    simp
theorem setAll_out : ∀ (BL : List (Nat × Nat × Value)) (t : Array Value) (s : Nat), (∀ x, x ∈ BL → x.2.1 ≠ s) → (setAll BL t)[s]? = t[s]?
  | [], _, _, _ => rfl
  | x :: r, t, s, h => by
    show (setAll r _)[s]? = _
    rw [setAll_out r _ s (fun y hy => h y (.tail _ hy)), Array.getElem?_setIfInBounds_ne (h x (.head _))]
theorem setAll_in : ∀ (BL : List (Nat × Nat × Value)) (t : Array Value), BL.Pairwise (fun x y => x.2.1 ≠ y.2.1) → ∀ x, x ∈ BL → x.2.1 < t.size → (setAll BL t)[x.2.1]? = some x.2.2
  | [], _, _, _, h, _ => by cases h
  | y :: r, t, hp, x, hx, hs => by
    show (setAll r _)[_]? = _
    obtain ⟨p1, p2⟩ := List.pairwise_cons.1 hp
    rcases List.mem_cons.1 hx with rfl | hx
    · rw [setAll_out r _ _ (fun z hz e => p1 z hz e.symm), Array.getElem?_setIfInBounds_self_of_lt hs]
    · exact setAll_in r _ p2 x hx (by simpa using hs)
theorem FrU.all {a0 a : Act} {BL : List (Nat × Nat × Value)} {l : Array Bool} (h : FrU a0 BL l a) (hl : ∀ x, x ∈ BL → l.getD x.1 false = true) (hp : BL.Pairwise (fun x y => x.2.1 ≠ y.2.1)) (hs : ∀ x, x ∈ BL → x.2.1 < a0.tmps.size) : a = { tmps := setAll BL a0.tmps, defers := a0.defers } := by
  obtain ⟨h1, h2, h3, h4⟩ := h
  have e : a.tmps = setAll BL a0.tmps := by
    refine frame_eq (by rw [setAll_size]; exact h1) fun s _ => ?_
    by_cases hc : ∃ x, x ∈ BL ∧ x.2.1 = s
    · obtain ⟨x, hx, rfl⟩ := hc
      rw [setAll_in BL _ hp x hx (hs x hx), h3 x hx (hl x hx)]
      rfl
    · have q : ∀ x, x ∈ BL → x.2.1 ≠ s := fun x hx e => hc ⟨x, hx, e⟩
      rw [setAll_out BL _ s q, h4 s q]
  obtain ⟨tm, df⟩ := a
  simp only at e h2
  rw [e, h2]
end
end Go.Proofs.Ytlchegibfopglaa
/- Layer 7, the program: the protocols, a map whose keys are structs. -/
namespace Go.Proofs.Ytlchegibfopglaa
set_option maxRecDepth 100000
open Go.RowKit Go.MapKept
/-- 'v, ok := m[k]', whatever kind of key. -/
theorem run_look_any {P : Program} {w : World} {b : Nat} {es : Array MapEntry} {clock : Nat} (hb : w.heap[b]? = some (.map es clock)) {t kt et : TypeId} (ht : P.underlying t = some (.map kt et)) (key : Value) (hck : ∀ e W, (Instr.checkKey e 10000 kt key).run P W = .ok () W)
    {r : Option (Nat × Value)} (hfk : (Instr.findKey kt key es.toList).run P w = .ok r w) {z : Value} (hz : (zeroValue et).run P w = .ok z w) :
    (Instr.lookup t (.map (some b)) key true).run P w = .ok (match r with | some x => .tuple #[x.2, .bool true] | none => .tuple #[z, .bool false]) w := by
  cases r with
  | none => simp [Instr.lookup, run_underlying ht, MapKept.run_getObj_map hb, hck, hfk, hz, Result.andThen]
  | some x => simp [Instr.lookup, run_underlying ht, MapKept.run_getObj_map hb, hck, hfk, Result.andThen]
/-- A protocol's key; what stands there. -/
def kk (v : Bool) (p : Int) : Value := .agg #[.bool v, .int .u8 p]
def fv (f : Nat) : Value := .agg #[.func (.func f) #[] #[]]
def protL : List (Nat × Bool × Int × Nat) := [(3, false, 6, 26), (6, true, 6, 26), (9, false, 17, 27), (12, true, 17, 27), (15, false, 1, 28), (18, true, 58, 28)]
theorem eqK (v v' : Bool) (p p' : Int) (W : World) : (Op.equal 46 (kk v p) (kk v' p')).run Try.prog W = .ok (v == v' && p == p') W := by
  show (Op.equalIn 10000 46 (.agg #[.bool v, .int .u8 p]) (.agg #[.bool v', .int .u8 p'])).run Try.prog W = _
  have hf : Try.prog.underlying 46 = some (.struct (Try.prog.fieldsOf 46)) := by kernel_rfl
  rw [run_equalIn_struct W 9999 46 _ _ hf (by kernel_rfl)]
  have hl : (Try.prog.fieldsOf 46).toList = [{ name := "v6", type := 4, offset := 0, embedded := false, tag := "", pkgPath := "weighbridge/packet", byteOffset := 0 }, { name := "proto", type := 5, offset := 1, embedded := false, tag := "", pkgPath := "weighbridge/packet", byteOffset := 1 }] := by kernel_rfl
  rw [hl]
  have e1 := run_equalIn_bool' (P := Try.prog) W 9998 4 v v' Try.underlying4
  have e2 := run_equalIn_int (P := Try.prog) W 9998 5 .u8 .u8 p p' Try.underlying5
  have p0 : ∀ (a : Bool) (b : Int), (part 4 #[.bool a, .int .u8 b] 0).run Try.prog W = .ok (.bool a) W := fun a b => by kernel_rfl
  have p1 : ∀ (a : Bool) (b : Int), (part 5 #[.bool a, .int .u8 b] 1).run Try.prog W = .ok (.int .u8 b) W := fun a b => by kernel_rfl
  cases hv : (v == v') <;> cases hp : (p == p') <;> rw [hv] at e1 <;> rw [hp] at e2 <;> simp [Op.eqFields, Sem.run_bind, p0, p1, e1, e2, Result.andThen_ok, Sem.run_ite, Sem.run_pure]
theorem ckK (e : Bool) (v : Bool) (p : Int) (W : World) : (Instr.checkKey e 10000 46 (kk v p)).run Try.prog W = .ok () W := by kernel_rfl
theorem undK : ∃ fs, Try.prog.underlying 46 = some (.struct fs) := ⟨Try.prog.fieldsOf 46, by kernel_rfl⟩
theorem find_asks {v : Bool} {p : Int} (l : List MapEntry) (W : World) : (Instr.findKey 46 (kk v p) l).run Try.prog W = (Instr.findAsking 46 (kk v p) l).run Try.prog W := by
  obtain ⟨fs, hu⟩ := undK
  cases l with
  | nil => simp [Instr.findKey, run_underlying hu, Instr.findNow, Instr.findAsking, Result.andThen]
  | cons e r => simp [Instr.findKey, run_underlying hu, Instr.findNow, Instr.sameNow, kk, Result.andThen]
theorem asks_none {v : Bool} {p : Int} (W : World) : ∀ (l : List MapEntry) (i : Nat), (∀ e, e ∈ l → ∃ v' p', e.key = kk v' p' ∧ (v == v' && p == p') = false) → (Instr.findAsking 46 (kk v p) l i).run Try.prog W = .ok none W
  | [], _, _ => rfl
  | e :: r, i, h => by
    obtain ⟨v', p', hk, hn⟩ := h e (.head _)
    unfold Instr.findAsking
    rw [hk]
    simp only [Sem.run_bind, eqK, hn, Result.andThen_ok, Bool.false_eq_true, if_false]
    exact asks_none W r (i + 1) fun x hx => h x (.tail _ hx)
theorem asks_some {v : Bool} {p : Int} {f : Nat} (W : World) : ∀ (l : List MapEntry) (i : Nat), (∀ e, e ∈ l → ∃ v' p' f', e.key = kk v' p' ∧ e.val = fv f' ∧ ((v == v' && p == p') = true → f' = f)) → (∃ e, e ∈ l ∧ e.key = kk v p) → ∃ j, (Instr.findAsking 46 (kk v p) l i).run Try.prog W = .ok (some (j, fv f)) W
  | [], _, _, h => by obtain ⟨e, he, _⟩ := h; cases he
  | e :: r, i, h, hx => by
    obtain ⟨v', p', f', hk, hv, hn⟩ := h e (.head _)
    unfold Instr.findAsking
    rw [hk]
    simp only [Sem.run_bind, eqK, Result.andThen_ok]
    cases hc : (v == v' && p == p') with
    | true =>
      refine ⟨i, ?_⟩
      rw [if_pos rfl, hv, hn hc]
      rfl
    | false =>
      rw [if_neg (by decide)]
      refine asks_some W r (i + 1) (fun x hx => h x (.tail _ hx)) ?_
      obtain ⟨x, hx, hxk⟩ := hx
      rcases List.mem_cons.1 hx with rfl | hx
      · exfalso
        rw [hk] at hxk
        unfold kk at hxk
        injection hxk with hxk
        have h1 : v' = v ∧ p' = p := by simpa using hxk
        rw [h1.1, h1.2] at hc
        simp at hc
      · exact ⟨x, hx, hxk⟩
/-- All protocols stand there, and nothing else. -/
def Prots (es : Array MapEntry) : Prop := (∀ x, x ∈ protL → ∃ e, e ∈ es.toList ∧ e.key = kk x.2.1 x.2.2.1 ∧ e.val = fv x.2.2.2) ∧ ∀ e, e ∈ es.toList → ∃ x, x ∈ protL ∧ e.key = kk x.2.1 x.2.2.1 ∧ e.val = fv x.2.2.2
def protF (v : Bool) (p : Int) : Option Nat := (protL.find? fun x => x.2.1 == v && x.2.2.1 == p).map (·.2.2.2)
theorem look_any {es : Array MapEntry} (h : Prots es) (v : Bool) (p : Int) {W : World} {b clock : Nat} (hb : W.heap[b]? = some (.map es clock)) :
    (Instr.lookup 55 (.map (some b)) (kk v p) true).run Try.prog W = .ok (match protF v p with | some f => .tuple #[fv f, .bool true] | none => .tuple #[.agg #[.nilFunc], .bool false]) W := by
  have hz : (zeroValue 53).run Try.prog W = .ok (.agg #[.nilFunc]) W := by kernel_rfl
  have one : ∀ x y, x ∈ protL → y ∈ protL → x.2.1 = y.2.1 → x.2.2.1 = y.2.2.1 → x.2.2.2 = y.2.2.2 := by
    have : ∀ x, x ∈ protL → ∀ y, y ∈ protL → x.2.1 = y.2.1 → x.2.2.1 = y.2.2.1 → x.2.2.2 = y.2.2.2 := by decide
    exact fun x y hx hy => this x hx y hy
  unfold protF
  cases hc : protL.find? (fun x => x.2.1 == v && x.2.2.1 == p) with
  | none =>
    have hn := List.find?_eq_none.1 hc
    have hf : (Instr.findKey 46 (kk v p) es.toList).run Try.prog W = .ok none W := by
      rw [find_asks]
      refine asks_none W _ _ fun e he => ?_
      obtain ⟨x, hx, hk, _⟩ := h.2 e he
      refine ⟨_, _, hk, ?_⟩
      have q := hn x hx
      cases q1 : (v == x.2.1 && p == x.2.2.1) with
      | false => rfl
      | true =>
        exfalso
        simp only [Bool.and_eq_true, beq_iff_eq] at q1
        apply q
        simp [q1.1, q1.2]
    exact run_look_any hb Try.underlying55 _ (fun e W => ckK e v p W) hf hz
  | some x =>
    have hx := List.mem_of_find?_eq_some hc
    have hq := List.find?_some hc
    simp only [Bool.and_eq_true, beq_iff_eq] at hq
    obtain ⟨e, he, hk, _⟩ := h.1 x hx
    obtain ⟨j, hf⟩ := asks_some (v := v) (p := p) (f := x.2.2.2) W es.toList 0 (fun e he => by
      obtain ⟨y, hy, hk, hv⟩ := h.2 e he
      refine ⟨_, _, _, hk, hv, fun q1 => ?_⟩
      simp only [Bool.and_eq_true, beq_iff_eq] at q1
      exact one y x hy hx (by rw [← q1.1, hq.1]) (by rw [← q1.2, hq.2])) ⟨e, he, by rw [hk, hq.1, hq.2]⟩
    have hf' : (Instr.findKey 46 (kk v p) es.toList).run Try.prog W = .ok (some (j, fv x.2.2.2)) W := by rw [find_asks]; exact hf
    exact run_look_any hb Try.underlying55 _ (fun e W => ckK e v p W) hf' hz
/-- What protocols tells. -/
def PMap (w : World) (e : Ending) (w' : World) : Prop := e = .returned (.map (some w.heap.size)) ∧ Below w.heap.size w w' ∧ ∃ es clock, w'.heap[w.heap.size]? = some (.map es clock) ∧ Prots es
/-- The values that come up, by their operation and slot. -/
def protB (b : Nat) : List (Nat × Nat × Value) := [(0, 1, .map (some b)), (1, 2, kk false 6), (2, 3, fv 26), (4, 4, kk true 6), (5, 5, fv 26), (7, 6, kk false 17), (8, 7, fv 27), (10, 8, kk true 17), (11, 9, fv 27), (13, 10, kk false 1), (14, 11, fv 28), (16, 12, kk true 58), (17, 13, fv 28), (19, 14, .map (some b)), (20, 0, .map (some b))]
/-- The map, whatever has been put so far. -/
def MapI (w0 : World) (l : Array Bool) (w : World) : Prop :=
  (l.getD 0 true = false ∧ w.heap.size = w0.heap.size ∧ Below w0.heap.size w0 w ∧ ∀ x, x ∈ protL → l.getD x.1 true = false) ∨
  (l.getD 0 false = true ∧ Below w0.heap.size w0 w ∧ ∃ es clock, w.heap[w0.heap.size]? = some (.map es clock) ∧ (∀ x, x ∈ protL → l.getD x.1 false = true → ∃ e, e ∈ es.toList ∧ e.key = kk x.2.1 x.2.2.1 ∧ e.val = fv x.2.2.2) ∧
    ∀ e, e ∈ es.toList → ∃ x, x ∈ protL ∧ l.getD x.1 false = true ∧ e.key = kk x.2.1 x.2.2.1 ∧ e.val = fv x.2.2.2)
theorem MapI.skip {w0 w : World} {l : Array Bool} (h : MapI w0 l w) (i : Nat) (h0 : 0 ≠ i) (hU : ∀ x, x ∈ protL → x.1 ≠ i) : MapI w0 (l.setIfInBounds i true) w := by
  rcases h with ⟨a1, a2, a3, a4⟩ | ⟨a1, a2, es, clock, a3, a4, a5⟩
  · exact .inl ⟨by rw [getD_set h0]; exact a1, a2, a3, fun x hx => by rw [getD_set (hU x hx)]; exact a4 x hx⟩
  · refine .inr ⟨by rw [getD_set h0]; exact a1, a2, es, clock, a3, fun x hx hl => a4 x hx (by rw [getD_set (hU x hx)] at hl; exact hl), fun e he => ?_⟩
    obtain ⟨x, hx, h1, h2⟩ := a5 e he
    exact ⟨x, hx, by rw [getD_set (hU x hx)]; exact h1, h2⟩
theorem MapI.make {w0 w : World} {l : Array Bool} (h : MapI w0 l w) (hl : l.getD 0 true = false) : MapI w0 (l.setIfInBounds 0 true) (w.alloc (.map #[] 0)) := by
  rcases h with ⟨a1, a2, a3, a4⟩ | ⟨a1, _⟩
  · refine .inr ⟨getD_set_self a1, a3.trans (by rw [← a2]; exact below_alloc w _), #[], 0, by rw [← a2]; exact heap_alloc_new w _, fun x hx h => ?_, fun e he => by simp at he⟩
    exfalso
    rw [getD_set (fun e => by have := (show ∀ x, x ∈ protL → x.1 ≠ 0 by decide) x hx; exact this e)] at h
    have q := a4 x hx
    rw [Array.getD_eq_getD_getElem?] at h q
    cases hc : l[x.1]? with
    | none => rw [hc] at q; cases q
    | some b => rw [hc] at h q; simp at h q; rw [h] at q; cases q
  · exfalso
    rw [Array.getD_eq_getD_getElem?] at hl a1
    cases hc : l[0]? with
    | none => rw [hc] at hl; cases hl
    | some b => rw [hc] at hl a1; simp at hl a1; rw [hl] at a1; cases a1
theorem MapI.insert {w0 w : World} {l : Array Bool} (h : MapI w0 l w) (i : Nat) (v : Bool) (p : Int) (f : Nat) (hx : (i, v, p, f) ∈ protL) (hl : l.getD i true = false) (hl0 : l.getD 0 false = true) :
    ∃ w', (Instr.mapUpdate 55 (.map (some w0.heap.size)) (kk v p) (fv f)).run Try.prog w = .ok () w' ∧ MapI w0 (l.setIfInBounds i true) w' := by
  rcases h with ⟨a1, _⟩ | ⟨a1, a2, es, clock, a3, a4, a5⟩
  · exfalso
    rw [Array.getD_eq_getD_getElem?] at hl0 a1
    cases hc : l[0]? with
    | none => rw [hc] at a1; cases a1
    | some b => rw [hc] at hl0 a1; simp at hl0 a1; rw [hl0] at a1; cases a1
  · have one : ∀ x, x ∈ protL → x.1 ≠ i → (v == x.2.1 && p == x.2.2.1) = false := by
      have q : ∀ y, y ∈ protL → ∀ x, x ∈ protL → x.1 ≠ y.1 → (y.2.1 == x.2.1 && y.2.2.1 == x.2.2.1) = false := by decide
      exact fun x hx' hne => q _ hx x hx' hne
    have h0 : 0 ≠ i := (show ∀ x, x ∈ protL → 0 ≠ x.1 by decide) _ hx
    have same : ∀ x, x ∈ protL → x.1 = i → x = (i, v, p, f) := by
      have q : ∀ y, y ∈ protL → ∀ x, x ∈ protL → x.1 = y.1 → x = y := by decide
      exact fun x hx' he => q _ hx x hx' he
    have hf : (Instr.findKey 46 (kk v p) es.toList).run Try.prog w = .ok none w := by
      rw [find_asks]
      refine asks_none w _ _ fun e he => ?_
      obtain ⟨x, hx', h1, h2, _⟩ := a5 e he
      refine ⟨_, _, h2, one x hx' fun e1 => ?_⟩
      rw [e1] at h1
      rw [Array.getD_eq_getD_getElem?] at h1 hl
      cases hc : l[i]? with
      | none => rw [hc] at hl; cases hl
      | some b => rw [hc] at hl h1; simp at hl h1; rw [h1] at hl; cases hl
    refine ⟨{ w with heap := w.heap.setIfInBounds w0.heap.size (.map (es.push ⟨kk v p, fv f, clock⟩) (clock + 1)) }, ?_, .inr ⟨by rw [getD_set h0]; exact hl0, ?_, _, _, (heap_set a3).1, fun x hx' h1 => ?_, fun e he => ?_⟩⟩
    · simp [Instr.mapUpdate, run_underlying Try.underlying55, MapKept.run_getObj_map a3, ckK, hf, MapKept.run_setObj_map _ a3, Result.andThen]
    · have q : ∀ k, k < w0.heap.size → (w.heap.setIfInBounds w0.heap.size (.map (es.push ⟨kk v p, fv f, clock⟩) (clock + 1)))[k]? = w.heap[k]? := fun k hk => (heap_set a3).2 k (by omega)
      exact ⟨a2.os, a2.tape, a2.output, by simp; exact a2.size, fun k hk => (q k hk).trans (a2.block k hk)⟩
    · by_cases e1 : x.1 = i
      · rw [same x hx' e1]
        exact ⟨⟨kk v p, fv f, clock⟩, by simp, rfl, rfl⟩
      · rw [getD_set e1] at h1
        obtain ⟨e, he, h2⟩ := a4 x hx' h1
        exact ⟨e, by simp [he], h2⟩
    · simp at he
      rcases he with he | rfl
      · obtain ⟨x, hx', h1, h2⟩ := a5 e (by simpa using he)
        refine ⟨x, hx', ?_, h2⟩
        by_cases e1 : x.1 = i
        · rw [e1]; exact getD_set_self hl
        · rw [getD_set e1]; exact h1
      · exact ⟨_, hx, getD_set_self hl, rfl, rfl⟩
set_option maxHeartbeats 4000000 in
theorem protocols_any (w : World) : Calls Try.prog 17 #[] w (PMap w) := by
  go_enter Try.func17, Try.ntmps17
  go_upto_region 1 with fail
  rename_i K hK
  refine wp_region_inv (fun l a W => l.size = 21 ∧ FrI (protB w.heap.size) 15 l a ∧ MapI w l W) ?_ ?_ ?_ ?_ ?_ ?_
  · kernel_rfl
  · exact fun _ _ _ h => h.1
  · kernel_rfl
  · refine ⟨by simp, ⟨rfl, rfl, fun x hx h => ?_⟩, .inl ⟨by simp, rfl, (Below.refl _ _).drew, fun x hx => ?_⟩⟩
    · exfalso
      rw [Array.getD_eq_getD_getElem?, Array.getElem?_replicate] at h
      split at h <;> cases h
    · revert x
      decide
  · intro l a W i o hI ho hn hdep
    obtain ⟨hl, hF, hM⟩ := hI
    match i, ho, hn with
    | 0, ho, hn =>
      simp only [List.getElem?_toArray, List.getElem?_cons_zero, List.getElem?_cons_succ, Option.some.injEq] at ho
      subst ho
      have e : W.heap.size = w.heap.size := by
        rcases hM with ⟨_, h, _⟩ | ⟨h, _⟩
        · exact h
        · exfalso
          rw [Array.getD_eq_getD_getElem?] at hn h
          cases hc : l[0]? with
          | none => rw [hc] at hn; cases hn
          | some b => rw [hc] at hn h; simp at hn h; rw [hn] at h; cases h
      refine owp_value (.map (some w.heap.size)) (w' := W.alloc (.map #[] 0)) ?_ ⟨by simp [hl], hF.put 0 1 _ (by decide) (by simp [protB]), hM.make hn⟩
      have hmm := run_makeMap (P := Try.prog)
      rw [← e]
      simp [execOp, hmm]
    | 1, ho, hn =>
      simp only [List.getElem?_toArray, List.getElem?_cons_zero, List.getElem?_cons_succ, Option.some.injEq] at ho
      subst ho
      exact owp_value (kk false 6) (by kernel_rfl) ⟨by simp [hl], hF.put 1 2 _ (by decide) (by simp [protB]), hM.skip 1 (by decide) (by decide)⟩
    | 2, ho, hn =>
      simp only [List.getElem?_toArray, List.getElem?_cons_zero, List.getElem?_cons_succ, Option.some.injEq] at ho
      subst ho
      exact owp_value (fv 26) (by kernel_rfl) ⟨by simp [hl], hF.put 2 3 _ (by decide) (by simp [protB]), hM.skip 2 (by decide) (by decide)⟩
    | 3, ho, hn =>
      simp only [List.getElem?_toArray, List.getElem?_cons_zero, List.getElem?_cons_succ, Option.some.injEq] at ho
      subst ho
      have d0 : l.getD 0 false = true := hdep ⟨0, .data⟩ (by simp) rfl
      have h1 := hF.slot (i := 0) (s := 1) (v := .map (some w.heap.size)) (by simp [protB]) d0
      have h2 := hF.slot (i := 1) (s := 2) (v := kk false 6) (by simp [protB]) (hdep ⟨1, .data⟩ (by simp) rfl)
      have h3 := hF.slot (i := 2) (s := 3) (v := fv 26) (by simp [protB]) (hdep ⟨2, .data⟩ (by simp) rfl)
      obtain ⟨W', hW, hM'⟩ := hM.insert 3 false 6 26 (by simp [protL]) hn d0
      exact owp_skip (w' := W') (by simp [execOp, Act.eval, h1, h2, h3, hW]) ⟨by simp [hl], hF.skip 3 (by simp [protB]), hM'⟩
    | 4, ho, hn =>
      simp only [List.getElem?_toArray, List.getElem?_cons_zero, List.getElem?_cons_succ, Option.some.injEq] at ho
      subst ho
      exact owp_value (kk true 6) (by kernel_rfl) ⟨by simp [hl], hF.put 4 4 _ (by decide) (by simp [protB]), hM.skip 4 (by decide) (by decide)⟩
    | 5, ho, hn =>
      simp only [List.getElem?_toArray, List.getElem?_cons_zero, List.getElem?_cons_succ, Option.some.injEq] at ho
      subst ho
      exact owp_value (fv 26) (by kernel_rfl) ⟨by simp [hl], hF.put 5 5 _ (by decide) (by simp [protB]), hM.skip 5 (by decide) (by decide)⟩
    | 6, ho, hn =>
      simp only [List.getElem?_toArray, List.getElem?_cons_zero, List.getElem?_cons_succ, Option.some.injEq] at ho
      subst ho
      have d0 : l.getD 0 false = true := hdep ⟨0, .data⟩ (by simp) rfl
      have h1 := hF.slot (i := 0) (s := 1) (v := .map (some w.heap.size)) (by simp [protB]) d0
      have h2 := hF.slot (i := 4) (s := 4) (v := kk true 6) (by simp [protB]) (hdep ⟨4, .data⟩ (by simp) rfl)
      have h3 := hF.slot (i := 5) (s := 5) (v := fv 26) (by simp [protB]) (hdep ⟨5, .data⟩ (by simp) rfl)
      obtain ⟨W', hW, hM'⟩ := hM.insert 6 true 6 26 (by simp [protL]) hn d0
      exact owp_skip (w' := W') (by simp [execOp, Act.eval, h1, h2, h3, hW]) ⟨by simp [hl], hF.skip 6 (by simp [protB]), hM'⟩
    | 7, ho, hn =>
      simp only [List.getElem?_toArray, List.getElem?_cons_zero, List.getElem?_cons_succ, Option.some.injEq] at ho
      subst ho
      exact owp_value (kk false 17) (by kernel_rfl) ⟨by simp [hl], hF.put 7 6 _ (by decide) (by simp [protB]), hM.skip 7 (by decide) (by decide)⟩
    | 8, ho, hn =>
      simp only [List.getElem?_toArray, List.getElem?_cons_zero, List.getElem?_cons_succ, Option.some.injEq] at ho
      subst ho
      exact owp_value (fv 27) (by kernel_rfl) ⟨by simp [hl], hF.put 8 7 _ (by decide) (by simp [protB]), hM.skip 8 (by decide) (by decide)⟩
    | 9, ho, hn =>
      simp only [List.getElem?_toArray, List.getElem?_cons_zero, List.getElem?_cons_succ, Option.some.injEq] at ho
      subst ho
      have d0 : l.getD 0 false = true := hdep ⟨0, .data⟩ (by simp) rfl
      have h1 := hF.slot (i := 0) (s := 1) (v := .map (some w.heap.size)) (by simp [protB]) d0
      have h2 := hF.slot (i := 7) (s := 6) (v := kk false 17) (by simp [protB]) (hdep ⟨7, .data⟩ (by simp) rfl)
      have h3 := hF.slot (i := 8) (s := 7) (v := fv 27) (by simp [protB]) (hdep ⟨8, .data⟩ (by simp) rfl)
      obtain ⟨W', hW, hM'⟩ := hM.insert 9 false 17 27 (by simp [protL]) hn d0
      exact owp_skip (w' := W') (by simp [execOp, Act.eval, h1, h2, h3, hW]) ⟨by simp [hl], hF.skip 9 (by simp [protB]), hM'⟩
    | 10, ho, hn =>
      simp only [List.getElem?_toArray, List.getElem?_cons_zero, List.getElem?_cons_succ, Option.some.injEq] at ho
      subst ho
      exact owp_value (kk true 17) (by kernel_rfl) ⟨by simp [hl], hF.put 10 8 _ (by decide) (by simp [protB]), hM.skip 10 (by decide) (by decide)⟩
    | 11, ho, hn =>
      simp only [List.getElem?_toArray, List.getElem?_cons_zero, List.getElem?_cons_succ, Option.some.injEq] at ho
      subst ho
      exact owp_value (fv 27) (by kernel_rfl) ⟨by simp [hl], hF.put 11 9 _ (by decide) (by simp [protB]), hM.skip 11 (by decide) (by decide)⟩
    | 12, ho, hn =>
      simp only [List.getElem?_toArray, List.getElem?_cons_zero, List.getElem?_cons_succ, Option.some.injEq] at ho
      subst ho
      have d0 : l.getD 0 false = true := hdep ⟨0, .data⟩ (by simp) rfl
      have h1 := hF.slot (i := 0) (s := 1) (v := .map (some w.heap.size)) (by simp [protB]) d0
      have h2 := hF.slot (i := 10) (s := 8) (v := kk true 17) (by simp [protB]) (hdep ⟨10, .data⟩ (by simp) rfl)
      have h3 := hF.slot (i := 11) (s := 9) (v := fv 27) (by simp [protB]) (hdep ⟨11, .data⟩ (by simp) rfl)
      obtain ⟨W', hW, hM'⟩ := hM.insert 12 true 17 27 (by simp [protL]) hn d0
      exact owp_skip (w' := W') (by simp [execOp, Act.eval, h1, h2, h3, hW]) ⟨by simp [hl], hF.skip 12 (by simp [protB]), hM'⟩
    | 13, ho, hn =>
      simp only [List.getElem?_toArray, List.getElem?_cons_zero, List.getElem?_cons_succ, Option.some.injEq] at ho
      subst ho
      exact owp_value (kk false 1) (by kernel_rfl) ⟨by simp [hl], hF.put 13 10 _ (by decide) (by simp [protB]), hM.skip 13 (by decide) (by decide)⟩
    | 14, ho, hn =>
      simp only [List.getElem?_toArray, List.getElem?_cons_zero, List.getElem?_cons_succ, Option.some.injEq] at ho
      subst ho
      exact owp_value (fv 28) (by kernel_rfl) ⟨by simp [hl], hF.put 14 11 _ (by decide) (by simp [protB]), hM.skip 14 (by decide) (by decide)⟩
    | 15, ho, hn =>
      simp only [List.getElem?_toArray, List.getElem?_cons_zero, List.getElem?_cons_succ, Option.some.injEq] at ho
      subst ho
      have d0 : l.getD 0 false = true := hdep ⟨0, .data⟩ (by simp) rfl
      have h1 := hF.slot (i := 0) (s := 1) (v := .map (some w.heap.size)) (by simp [protB]) d0
      have h2 := hF.slot (i := 13) (s := 10) (v := kk false 1) (by simp [protB]) (hdep ⟨13, .data⟩ (by simp) rfl)
      have h3 := hF.slot (i := 14) (s := 11) (v := fv 28) (by simp [protB]) (hdep ⟨14, .data⟩ (by simp) rfl)
      obtain ⟨W', hW, hM'⟩ := hM.insert 15 false 1 28 (by simp [protL]) hn d0
      exact owp_skip (w' := W') (by simp [execOp, Act.eval, h1, h2, h3, hW]) ⟨by simp [hl], hF.skip 15 (by simp [protB]), hM'⟩
    | 16, ho, hn =>
      simp only [List.getElem?_toArray, List.getElem?_cons_zero, List.getElem?_cons_succ, Option.some.injEq] at ho
      subst ho
      exact owp_value (kk true 58) (by kernel_rfl) ⟨by simp [hl], hF.put 16 12 _ (by decide) (by simp [protB]), hM.skip 16 (by decide) (by decide)⟩
    | 17, ho, hn =>
      simp only [List.getElem?_toArray, List.getElem?_cons_zero, List.getElem?_cons_succ, Option.some.injEq] at ho
      subst ho
      exact owp_value (fv 28) (by kernel_rfl) ⟨by simp [hl], hF.put 17 13 _ (by decide) (by simp [protB]), hM.skip 17 (by decide) (by decide)⟩
    | 18, ho, hn =>
      simp only [List.getElem?_toArray, List.getElem?_cons_zero, List.getElem?_cons_succ, Option.some.injEq] at ho
      subst ho
      have d0 : l.getD 0 false = true := hdep ⟨0, .data⟩ (by simp) rfl
      have h1 := hF.slot (i := 0) (s := 1) (v := .map (some w.heap.size)) (by simp [protB]) d0
      have h2 := hF.slot (i := 16) (s := 12) (v := kk true 58) (by simp [protB]) (hdep ⟨16, .data⟩ (by simp) rfl)
      have h3 := hF.slot (i := 17) (s := 13) (v := fv 28) (by simp [protB]) (hdep ⟨17, .data⟩ (by simp) rfl)
      obtain ⟨W', hW, hM'⟩ := hM.insert 18 true 58 28 (by simp [protL]) hn d0
      exact owp_skip (w' := W') (by simp [execOp, Act.eval, h1, h2, h3, hW]) ⟨by simp [hl], hF.skip 18 (by simp [protB]), hM'⟩
    | 19, ho, hn =>
      simp only [List.getElem?_toArray, List.getElem?_cons_zero, List.getElem?_cons_succ, Option.some.injEq] at ho
      subst ho
      have h1 := hF.slot (i := 0) (s := 1) (v := .map (some w.heap.size)) (by simp [protB]) (hdep ⟨0, .data⟩ (by simp) rfl)
      exact owp_value (.map (some w.heap.size)) (w' := W) (by simp [execOp, Act.eval, h1]) ⟨by simp [hl], hF.put 19 14 _ (by decide) (by simp [protB]), hM.skip 19 (by decide) (by decide)⟩
    | 20, ho, hn =>
      simp only [List.getElem?_toArray, List.getElem?_cons_zero, List.getElem?_cons_succ, Option.some.injEq] at ho
      subst ho
      have h1 := hF.slot (i := 19) (s := 14) (v := .map (some w.heap.size)) (by simp [protB]) (hdep ⟨19, .data⟩ (by simp) rfl)
      exact owp_value (.map (some w.heap.size)) (w' := W) (by simp [execOp, Act.eval, h1]) ⟨by simp [hl], hF.put 20 0 _ (by decide) (by simp [protB]), hM.skip 20 (by decide) (by decide)⟩
    | i + 21, ho, hn => simp at ho
  · intro l a W hI hall
    obtain ⟨hl, hF, hM⟩ := hI
    have hall : ∀ i, i < 21 → l.getD i false = true := hall
    have ht : a.tmps = #[.map (some w.heap.size), .map (some w.heap.size), kk false 6, fv 26, kk true 6, fv 26, kk false 17, fv 27, kk true 17, fv 27, kk false 1, fv 28, kk true 58, fv 28, .map (some w.heap.size)] := by
      refine frame_eq hF.1 fun s hs => ?_
      have hs : s < 15 := hs
      match s, hs with
      | 0, _ => exact hF.slot (i := 20) (by simp [protB]) (hall 20 (by decide))
      | 1, _ => exact hF.slot (i := 0) (by simp [protB]) (hall 0 (by decide))
      | 2, _ => exact hF.slot (i := 1) (by simp [protB]) (hall 1 (by decide))
      | 3, _ => exact hF.slot (i := 2) (by simp [protB]) (hall 2 (by decide))
      | 4, _ => exact hF.slot (i := 4) (by simp [protB]) (hall 4 (by decide))
      | 5, _ => exact hF.slot (i := 5) (by simp [protB]) (hall 5 (by decide))
      | 6, _ => exact hF.slot (i := 7) (by simp [protB]) (hall 7 (by decide))
      | 7, _ => exact hF.slot (i := 8) (by simp [protB]) (hall 8 (by decide))
      | 8, _ => exact hF.slot (i := 10) (by simp [protB]) (hall 10 (by decide))
      | 9, _ => exact hF.slot (i := 11) (by simp [protB]) (hall 11 (by decide))
      | 10, _ => exact hF.slot (i := 13) (by simp [protB]) (hall 13 (by decide))
      | 11, _ => exact hF.slot (i := 14) (by simp [protB]) (hall 14 (by decide))
      | 12, _ => exact hF.slot (i := 16) (by simp [protB]) (hall 16 (by decide))
      | 13, _ => exact hF.slot (i := 17) (by simp [protB]) (hall 17 (by decide))
      | 14, _ => exact hF.slot (i := 19) (by simp [protB]) (hall 19 (by decide))
      | s + 15, h => exact absurd h (by omega)
    have ha : a = { tmps := #[.map (some w.heap.size), .map (some w.heap.size), kk false 6, fv 26, kk true 6, fv 26, kk false 17, fv 27, kk true 17, fv 27, kk false 1, fv 28, kk true 58, fv 28, .map (some w.heap.size)], defers := [] } := by
      obtain ⟨tm, df⟩ := a
      simp only at ht
      have hd : df = [] := hF.2.1
      rw [ht, hd]
    rcases hM with ⟨h, _⟩ | ⟨_, hb, es, clock, h3, h4, h5⟩
    · exfalso
      have q := hall 0 (by decide)
      rw [Array.getD_eq_getD_getElem?] at h q
      cases hc : l[0]? with
      | none => rw [hc] at q; cases q
      | some b => rw [hc] at h q; simp at h q; rw [h] at q; cases q
    · have HP : Hid (PMap w (.returned (.map (some w.heap.size))) W) := Lib.hid ⟨rfl, hb, es, clock, h3, fun x hx => h4 x hx (hall x.1 ((show ∀ x, x ∈ protL → x.1 < 21 by decide) x hx)), fun e he => by
        obtain ⟨x, hx, _, h6⟩ := h5 e he
        exact ⟨x, hx, h6⟩⟩
      refine hK a W ?_
      subst ha
      clear hall hF hb h3 h4 h5 hl
      go_wp2
      go_ret
      exact HP.out
end Go.Proofs.Ytlchegibfopglaa
