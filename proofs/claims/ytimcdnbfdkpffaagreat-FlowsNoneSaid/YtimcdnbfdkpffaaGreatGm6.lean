import Derived.Test.YtimcdnbfdkpffaaGreatGm2
import Derived.Test.YtimcdnbfdkpffaaGreatGm5
import Derived.Test.YtimcdnbfdkpffaaGreatGm0
import Derived.RegionTactic
import Derived.RangeFuncNested
import Derived.RangeFuncBound
import Derived.RangeFuncCalls
import Derived.RangeFuncLeaves
import Derived.Shelf.Abstract
import Derived.Shelf.RegionOpen
import Derived.WalkKit
import Derived.OwnWalkIn
import Derived.TacticsInMore
import Derived.LoopNIn
import Derived.LoopIn
import Derived.Laws.StructEq
import Derived.Sort.QuietThIn
/- Stage 9: the document's which and Live. -/
namespace Go.Proofs.YtimcdnbfdkpffaaGreat
set_option maxRecDepth 100000
open Go.RowKit
theorem Ar.which_first {s : Ar} {k : Nat} (h : s.freed.length = 0) (hk : k < s.has.length) (h0 : s.at_ k = 0) (hl : ∀ j, j < k → s.at_ j ≠ 0) : s.which = some k := by
  unfold Ar.which
  rw [List.length_eq_zero_iff.1 h]
  show s.has.findIdx? (· == 0) = some k
  rw [List.findIdx?_eq_some_iff_getElem]
  refine ⟨hk, ?_, fun j hj => ?_⟩
  · have e := h0
    unfold Ar.at_ at e
    rw [List.getElem?_eq_getElem hk] at e
    simpa using e
  · have e := hl j hj
    unfold Ar.at_ at e
    rw [List.getElem?_eq_getElem (by omega)] at e
    simpa using e
theorem Ar.which_no {s : Ar} (h : s.freed.length = 0) (hl : ∀ j, j < s.has.length → s.at_ j ≠ 0) : s.which = none := by
  unfold Ar.which
  rw [List.length_eq_zero_iff.1 h]
  show s.has.findIdx? (· == 0) = none
  rw [List.findIdx?_eq_none_iff]
  intro x hx
  obtain ⟨j, hj, rfl⟩ := List.mem_iff_getElem.1 hx
  have e := hl j hj
  unfold Ar.at_ at e
  rw [List.getElem?_eq_getElem hj] at e
  simpa using e
theorem Ar.live_no {s : Ar} {i : Int} {k : Nat} (h : ¬ (0 ≤ i ∧ k ≠ 0 ∧ s.at_ i.toNat = k)) : s.live i k = false := by
  cases e : s.live i k with
  | false => rfl
  | true => exact absurd (Ar.live_iff.1 e) h
end Go.Proofs.YtimcdnbfdkpffaaGreat
/- A region that draws its order, by what holds whatever has come up so far. Over any program. -/
namespace Go.Proofs.YtimcdnbfdkpffaaGreat
open Go.RowKit
section
variable {P : Program} {ops : Array Oper} {Q : Exit → Act → World → Prop}
theorem rdy_spec {listed : Array Bool} {i : Nat} (h : i ∈ Region.ready .any ops listed) : i < ops.size ∧ listed.getD i true = false ∧ ∀ o, ops[i]? = some o → ∀ e, e ∈ o.after → Region.binds .any e = true → listed.getD e.on false = true := by
  unfold Region.ready at h
  rw [List.mem_filter] at h
  obtain ⟨h1, h2⟩ := h
  rw [Bool.and_eq_true] at h2
  refine ⟨List.mem_range.1 h1, by simpa using h2.1, fun o ho e he hb => ?_⟩
  have h3 := h2.2
  rw [ho] at h3
  simp only [Option.map_some, Option.getD_some, Array.all_eq_true'] at h3
  have q := h3 e he
  simpa [hb] using q
theorem all_come {l : Array Bool} (hord : ∀ (i : Nat) (o : Oper), ops[i]? = some o → ∀ e, e ∈ o.after → Region.binds .any e = true → e.on < i) (hl : l.size = ops.size) (h : Region.ready .any ops l = []) : ∀ i, i < ops.size → l.getD i false = true := by
  intro i
  induction i using Nat.strongRecOn with
  | ind i ih =>
    intro hi
    cases hc : l.getD i false with
    | true => rfl
    | false =>
      exfalso
      have hm : i ∈ Region.ready .any ops l := by
        unfold Region.ready
        rw [List.mem_filter]
        refine ⟨List.mem_range.2 hi, ?_⟩
        have ht : l.getD i true = false := by
          rw [Array.getD_eq_getD_getElem?] at hc ⊢
          rw [Array.getElem?_eq_getElem (by omega)] at hc ⊢
          exact hc
        have ho : ops[i]? = some ops[i] := Array.getElem?_eq_getElem hi
        rw [ht, ho]
        simp only [Option.map_some, Option.getD_some, Bool.not_false, Bool.true_and, Array.all_eq_true']
        intro e he
        cases hbe : Region.binds .any e with
        | false => rfl
        | true =>
          have hlt := hord i _ ho e he hbe
          rw [ih e.on hlt (by omega)]
          rfl
      rw [h] at hm
      cases hm
def unl (l : Array Bool) : Nat := l.toList.countP (fun b => !b)
theorem unl_set {l : Array Bool} {i : Nat} (h : l.getD i true = false) : unl (l.setIfInBounds i true) + 1 = unl l := by
  have hi : i < l.toList.length := by
    rcases Nat.lt_or_ge i l.size with q | q
    · simpa using q
    · rw [Array.getD_eq_getD_getElem?, Array.getElem?_eq_none q] at h; cases h
  have hv : l.toList[i] = false := by
    rw [Array.getD_eq_getD_getElem?, Array.getElem?_eq_getElem (by simpa using hi)] at h
    simpa using h
  unfold unl
  rw [Array.toList_setIfInBounds, List.countP_set hi, hv]
  have hp : 0 < l.toList.countP (fun b => !b) := List.countP_pos_iff.2 ⟨_, List.getElem_mem hi, by rw [hv]; rfl⟩
  simp only [Bool.not_false, Bool.not_true, if_true, Bool.false_eq_true, if_false]
  omega
theorem unl_none {l : Array Bool} {i : Nat} (h : l.getD i true = false) : unl l ≠ 0 := by
  have := unl_set h
  omega
theorem getD_set {l : Array Bool} {i j : Nat} (h : j ≠ i) (d : Bool) : (l.setIfInBounds i true).getD j d = l.getD j d := by
  rw [Array.getD_eq_getD_getElem?, Array.getD_eq_getD_getElem?, Array.getElem?_setIfInBounds_ne (fun e => h e.symm)]
theorem getD_set_self {l : Array Bool} {i : Nat} (h : l.getD i true = false) : (l.setIfInBounds i true).getD i false = true := by
  have hi : i < l.size := by
    rcases Nat.lt_or_ge i l.size with q | q
    · exact q
    · rw [Array.getD_eq_getD_getElem?, Array.getElem?_eq_none q] at h; cases h
  rw [Array.getD_eq_getD_getElem?, Array.getElem?_setIfInBounds_self_of_lt hi]
  rfl
theorem owp_value {o : Oper} {a : Act} {w w' : World} {K : Act → World → Prop} (v : Value) (h : (execOp a.eval o).run P w = .ok (.value v) w') (hK : K (a.put o.dst v) w') : o.wp P a w K Q := by
  unfold Oper.wp
  rw [h]
  exact hK
theorem owp_skip {o : Oper} {a : Act} {w w' : World} {K : Act → World → Prop} (h : (execOp a.eval o).run P w = .ok .skip w') (hK : K (a.put o.dst undef) w') : o.wp P a w K Q := by
  unfold Oper.wp
  rw [h]
  exact hK
theorem frame_eq {t : Array Value} {vs : Array Value} (hs : t.size = vs.size) (h : ∀ s, s < vs.size → t[s]?.getD undef = vs[s]?.getD undef) : t = vs := by
  apply Array.ext hs
  intro i h1 h2
  have q := h i h2
  rw [Array.getElem?_eq_getElem h1, Array.getElem?_eq_getElem h2] at q
  exact q
theorem owp_call {o : Oper} {a : Act} {w : World} {K : Act → World → Prop} {fn : FuncId} {args : Array Value} (h : (execOp a.eval o).run P w = .ok (.enter fn args) w) (hc : Calls P fn args w fun e w' => ∃ v, e = .returned v ∧ K (a.put o.dst v) w') : o.wp P a w K Q := by
  unfold Oper.wp
  rw [h]
  show Calls P fn args w _
  refine hc.mono ?_
  rintro e w' ⟨v, rfl, h1⟩
  exact h1
/-- The slots that have come up; all others are as ahead. -/
def FrU (a0 : Act) (BL : List (Nat × Nat × Value)) (l : Array Bool) (a : Act) : Prop :=
  a.tmps.size = a0.tmps.size ∧ a.defers = a0.defers ∧ (∀ x, x ∈ BL → l.getD x.1 false = true → a.tmps[x.2.1]?.getD undef = x.2.2) ∧ ∀ s, (∀ x, x ∈ BL → x.2.1 ≠ s) → a.tmps[s]? = a0.tmps[s]?
theorem getD_none (n i : Nat) : (Array.replicate n false).getD i false = false := by
  rw [Array.getD_eq_getD_getElem?, Array.getElem?_replicate]
  split <;> rfl
theorem FrU.start (a0 : Act) (BL : List (Nat × Nat × Value)) (n : Nat) : FrU a0 BL (Array.replicate n false) a0 :=
  ⟨rfl, rfl, fun x _ h => (by rw [getD_none] at h; cases h), fun _ _ => rfl⟩
theorem FrU.put {a0 a : Act} {BL BL' : List (Nat × Nat × Value)} {l : Array Bool} (h : FrU a0 BL l a) (i s : Nat) (v : Value) (hs : s < a0.tmps.size) (hin : ∃ x, x ∈ BL' ∧ x.2.1 = s)
    (hU : ∀ x, x ∈ BL' → (x.1 = i ∧ x.2.1 = s ∧ x.2.2 = v) ∨ (x.1 ≠ i ∧ x.2.1 ≠ s ∧ x ∈ BL)) (hS : ∀ x, x ∈ BL → ∃ y, y ∈ BL' ∧ y.2.1 = x.2.1) : FrU a0 BL' (l.setIfInBounds i true) (a.put (some s) v) := by
  obtain ⟨h1, h2, h3, h4⟩ := h
  refine ⟨by simp [Act.put, h1], h2, fun x hx hl => ?_, fun s' hs' => ?_⟩
  · rcases hU x hx with ⟨e1, e2, e3⟩ | ⟨e1, e2, e3⟩
    · rw [e2, e3]
      show (a.tmps.setIfInBounds s v)[s]?.getD undef = v
      rw [Array.getElem?_setIfInBounds_self_of_lt (by omega)]
      rfl
    · rw [getD_set e1] at hl
      show (a.tmps.setIfInBounds s v)[x.2.1]?.getD undef = x.2.2
      rw [Array.getElem?_setIfInBounds_ne (fun e => e2 e.symm)]
      exact h3 x e3 hl
  · obtain ⟨x, hx, hxs⟩ := hin
    have hne : s ≠ s' := fun e => hs' x hx (hxs.trans e)
    show (a.tmps.setIfInBounds s v)[s']? = _
    rw [Array.getElem?_setIfInBounds_ne hne]
    refine h4 s' fun y hy => ?_
    obtain ⟨z, hz, hzs⟩ := hS y hy
    rw [← hzs]
    exact hs' z hz
theorem FrU.skip {a0 a : Act} {BL : List (Nat × Nat × Value)} {l : Array Bool} (h : FrU a0 BL l a) (i : Nat) (hU : ∀ x, x ∈ BL → x.1 ≠ i) : FrU a0 BL (l.setIfInBounds i true) a :=
  ⟨h.1, h.2.1, fun x hx hl => h.2.2.1 x hx (by rw [getD_set (hU x hx)] at hl; exact hl), h.2.2.2⟩
theorem FrU.slot {a0 a : Act} {BL : List (Nat × Nat × Value)} {l : Array Bool} (h : FrU a0 BL l a) {i s : Nat} {v : Value} (hx : (i, s, v) ∈ BL) (hl : l.getD i false = true) : a.tmps[s]?.getD undef = v := h.2.2.1 _ hx hl
theorem FrU.base {a0 a : Act} {BL : List (Nat × Nat × Value)} {l : Array Bool} (h : FrU a0 BL l a) (s : Nat) (hs : ∀ x, x ∈ BL → x.2.1 ≠ s) {v : Value} (h0 : a0.tmps[s]?.getD undef = v) : a.tmps[s]?.getD undef = v := by rw [h.2.2.2 s hs]; exact h0
def setAll : List (Nat × Nat × Value) → Array Value → Array Value
  | [], t => t
  | x :: r, t => setAll r (t.setIfInBounds x.2.1 x.2.2)
theorem setAll_size : ∀ (BL : List (Nat × Nat × Value)) (t : Array Value), (setAll BL t).size = t.size
  | [], _ => rfl
  | x :: r, t => by
    show (setAll r _).size = _
    rw [setAll_size r]
    simp
theorem setAll_out : ∀ (BL : List (Nat × Nat × Value)) (t : Array Value) (s : Nat), (∀ x, x ∈ BL → x.2.1 ≠ s) → (setAll BL t)[s]? = t[s]?
  | [], _, _, _ => rfl
  | x :: r, t, s, h => by
    show (setAll r _)[s]? = _
    rw [setAll_out r _ s (fun y hy => h y (.tail _ hy)), Array.getElem?_setIfInBounds_ne (h x (.head _))]
theorem setAll_in : ∀ (BL : List (Nat × Nat × Value)) (t : Array Value), BL.Pairwise (fun x y => x.2.1 ≠ y.2.1) → ∀ x, x ∈ BL → x.2.1 < t.size → (setAll BL t)[x.2.1]? = some x.2.2
  | [], _, _, _, h, _ => by cases h
  | y :: r, t, hp, x, hx, hs => by
    show (setAll r _)[_]? = _
    obtain ⟨p1, p2⟩ := List.pairwise_cons.1 hp
    rcases List.mem_cons.1 hx with rfl | hx
    · rw [setAll_out r _ _ (fun z hz e => p1 z hz e.symm), Array.getElem?_setIfInBounds_self_of_lt hs]
    · exact setAll_in r _ p2 x hx (by simpa using hs)
theorem FrU.all {a0 a : Act} {BL : List (Nat × Nat × Value)} {l : Array Bool} (h : FrU a0 BL l a) (hl : ∀ x, x ∈ BL → l.getD x.1 false = true) (hp : BL.Pairwise (fun x y => x.2.1 ≠ y.2.1)) (hs : ∀ x, x ∈ BL → x.2.1 < a0.tmps.size) : a = { tmps := setAll BL a0.tmps, defers := a0.defers } := by
  obtain ⟨h1, h2, h3, h4⟩ := h
  have e : a.tmps = setAll BL a0.tmps := by
    refine frame_eq (by rw [setAll_size]; exact h1) fun s _ => ?_
    by_cases hc : ∃ x, x ∈ BL ∧ x.2.1 = s
    · obtain ⟨x, hx, rfl⟩ := hc
      rw [setAll_in BL _ hp x hx (hs x hx), h3 x hx (hl x hx)]
      rfl
    · have q : ∀ x, x ∈ BL → x.2.1 ≠ s := fun x hx e => hc ⟨x, hx, e⟩
      rw [setAll_out BL _ s q, h4 s q]
  obtain ⟨tm, df⟩ := a
  simp only at e h2
  rw [e, h2]
end
end Go.Proofs.YtimcdnbfdkpffaaGreat
/- A region that draws its order, by what holds whatever has come up so far, with guards that are known. Over any program. -/
namespace Go.Proofs.YtimcdnbfdkpffaaGreat
open Go.RowKit
section
variable {P : Program} {ops : Array Oper} {Q : Exit → Act → World → Prop}
theorem wpAny_invG (I : Array Bool → Act → World → Prop) (hI : ∀ l a w, I l a w → l.size = ops.size) (hord : ∀ (i : Nat) (o : Oper), ops[i]? = some o → ∀ e, e ∈ o.after → Region.binds .any e = true → e.on < i)
    (hstep : ∀ l a w i o, I l a w → ops[i]? = some o → l.getD i true = false → (∀ e, e ∈ o.after → Region.binds .any e = true → l.getD e.on false = true) → Region.wanted o (yielded ops a.tmps) = true ∧ o.wp P a w (fun a' w' => I (l.setIfInBounds i true) a' w') Q)
    (hend : ∀ l a w, I l a w → (∀ i, i < ops.size → l.getD i false = true) → Q .normal a w) :
    ∀ fuel l a w, I l a w → unl l ≤ fuel → wpAny P .any ops Q fuel l a w
  | 0, l, a, w, h, hf => by
    have hr : Region.ready .any ops l = [] := by
      cases hc : Region.ready .any ops l with
      | nil => rfl
      | cons i r =>
        have hm : i ∈ Region.ready .any ops l := by rw [hc]; exact .head _
        exact absurd (Nat.le_zero.1 hf) (unl_none (rdy_spec hm).2.1)
    exact ⟨hr, hend l a w h (all_come hord (hI l a w h) hr)⟩
  | fuel + 1, l, a, w, h, hf => by
    refine ⟨fun hr => hend l a w h (all_come hord (hI l a w h) hr), fun i hi => ?_⟩
    obtain ⟨h1, h2, h3⟩ := rdy_spec hi
    have ho : ops[i]? = some ops[i] := Array.getElem?_eq_getElem h1
    obtain ⟨hw, hs⟩ := hstep l a w i _ h ho h2 (h3 _ ho)
    unfold wpOp
    rw [ho]
    show if Region.wanted ops[i] (yielded ops a.tmps) = true then _ else _
    rw [if_pos hw]
    refine .inl (Oper.wp_mono (fun a' w' h' => ?_) hs)
    exact wpAny_invG I hI hord hstep hend fuel _ a' w' h' (by have := unl_set h2; omega)
def ordG (ops : Array Oper) : Bool := (List.range ops.size).all fun i => match ops[i]? with | some o => o.after.all (fun e => !Region.binds .any e || decide (e.on < i)) | none => true
theorem ordG_spec (h : ordG ops = true) : ∀ (i : Nat) (o : Oper), ops[i]? = some o → ∀ e, e ∈ o.after → Region.binds .any e = true → e.on < i := fun i o ho e he hbe => by
  have hi : i < ops.size := (Array.getElem?_eq_some_iff.1 ho).1
  unfold ordG at h
  have r := List.all_eq_true.1 h i (List.mem_range.2 hi)
  rw [ho] at r
  have r2 := Array.all_eq_true'.1 r e he
  rw [hbe] at r2
  exact of_decide_eq_true (by simpa using r2)
theorem wp_region_invG {id : Nat} {a : Act} {w : World} (I : Act → Array Bool → Act → World → Prop) (hm : P.follows .mixedOrders = true) (hI : ∀ l a' w, I a l a' w → l.size = ops.size)
    (hB : ordG ops = true) (h0 : I a (Array.replicate ops.size false) a w.drew)
    (hstep : ∀ l a' w i o, I a l a' w → ops[i]? = some o → l.getD i true = false → (∀ e, e ∈ o.after → Region.binds .any e = true → l.getD e.on false = true) → Region.wanted o (yielded ops a'.tmps) = true ∧ o.wp P a' w (fun a'' w' => I a (l.setIfInBounds i true) a'' w') Q)
    (hend : ∀ l a' w, I a l a' w → (∀ i, i < ops.size → l.getD i false = true) → Q .normal a' w) : (Code.region id ops true).wp P Q a w :=
  wp_region_any hm (wpAny_invG (I a) hI (ordG_spec hB) hstep hend ops.size _ _ _ h0 (by
    unfold unl
    have := List.countP_le_length (p := fun b => !b) (l := (Array.replicate ops.size false).toList)
    simpa using this))
end
end Go.Proofs.YtimcdnbfdkpffaaGreat
/- Handles compared; structs loaded in a quiet region; a promise on kept blocks for a loop over a function. -/
namespace Go.Proofs.YtimcdnbfdkpffaaGreat
set_option maxRecDepth 100000
open Go.RowKit Go.Shelf
theorem eqH (a b c d : Int) (W : World) : (Op.equalIn 10000 95 (.agg #[.int .i64 a, .int .u64 b]) (.agg #[.int .i64 c, .int .u64 d])).run Tryz.prog W = .ok (a == c && b == d) W := by
  have hf : Tryz.prog.underlying 95 = some (.struct (Tryz.prog.fieldsOf 95)) := by kernel_rfl
  rw [run_equalIn_struct W 9999 95 _ _ hf (by kernel_rfl)]
  have hl : (Tryz.prog.fieldsOf 95).toList = [{ name := "I", type := 3, offset := 0, embedded := false, tag := "", pkgPath := "", byteOffset := 0 }, { name := "Serial", type := 39, offset := 1, embedded := false, tag := "", pkgPath := "", byteOffset := 8 }] := by kernel_rfl
  rw [hl]
  have e1 := run_equalIn_int (P := Tryz.prog) W 9998 3 .i64 .i64 a c Tryz.underlying3
  have e2 := run_equalIn_int (P := Tryz.prog) W 9998 39 .u64 .u64 b d Tryz.underlying39
  have p0 : ∀ (a b : Int), (part 3 #[.int .i64 a, .int .u64 b] 0).run Tryz.prog W = .ok (.int .i64 a) W := fun a b => by kernel_rfl
  have p1 : ∀ (a b : Int), (part 39 #[.int .i64 a, .int .u64 b] 1).run Tryz.prog W = .ok (.int .u64 b) W := fun a b => by kernel_rfl
  cases hv : (a == c) <;> cases hp : (b == d) <;> rw [hv] at e1 <;> rw [hp] at e2 <;> simp [Op.eqFields, Sem.run_bind, p0, p1, e1, e2, Result.andThen_ok, Sem.run_ite, Sem.run_pure]
theorem eqlH (a b c d : Int) (W : World) : (binOp .eql 95 (.agg #[.int .i64 a, .int .u64 b]) (.agg #[.int .i64 c, .int .u64 d])).run Tryz.prog W = .ok (.bool (a == c && b == d)) W := by
  have h : (Op.equalIn Op.maxDepth 95 (.agg #[.int .i64 a, .int .u64 b]) (.agg #[.int .i64 c, .int .u64 d])).run Tryz.prog W = _ := eqH a b c d W
  unfold binOp
  simp [Op.equal, h, Result.andThen_ok]
end Go.Proofs.YtimcdnbfdkpffaaGreat
/- Stage 9: same, over whatever arena. -/
namespace Go.Proofs.YtimcdnbfdkpffaaGreat
set_option maxRecDepth 100000
set_option pp.maxSteps 100000
open Go.RowKit Go.Shelf
attribute [local go_sem] Oper.semAt_some
/-- The live handle at an index, as it is told; whether there is one. -/
def Ar.is_ (s : Ar) (i : Int) : Bool := decide (0 ≤ i) && decide (s.at_ i.toNat ≠ 0)
def Ar.hat (s : Ar) (i : Int) : Array Value := if s.is_ i = true then #[.int .i64 i, .int .u64 (s.at_ i.toNat : Int)] else #[.int .i64 0, .int .u64 0]
end Go.Proofs.YtimcdnbfdkpffaaGreat
/- Stage 9: the landed arena in memory; Size, Len, At. -/
namespace Go.Proofs.YtimcdnbfdkpffaaGreat
set_option maxRecDepth 100000
open Go.RowKit
/-- The free cells, linked: from fd on those of a list. -/
def Lk (bf : Nat → Int) : Int → List Nat → Prop
  | fd, [] => fd = -1
  | fd, i :: t => fd = (i : Int) ∧ Lk bf (bf i) t
theorem Lk.same {bf bf' : Nat → Int} : ∀ {l : List Nat} {fd : Int}, Lk bf fd l → (∀ i, i ∈ l → bf' i = bf i) → Lk bf' fd l
  | [], _, h, _ => h
  | i :: t, _, h, hs => ⟨h.1, by
      rw [hs i (List.mem_cons_self ..)]
      exact Lk.same h.2 fun j hj => hs j (List.mem_cons_of_mem _ hj)⟩
/-- The landed arena's fields stand for s. -/
structure PRep (s : Ar) (fd : Int) (fs : Nat) (bf : Nat → Int) : Prop where
  link : Lk bf fd s.freed.reverse
  fresh : ∀ i, fs ≤ i → i < s.has.length → s.at_ i = 0 ∧ ¬ i ∈ s.freed
  used : ∀ i, i < fs → s.at_ i ≠ 0 ∨ i ∈ s.freed
  le : fs ≤ s.has.length
def pcell (ha : Nat → Nat) (bf : Nat → Int) (j : Nat) : Value := if j % 2 = 0 then .int .u64 (ha (j / 2) : Int) else .int .i64 (bf (j / 2))
theorem pcell_one (ha : Nat → Nat) (bf : Nat → Int) (j : Nat) : (pcell ha bf j).oneCell' = true := by unfold pcell; split <;> rfl
theorem pcell_0 (ha : Nat → Nat) (bf : Nat → Int) (j : Nat) : pcell ha bf (j * 2) = .int .u64 (ha j : Int) := by
  unfold pcell
  rw [if_pos (by omega), show j * 2 / 2 = j by omega]
theorem pcell_1 (ha : Nat → Nat) (bf : Nat → Int) (j : Nat) : pcell ha bf (j * 2 + 1) = .int .i64 (bf j) := by
  unfold pcell
  rw [if_neg (by omega), show (j * 2 + 1) / 2 = j by omega]
/-- The landed arena at a block, as fields. -/
structure PX (w : World) (p g n c : Nat) (fd : Int) (fs lv S : Nat) (ha : Nat → Nat) (bf : Nat → Int) (F : Nat → Prop) : Prop where
  blk : w.heap[p]? = some (.cells #[.slice (some ⟨g, 0, none⟩) n c, .int .i64 fd, .int .i64 (fs : Int), .int .i64 (lv : Int), .int .u64 (S : Int)] 189 (0, 0))
  row : OwnC w 0 207 2 (some ⟨g, 0, none⟩) n c (pcell ha bf)
  mp : F p
  mg : F g
  old : ∀ k, F k → k < w.heap.size
  pos : 0 < n
theorem PX.ne {w : World} {p g n c : Nat} {fd : Int} {fs lv S : Nat} {ha : Nat → Nat} {bf : Nat → Int} {F : Nat → Prop} (h : PX w p g n c fd fs lv S ha bf F) : p ≠ g := OwnC.ne h.row h.blk (by decide)
theorem PX.keep {w w' : World} {p g n c : Nat} {fd : Int} {fs lv S : Nat} {ha : Nat → Nat} {bf : Nat → Int} {F R : Nat → Prop} (h : PX w p g n c fd fs lv S ha bf F) (hk : Kept R w w') (hd : ∀ k, F k → ¬ R k) : PX w' p g n c fd fs lv S ha bf F :=
  ⟨(hk.block p (h.old p h.mp) (hd p h.mp)).trans h.blk, h.row.block (hk.block g (h.old g h.mg) (hd g h.mg)), h.mp, h.mg, fun k hF => Nat.lt_of_lt_of_le (h.old k hF) hk.size, h.pos⟩
theorem PX.step {w w' : World} {p g n c : Nat} {fd : Int} {fs lv S : Nat} {ha : Nat → Nat} {bf : Nat → Int} {F : Nat → Prop} (h : PX w p g n c fd fs lv S ha bf F) (hb : Below w.heap.size w w') : PX w' p g n c fd fs lv S ha bf F :=
  h.keep (Kept.of_below hb fun _ => False) fun _ _ q => q
theorem PX.cap {w : World} {p g n c : Nat} {fd : Int} {fs lv S : Nat} {ha : Nat → Nat} {bf : Nat → Int} {F : Nat → Prop} (h : PX w p g n c fd fs lv S ha bf F) : n ≤ c := h.row.cap
theorem PX.cap9 {w : World} {p g n c : Nat} {fd : Int} {fs lv S : Nat} {ha : Nat → Nat} {bf : Nat → Int} {F : Nat → Prop} (h : PX w p g n c fd fs lv S ha bf F) : c ≤ 9223372036854775807 := by
  have := h.row.cap_le
  unfold maxLen at this
  omega
theorem PX.c0 {w : World} {p g n c : Nat} {fd : Int} {fs lv S : Nat} {ha : Nat → Nat} {bf : Nat → Int} {F : Nat → Prop} (h : PX w p g n c fd fs lv S ha bf F) {j : Nat} (hj : j < n) : w.cell? ⟨g, j * 2, none⟩ = some (.int .u64 (ha j : Int)) := by
  obtain ⟨g', e, _, _, hc, _⟩ := h.row.lies h.pos
  injection e with e
  injection e with e
  subst e
  rw [← pcell_0 ha bf j]
  exact hc _ (by omega)
theorem PX.c1 {w : World} {p g n c : Nat} {fd : Int} {fs lv S : Nat} {ha : Nat → Nat} {bf : Nat → Int} {F : Nat → Prop} (h : PX w p g n c fd fs lv S ha bf F) {j : Nat} (hj : j < n) : w.cell? ⟨g, j * 2 + 1, none⟩ = some (.int .i64 (bf j)) := by
  obtain ⟨g', e, _, _, hc, _⟩ := h.row.lies h.pos
  injection e with e
  injection e with e
  subst e
  rw [← pcell_1 ha bf j]
  exact hc _ (by omega)
theorem PX.fz {w : World} {p g n c : Nat} {fd : Int} {fs lv S : Nat} {ha : Nat → Nat} {bf : Nat → Int} {F : Nat → Prop} (h : PX w p g n c fd fs lv S ha bf F) (k : Nat) : w.frozen? ⟨g, k, none⟩ = false := by
  obtain ⟨g', e, _, _, _, hf⟩ := h.row.lies h.pos
  injection e with e
  injection e with e
  subst e
  exact hf k
/-- .. as what it stands for. -/
def PA (w : World) (p : Nat) (s : Ar) (F : Nat → Prop) : Prop := ∃ g c fd fs bf, PX w p g s.has.length c fd fs s.count s.serial s.at_ bf F ∧ PRep s fd fs bf
theorem psize_c (w : World) (p : Nat) (A : Option Addr) (n c : Nat) (h : w.cell? ⟨p, 0, none⟩ = some (.slice A n c)) : Calls Tryz.prog 125 #[.pointer (some ⟨p, 0, none⟩)] w (ret (.int .i64 (n : Int)) w) := by
  go_enter Tryz.func125, Tryz.ntmps125
  go_wp2_with fail
  go_ret
  exact ⟨rfl, Below.refl _ _⟩
end Go.Proofs.YtimcdnbfdkpffaaGreat
