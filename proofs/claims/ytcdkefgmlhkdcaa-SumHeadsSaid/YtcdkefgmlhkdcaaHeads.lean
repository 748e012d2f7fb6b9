/- SumHeads: the walk. -/
import Derived.Test.YtcdkefgmlhkdcaaRPseudo
import Derived.Test.YtcdkefgmlhkdcaaUpd
namespace Go.Proofs.Ytcdkefgmlhkdcaa
open Go.RowKit
/-- A whole array, loaded in a region that keeps it. -/
theorem wpQuiet_load_row {P : Program} {ops : Array Oper} {C : World → Prop} {Q : Act → Prop} {a : Act} {o : Oper} {rest : List Oper} (hw : Region.wanted o (yielded ops a.tmps) = true) (ty : TypeId) (x : Operand) (ho : o.op = .load ty x)
    (g : Nat) (hx : a.eval x = .pointer (some ⟨g, 0, none⟩)) (t : TypeId) (cs : Array Value) (fr : Nat × Nat) (d : TypeDesc) (hg : ∀ w, C w → w.heap[g]? = some (.cells cs t fr))
    (hu : P.underlying ty = some d) (hd : (match d with | .struct _ | .array _ _ => true | _ => false) = true) (hi : (P.info? ty).map (·.size) = some cs.size)
    (h : wpQuiet P ops C Q rest (a.put o.dst (.agg cs))) : wpQuiet P ops C Q (o :: rest) a := by
  refine BigFrame.wpQuiet_want hw fun K hK => ⟨.agg cs, fun w hC => ?_, hK _ h⟩
  unfold Oper.quietAt execOp
  simp only [ho, hx, Instr.loadAt, Instr.sureAddr, Sem.run_bind, Sem.run_pure, Result.andThen_ok, run_loadVar_row w g t ty cs fr d (hg w hC) hu hd hi]
  exact ⟨rfl, rfl⟩
/-- The length that goes into the sum. -/
def plen (len : Int) : Int := if len < 0 then 0 else len % 4294967296
theorem pseudo_any (v6 : Bool) (f g : Nat → Int) (hf : Byt f) (hg : Byt g) (pr len : Int) (h1 : 0 ≤ pr) (h2 : pr ≤ 255) (h3 : -9223372036854775808 ≤ len) (h4 : len ≤ 9223372036854775807) (w : World) :
    Calls Try.prog 14 #[.bool v6, .agg (arr16 f), .agg (arr16 g), .int .u8 pr, .int .i64 len] w fun e w' => e = .returned (.agg #[.int .u16 (psum v6 f g pr (plen len)).1, .bool (psum v6 f g pr (plen len)).2]) ∧ Below w.heap.size w w' := by
  unfold plen
  by_cases hl : len < 0
  · rw [if_pos hl]
    cases v6
    · exact pseudo4_neg f g hf hg pr len h1 h2 hl h3 w
    · exact pseudo6_neg f g hf hg pr len h1 h2 hl h3 w
  · rw [if_neg hl]
    cases v6
    · exact pseudo4 f g hf hg pr len h1 h2 (by omega) h4 w
    · exact pseudo6 f g hf hg pr len h1 h2 (by omega) h4 w
theorem rpseudo_any (v6 : Bool) (f g : Nat → Int) (hf : Byt f) (hg : Byt g) (pr len : Int) (h1 : 0 ≤ pr) (h2 : pr ≤ 255) (h3 : -9223372036854775808 ≤ len) (h4 : len ≤ 9223372036854775807) (w : World) :
    Calls Try.prog 15 #[.bool v6, .agg (arr16 f), .agg (arr16 g), .int .u8 pr, .int .i64 len] w fun e w' => e = .returned (.agg #[.int .u16 (psum v6 f g pr (plen len)).1, .bool (psum v6 f g pr (plen len)).2]) ∧ Below w.heap.size w w' := by
  unfold plen
  by_cases hl : len < 0
  · rw [if_pos hl]
    cases v6
    · exact rpseudo4_neg f g hf hg pr len h1 h2 hl h3 w
    · exact rpseudo6_neg f g hf hg pr len h1 h2 hl h3 w
  · rw [if_neg hl]
    cases v6
    · exact rpseudo4 f g hf hg pr len h1 h2 (by omega) h4 w
    · exact rpseudo6 f g hf hg pr len h1 h2 (by omega) h4 w

theorem still_below {P : Program} {fn : FuncId} {args : Array Value} {w : World} {v : Ending} (h : Calls P fn args w fun e w' => e = v ∧ w = w') : Calls P fn args w fun e w' => e = v ∧ Below w.heap.size w w' :=
  h.mono fun _ _ ⟨a, b⟩ => ⟨a, by subst b; exact Below.refl _ _⟩

set_option maxHeartbeats 400000 in
theorem heads_any (v6 : Bool) (f g : Nat → Int) (hf : Byt f) (hg : Byt g) (pr len s fr to : Int) (h1 : 0 ≤ pr) (h2 : pr ≤ 255) (h3 : -9223372036854775808 ≤ len) (h4 : len ≤ 9223372036854775807)
    (hs : 0 ≤ s ∧ s ≤ 65535) (hfr : 0 ≤ fr ∧ fr ≤ 65535) (hto : 0 ≤ to ∧ to ≤ 65535) (w : World) :
    Calls Try.prog 4 #[.bool v6, .agg (arr16 f), .agg (arr16 g), .int .u8 pr, .int .i64 len, .int .u16 s, .int .u16 fr, .int .u16 to] w fun e w' => e = .returned (.bool true) ∧ Below w.heap.size w w' := by
  have H14 := Lib.hid (pseudo_any v6 f g hf hg pr len h1 h2 h3 h4)
  have H15 := Lib.hid (rpseudo_any v6 f g hf hg pr len h1 h2 h3 h4)
  have H16 := Lib.hid fun W => still_below (update_any s fr to W hs hfr hto)
  have H17 := Lib.hid fun W => still_below (rupdate_any s fr to W hs hfr hto)
  generalize psum v6 f g pr (plen len) = r at *
  generalize upv s fr to = u at *
  clear hs hfr hto hf hg
  go_enter Try.func4, Try.ntmps4
  go_wp2
  have hb1 : Below w.heap.size w ((w.alloc (Obj.cells (arr16 f) 31)).alloc (Obj.cells (arr16 g) 31)) := below_alloc2 w _ _
  have e1 : (w.alloc (Obj.cells (arr16 f) 31)).heap.size = w.heap.size + 1 := by simp
  have b0 : ((w.alloc (Obj.cells (arr16 f) 31)).alloc (Obj.cells (arr16 g) 31)).heap[w.heap.size]? = some (.cells (arr16 f) 31 (0, 0)) := heap_old _ _ (heap_alloc_new w _)
  have b1 : ((w.alloc (Obj.cells (arr16 f) 31)).alloc (Obj.cells (arr16 g) 31)).heap[w.heap.size + 1]? = some (.cells (arr16 g) 31 (0, 0)) := by rw [← e1]; exact heap_alloc_new _ _
  generalize (w.alloc (Obj.cells (arr16 f) 31)).alloc (Obj.cells (arr16 g) 31) = w2 at *
  clear e1
  have HC0 : Hid (∀ x, (∃ W : Stay w2, x = W.w) → x.heap[w.heap.size]? = some (.cells (arr16 f) 31 (0, 0))) := by
    rintro x ⟨W, rfl⟩
    exact (W.below.block _ (lt_of_heap b0)).trans b0
  have HC1 : Hid (∀ x, (∃ W : Stay w2, x = W.w) → x.heap[w.heap.size + 1]? = some (.cells (arr16 g) 31 (0, 0))) := by
    rintro x ⟨W, rfl⟩
    exact (W.below.block _ (lt_of_heap b1)).trans b1
  clear b0 b1
  refine wp_region_stay (by kernel_rfl) (by kernel_rfl) ?_
  repeat (first
    | (refine wpQuiet_load_row rfl 31 (.tmp 9) rfl _ rfl 31 (arr16 f) (0, 0) _ HC0.out Try.underlying31 rfl (by kernel_rfl) ?_
       simp only [Act.put, List.setIfInBounds_toArray, List.set_cons_zero, List.set_cons_succ])
    | (refine wpQuiet_load_row rfl 31 (.tmp 10) rfl _ rfl 31 (arr16 g) (0, 0) _ HC1.out Try.underlying31 rfl (by kernel_rfl) ?_
       simp only [Act.put, List.setIfInBounds_toArray, List.set_cons_zero, List.set_cons_succ])
    | go_big_quiet_step (first
    | (go_at_call 14; with_reducible exact Calls.stay _ (H14.out _))
    | (go_at_call 15; with_reducible exact Calls.stay _ (H15.out _))
    | (go_at_call 16; with_reducible exact Calls.stay _ (H16.out _))
    | (go_at_call 17; with_reducible exact Calls.stay _ (H17.out _))
    | (go_at_call 7; with_reducible exact Calls.stay _ (known_any _))))
  refine wpQuiet_nil ?_
  intro w' hw'
  obtain ⟨W, rfl⟩ := hw'
  have hb2 := W.below
  go_wp2_with fail
  go_ret
  exact ⟨rfl, below_then hb1 hb2⟩
end Go.Proofs.Ytcdkefgmlhkdcaa
