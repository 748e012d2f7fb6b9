/- EtherTexts: the walk. -/
import Derived.Test.YtekjmjipgndccaaBoth
namespace Go.Proofs.Ytekjmjipgndccaa
open Go.RowKit
/-- A whole array, loaded in a region that keeps it. -/
theorem wpQuiet_load_row {P : Program} {ops : Array Oper} {C : World → Prop} {Q : Act → Prop} {a : Act} {o : Oper} {rest : List Oper} (hw : Region.wanted o (yielded ops a.tmps) = true) (ty : TypeId) (x : Operand) (ho : o.op = .load ty x)
    (g : Nat) (hx : a.eval x = .pointer (some ⟨g, 0, none⟩)) (t : TypeId) (cs : Array Value) (fr : Nat × Nat) (d : TypeDesc) (hg : ∀ w, C w → w.heap[g]? = some (.cells cs t fr))
    (hu : P.underlying ty = some d) (hd : (match d with | .struct _ | .array _ _ => true | _ => false) = true) (hi : (P.info? ty).map (·.size) = some cs.size)
    (h : wpQuiet P ops C Q rest (a.put o.dst (.agg cs))) : wpQuiet P ops C Q (o :: rest) a := by
  refine BigFrame.wpQuiet_want hw fun K hK => ⟨.agg cs, fun w hC => ?_, hK _ h⟩
  unfold Oper.quietAt execOp
  simp only [ho, hx, Instr.loadAt, Instr.sureAddr, Sem.run_bind, Sem.run_pure, Result.andThen_ok, run_loadVar_row w g t ty cs fr d (hg w hC) hu hd hi]
  exact ⟨rfl, rfl⟩
theorem stay_blk {w : World} {g : Nat} {o : Obj} (h : w.heap[g]? = some o) : ∀ x, (∃ W : Stay w, x = W.w) → x.heap[g]? = some o := by
  rintro x ⟨W, rfl⟩
  exact (W.below.block _ (lt_heap h)).trans h
set_option maxHeartbeats 400000 in
theorem texts_long (d : Nat → Int) (s : ByteArray) (hs : 100 < s.size) (hs' : s.size ≤ 9223372036854775807) (w : World) : Calls Try.prog 4 #[.agg (arr6 d), .string s] w fun e w' => e = .returned (.bool true) ∧ Below w.heap.size w w' := by
  go_enter Try.func4, Try.ntmps4
  go_wp2_with (go_at_call 6; refine (known_any _).mono ?_; rintro e w1 ⟨rfl, hb1⟩)
  go_ret
  exact ⟨rfl, ((Below.refl _ _).alloc (Nat.le_refl _) _).trans (hb1.mono (by simp))⟩
set_option maxRecDepth 100000 in
set_option maxHeartbeats 1000000 in
theorem texts_short (d : Nat → Int) (hd : Byt d) (s : ByteArray) (hs : s.size ≤ 100) (w : World) : Calls Try.prog 4 #[.agg (arr6 d), .string s] w fun e w' => e = .returned (.bool true) ∧ Below w.heap.size w w' := by
  obtain ⟨V, x, hV, hx, _, p13, p14⟩ := parse_both s (by omega)
  have H13 : Hid (∀ w, Calls Try.prog 13 #[.string s] w fun e w' => e = .returned (.tuple #[.agg #[.int .u8 (V 0), .int .u8 (V 1), .int .u8 (V 2), .int .u8 (V 3), .int .u8 (V 4), .int .u8 (V 5)], .int .i64 x]) ∧ Below w.heap.size w w') := p13
  have H14 : Hid (∀ w, Calls Try.prog 14 #[.string s] w fun e w' => e = .returned (.tuple #[.agg #[.int .u8 (V 0), .int .u8 (V 1), .int .u8 (V 2), .int .u8 (V 3), .int .u8 (V 4), .int .u8 (V 5)], .int .i64 x]) ∧ Below w.heap.size w w') := p14
  have H15 : Hid (∀ w, Calls Try.prog 15 #[.agg (arr6 d)] w fun e w' => e = .returned (.string (rtx d 6)) ∧ Below w.heap.size w w') := fun w => text_any d hd w
  have H16 : Hid (∀ w, Calls Try.prog 16 #[.agg (arr6 d)] w fun e w' => e = .returned (.string (rtx d 6)) ∧ Below w.heap.size w w') := fun w => rtext_any d hd w
  have heq : ∀ w, (Op.equalIn 10000 22 (.agg (arr6 V)) (.agg (arr6 V))).run Try.prog w = .ok true w := fun w => by
    have e := equal6 9998 V V w
    rw [same6_self] at e
    exact e
  generalize rtx d 6 = R at *
  clear p13 p14
  go_enter Try.func4, Try.ntmps4
  go_wp2_with fail
  go_at_call 13
  refine (H13.out _).mono ?_
  rintro e w1 ⟨rfl, hb1⟩
  have HD1 : Hid (w1.heap[w.heap.size]? = some (.cells (arr6 d) 22 (0, 0))) := (hb1.block _ (lt_heap (heap_alloc_new w _))).trans (heap_alloc_new w _)
  have HB1 : Hid (Below w.heap.size w w1) := (below_alloc w _).trans (hb1.mono (alloc_le w _))
  clear hb1
  go_wp2_with fail
  go_at_call 14
  refine (H14.out _).mono ?_
  rintro e w2 ⟨rfl, hb2⟩
  have HD2 : Hid (w2.heap[w.heap.size]? = some (.cells (arr6 d) 22 (0, 0))) := (hb2.block _ (lt_heap (blk_old HD1.out _))).trans (blk_old HD1.out _)
  have HV2 : Hid (w2.heap[w1.heap.size]? = some (.cells (arr6 V) 22 (0, 0))) := (hb2.block _ (lt_heap (heap_alloc_new w1 _))).trans (heap_alloc_new w1 _)
  have HB2 : Hid (Below w.heap.size w w2) := (HB1.out.alloc HB1.out.size _).trans (hb2.mono (HB1.out.alloc HB1.out.size _).size)
  clear hb2 HD1 HB1
  go_wp2_with fail
  have b0 : (w2.alloc (.cells #[.int .u8 (V 0), .int .u8 (V 1), .int .u8 (V 2), .int .u8 (V 3), .int .u8 (V 4), .int .u8 (V 5)] 22)).heap[w.heap.size]? = some (.cells (arr6 d) 22 (0, 0)) := blk_old HD2.out _
  have b1 : (w2.alloc (.cells #[.int .u8 (V 0), .int .u8 (V 1), .int .u8 (V 2), .int .u8 (V 3), .int .u8 (V 4), .int .u8 (V 5)] 22)).heap[w1.heap.size]? = some (.cells (arr6 V) 22 (0, 0)) := blk_old HV2.out _
  have b2 : (w2.alloc (.cells #[.int .u8 (V 0), .int .u8 (V 1), .int .u8 (V 2), .int .u8 (V 3), .int .u8 (V 4), .int .u8 (V 5)] 22)).heap[w2.heap.size]? = some (.cells (arr6 V) 22 (0, 0)) := heap_alloc_new w2 _
  have HB3 : Hid (Below w.heap.size w (w2.alloc (.cells #[.int .u8 (V 0), .int .u8 (V 1), .int .u8 (V 2), .int .u8 (V 3), .int .u8 (V 4), .int .u8 (V 5)] 22))) := HB2.out.alloc HB2.out.size _
  generalize w2.alloc (.cells #[.int .u8 (V 0), .int .u8 (V 1), .int .u8 (V 2), .int .u8 (V 3), .int .u8 (V 4), .int .u8 (V 5)] 22) = w3 at *
  have HC0 := Lib.hid (stay_blk b0)
  have HC1 := Lib.hid (stay_blk b1)
  have HC2 := Lib.hid (stay_blk b2)
  clear b0 b1 b2 HB2 HD2 HV2 H13 H14
  refine wp_region_stay (by kernel_rfl) (by kernel_rfl) ?_
  repeat (first
    | (refine wpQuiet_load_row rfl 22 (.tmp 2) rfl _ rfl 22 (arr6 d) (0, 0) _ HC0.out Try.underlying22 rfl (by kernel_rfl) ?_
       simp only [Act.put, List.setIfInBounds_toArray, List.set_cons_zero, List.set_cons_succ])
    | (refine wpQuiet_load_row rfl 22 (.tmp 5) rfl _ rfl 22 (arr6 V) (0, 0) _ HC1.out Try.underlying22 rfl (by kernel_rfl) ?_
       simp only [Act.put, List.setIfInBounds_toArray, List.set_cons_zero, List.set_cons_succ])
    | (refine wpQuiet_load_row rfl 22 (.tmp 7) rfl _ rfl 22 (arr6 V) (0, 0) _ HC2.out Try.underlying22 rfl (by kernel_rfl) ?_
       simp only [Act.put, List.setIfInBounds_toArray, List.set_cons_zero, List.set_cons_succ])
    | go_big_quiet_step (first
      | (go_at_call 15; with_reducible exact Calls.stay _ (H15.out _))
      | (go_at_call 16; with_reducible exact Calls.stay _ (H16.out _))
      | (go_at_call 6; with_reducible exact Calls.stay _ (known_any _))))
  refine wpQuiet_nil ?_
  intro w' hw'
  obtain ⟨W, rfl⟩ := hw'
  have hb2 := W.below
  go_wp2_with fail
  go_ret
  exact ⟨rfl, HB3.out.trans (hb2.mono HB3.out.size)⟩
theorem texts_any (d : Nat → Int) (hd : Byt d) (s : ByteArray) (hs : s.size ≤ 9223372036854775807) (w : World) : Calls Try.prog 4 #[.agg (arr6 d), .string s] w fun e w' => e = .returned (.bool true) ∧ Below w.heap.size w w' := by
  by_cases h : s.size ≤ 100
  · exact texts_short d hd s h w
  · exact texts_long d s (by omega) hs w
end Go.Proofs.Ytekjmjipgndccaa
