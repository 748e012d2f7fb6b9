/- The page's example of layer 2, and the document's Parse against the program's. -/
import Derived.Test.YtekjmjipgndccaaParse
import Derived.Test.YtekjmjipgndccaaText
import Derived.Test.YtekjmjipgndccaaRead
import Derived.Test.YtekjmjipgndccaaOurs
import Derived.Test.YtekjmjipgndccaaEq
namespace Go.Proofs.Ytekjmjipgndccaa
open Go.RowKit
instance (s : ByteArray) (k : Nat) : Decidable (pOk s k) := by unfold pOk; infer_instance
def good17 : ByteArray := ⟨#[48, 50, 58, 48, 48, 58, 48, 48, 58, 48, 48, 58, 48, 48, 58, 97, 98]⟩
def bad17 : ByteArray := ⟨#[48, 50, 58, 48, 48, 58, 48, 48, 58, 48, 48, 58, 48, 48, 58, 65, 66]⟩
def d171 (k : Nat) : Int := if k = 0 then 2 else if k = 5 then 171 else 0
theorem good17_ok : ∀ i, i < 6 → pOk good17 i := of_decide_eq_true (by kernel_rfl)
theorem bad17_ok : (∀ i, i < 5 → pOk bad17 i) ∧ ¬ pOk bad17 5 := of_decide_eq_true (by kernel_rfl)
theorem parse_good17 (w : World) : Calls Try.prog 13 #[.string ⟨#[48, 50, 58, 48, 48, 58, 48, 48, 58, 48, 48, 58, 48, 48, 58, 97, 98]⟩] w fun e w' => e = .returned (.tuple #[.agg #[.int .u8 2, .int .u8 0, .int .u8 0, .int .u8 0, .int .u8 0, .int .u8 171], .int .i64 0]) ∧ Below w.heap.size w w' :=
  (parse_any good17 rfl 6 (Nat.le_refl _) good17_ok (fun h => absurd h (by omega)) w).mono fun _ _ h => h
theorem parse_bad17 (w : World) : Calls Try.prog 13 #[.string ⟨#[48, 50, 58, 48, 48, 58, 48, 48, 58, 48, 48, 58, 48, 48, 58, 65, 66]⟩] w fun e w' => e = .returned (.tuple #[.agg #[.int .u8 0, .int .u8 0, .int .u8 0, .int .u8 0, .int .u8 0, .int .u8 0], .int .i64 5]) ∧ Below w.heap.size w w' :=
  (parse_any bad17 rfl 5 (by omega) bad17_ok.1 (fun _ => bad17_ok.2) w).mono fun _ _ h => h
theorem d171_byt : Byt d171 := fun k => by unfold d171; split <;> (try split) <;> omega
theorem text_171 (w : World) : Calls Try.prog 15 #[.agg #[.int .u8 2, .int .u8 0, .int .u8 0, .int .u8 0, .int .u8 0, .int .u8 171]] w fun e w' => e = .returned (.string ⟨#[48, 50, 58, 48, 48, 58, 48, 48, 58, 48, 48, 58, 48, 48, 58, 97, 98]⟩) ∧ Below w.heap.size w w' := by
  have e := text_any d171 d171_byt w
  rw [← rtx_tb d171 d171_byt] at e
  exact e
theorem read_13 (A : Option Addr) (w : World) : Calls Try.prog 7 #[.slice A 13 13] w fun e w' => e = .returned (.tuple #[.agg #[.int .u8 0, .int .u8 0, .int .u8 0, .int .u8 0, .int .u8 0, .int .u8 0, .int .u8 0, .int .u8 0, .int .u8 0, .int .u8 0, .int .u8 0, .int .u8 0, .int .u16 0], .slice none 0 0, .int .i64 4]) ∧ Below w.heap.size w w' := read_short A 13 13 (by omega) w
theorem ours_2048 (w : World) : Calls Try.prog 11 #[.int .u16 2048] w fun e w' => e = .returned (.bool true) ∧ w = w' := ours_any 2048 w
set_option maxRecDepth 100000 in
set_option maxHeartbeats 1000000 in
theorem known_any (w : World) : Calls Try.prog 6 #[] w fun e w' => e = .returned (.bool true) ∧ Below w.heap.size w w' := by
  obtain ⟨i0, hi0, hz0, hz1, hz2⟩ := info_parts Try.info5
  have hmk : ∀ W : World, (Instr.makeSlice 26 (.int .i64 13) (.int .i64 13)).run Try.prog W = .ok (.slice (some ⟨W.heap.size, 0, none⟩) 13 13) (W.alloc (.cells (madeCells (Value.int .u8 0).cells 13) 5)) := fun W => run_make_bytes W 26 5 i0 Try.underlying26 hi0 hz0 hz1 hz2 13 (by omega)
  clear hi0 hz0 hz1 hz2
  go_enter Try.func6, Try.ntmps6
  go_wp2_with fail
  go_at_call 13
  refine (parse_good17 _).mono ?_
  rintro e w1 ⟨rfl, hb1⟩
  have HA1 : Hid ((w1.alloc (.cells #[Value.int IntKind.u8 2, Value.int IntKind.u8 0, Value.int IntKind.u8 0, Value.int IntKind.u8 0, Value.int IntKind.u8 0, Value.int IntKind.u8 171] 22)).heap[w1.heap.size]? = some (.cells (arr6 d171) 22 (0, 0))) := heap_alloc_new w1 _
  have HB1 : Hid (Below w.heap.size w (w1.alloc (.cells #[Value.int IntKind.u8 2, Value.int IntKind.u8 0, Value.int IntKind.u8 0, Value.int IntKind.u8 0, Value.int IntKind.u8 0, Value.int IntKind.u8 171] 22))) := hb1.alloc hb1.size _
  clear hb1
  go_wp2_with fail
  go_at_call 13
  refine (parse_bad17 _).mono ?_
  rintro e w2 ⟨rfl, hb2⟩
  have HA2 : Hid (w2.heap[w1.heap.size]? = some (.cells (arr6 d171) 22 (0, 0))) := (hb2.block _ (lt_heap HA1.out)).trans HA1.out
  have HB2 : Hid (Below w.heap.size w w2) := HB1.out.trans (hb2.mono HB1.out.size)
  clear hb2 HA1 HB1
  go_wp2_with fail
  go_at_call 7
  refine (read_13 _ _).mono ?_
  rintro e w3 ⟨rfl, hb3⟩
  have HA3 : Hid (w3.heap[w1.heap.size]? = some (.cells (arr6 d171) 22 (0, 0))) := by
    have q := blk_old (blk_old HA2.out (.cells #[Value.int IntKind.u8 0, Value.int IntKind.u8 0, Value.int IntKind.u8 0, Value.int IntKind.u8 0, Value.int IntKind.u8 0, Value.int IntKind.u8 0] 22)) (.cells (madeCells #[Value.int IntKind.u8 0] 13) 5)
    exact (hb3.block _ (lt_heap q)).trans q
  have HB3 : Hid (Below w.heap.size w w3) := by
    have q := (HB2.out.alloc HB2.out.size (.cells #[Value.int IntKind.u8 0, Value.int IntKind.u8 0, Value.int IntKind.u8 0, Value.int IntKind.u8 0, Value.int IntKind.u8 0, Value.int IntKind.u8 0] 22)).alloc (Nat.le_trans HB2.out.size (alloc_le _ _)) (.cells (madeCells #[Value.int IntKind.u8 0] 13) 5)
    exact q.trans (hb3.mono q.size)
  clear hb3 HA2 HB2 hmk
  obtain ⟨a0, a1, a2, a3, a4, a5⟩ := arr6_cells (blk_old HA3.out (.cells #[.int .u8 0, .int .u8 0, .int .u8 0, .int .u8 0, .int .u8 0, .int .u8 0, .int .u8 0, .int .u8 0, .int .u8 0, .int .u8 0, .int .u8 0, .int .u8 0, .int .u16 0] 25))
  have h171 : arr6 d171 = #[.int .u8 2, .int .u8 0, .int .u8 0, .int .u8 0, .int .u8 0, .int .u8 171] := rfl
  have heq : ∀ w, (Op.equalIn 10000 22 (.agg #[.int .u8 2, .int .u8 0, .int .u8 0, .int .u8 0, .int .u8 0, .int .u8 171]) (.agg #[.int .u8 2, .int .u8 0, .int .u8 0, .int .u8 0, .int .u8 0, .int .u8 171])).run Try.prog w = .ok true w := fun w => equal6 9998 d171 d171 w
  have v0 : d171 0 = 2 := rfl
  have v1 : d171 1 = 0 := rfl
  have v2 : d171 2 = 0 := rfl
  have v3 : d171 3 = 0 := rfl
  have v4 : d171 4 = 0 := rfl
  have v5 : d171 5 = 171 := rfl
  rw [v0] at a0
  rw [v1] at a1
  rw [v2] at a2
  rw [v3] at a3
  rw [v4] at a4
  rw [v5] at a5
  clear v0 v1 v2 v3 v4 v5 h171
  go_wp2_with fail
  have HB4 := Lib.hid (HB3.out.alloc HB3.out.size (.cells #[.int .u8 0, .int .u8 0, .int .u8 0, .int .u8 0, .int .u8 0, .int .u8 0, .int .u8 0, .int .u8 0, .int .u8 0, .int .u8 0, .int .u8 0, .int .u8 0, .int .u16 0] 25))
  go_at_call 15
  refine (text_171 _).mono ?_
  rintro e w4 ⟨rfl, hb4⟩
  have HB5 := Lib.hid (HB4.out.trans (hb4.mono HB4.out.size))
  clear hb4 HB4 HB3 HA3 a0 a1 a2 a3 a4 a5 heq
  go_wp2_with fail
  go_at_call 11
  refine (ours_2048 _).mono ?_
  rintro e w5 ⟨rfl, rfl⟩
  go_wp2_with fail
  go_ret
  exact ⟨rfl, HB5.out⟩
end Go.Proofs.Ytekjmjipgndccaa
