/- An IPv6 header's cells; the document's Same. -/
import Derived.Test.YtankpbehahopgaaRI6b
import Derived.Test.YtankpbehahopgaaArrEq
import Derived.Laws.BytesArg
import Derived.Deep.MidRow
namespace Go.Proofs.Ytankpbehahopgaa
open Go.RowKit
/-- A header's cells. -/
def ip6c (cls lab next proto hops : Int) (s d : Nat → Int) (o : Value) : Array Value := #[.int .u8 cls, .int .u32 lab, .int .u8 next, .int .u8 proto, .int .u8 hops, .int .u8 (s 0), .int .u8 (s 1), .int .u8 (s 2), .int .u8 (s 3), .int .u8 (s 4), .int .u8 (s 5), .int .u8 (s 6), .int .u8 (s 7), .int .u8 (s 8), .int .u8 (s 9), .int .u8 (s 10), .int .u8 (s 11), .int .u8 (s 12), .int .u8 (s 13), .int .u8 (s 14), .int .u8 (s 15), .int .u8 (d 0), .int .u8 (d 1), .int .u8 (d 2), .int .u8 (d 3), .int .u8 (d 4), .int .u8 (d 5), .int .u8 (d 6), .int .u8 (d 7), .int .u8 (d 8), .int .u8 (d 9), .int .u8 (d 10), .int .u8 (d 11), .int .u8 (d 12), .int .u8 (d 13), .int .u8 (d 14), .int .u8 (d 15), o]
theorem ip6_cells {w : World} {g : Nat} {cls lab next proto hops : Int} {s d : Nat → Int} {o : Value} {t : TypeId} (h : w.heap[g]? = some (.cells (ip6c cls lab next proto hops s d o) t (0, 0))) :
    w.cell? ⟨g, 0, none⟩ = some (.int .u8 cls) ∧ w.cell? ⟨g, 1, none⟩ = some (.int .u32 lab) ∧ w.cell? ⟨g, 2, none⟩ = some (.int .u8 next) ∧ w.cell? ⟨g, 3, none⟩ = some (.int .u8 proto) ∧ w.cell? ⟨g, 4, none⟩ = some (.int .u8 hops) ∧ w.cell? ⟨g, 5, none⟩ = some (.int .u8 (s 0)) ∧ w.cell? ⟨g, 6, none⟩ = some (.int .u8 (s 1)) ∧ w.cell? ⟨g, 7, none⟩ = some (.int .u8 (s 2)) ∧ w.cell? ⟨g, 8, none⟩ = some (.int .u8 (s 3)) ∧ w.cell? ⟨g, 9, none⟩ = some (.int .u8 (s 4)) ∧ w.cell? ⟨g, 10, none⟩ = some (.int .u8 (s 5)) ∧ w.cell? ⟨g, 11, none⟩ = some (.int .u8 (s 6)) ∧ w.cell? ⟨g, 12, none⟩ = some (.int .u8 (s 7)) ∧ w.cell? ⟨g, 13, none⟩ = some (.int .u8 (s 8)) ∧ w.cell? ⟨g, 14, none⟩ = some (.int .u8 (s 9)) ∧ w.cell? ⟨g, 15, none⟩ = some (.int .u8 (s 10)) ∧ w.cell? ⟨g, 16, none⟩ = some (.int .u8 (s 11)) ∧ w.cell? ⟨g, 17, none⟩ = some (.int .u8 (s 12)) ∧ w.cell? ⟨g, 18, none⟩ = some (.int .u8 (s 13)) ∧ w.cell? ⟨g, 19, none⟩ = some (.int .u8 (s 14)) ∧ w.cell? ⟨g, 20, none⟩ = some (.int .u8 (s 15)) ∧ w.cell? ⟨g, 21, none⟩ = some (.int .u8 (d 0)) ∧ w.cell? ⟨g, 22, none⟩ = some (.int .u8 (d 1)) ∧ w.cell? ⟨g, 23, none⟩ = some (.int .u8 (d 2)) ∧ w.cell? ⟨g, 24, none⟩ = some (.int .u8 (d 3)) ∧ w.cell? ⟨g, 25, none⟩ = some (.int .u8 (d 4)) ∧ w.cell? ⟨g, 26, none⟩ = some (.int .u8 (d 5)) ∧ w.cell? ⟨g, 27, none⟩ = some (.int .u8 (d 6)) ∧ w.cell? ⟨g, 28, none⟩ = some (.int .u8 (d 7)) ∧ w.cell? ⟨g, 29, none⟩ = some (.int .u8 (d 8)) ∧ w.cell? ⟨g, 30, none⟩ = some (.int .u8 (d 9)) ∧ w.cell? ⟨g, 31, none⟩ = some (.int .u8 (d 10)) ∧ w.cell? ⟨g, 32, none⟩ = some (.int .u8 (d 11)) ∧ w.cell? ⟨g, 33, none⟩ = some (.int .u8 (d 12)) ∧ w.cell? ⟨g, 34, none⟩ = some (.int .u8 (d 13)) ∧ w.cell? ⟨g, 35, none⟩ = some (.int .u8 (d 14)) ∧ w.cell? ⟨g, 36, none⟩ = some (.int .u8 (d 15)) ∧ w.cell? ⟨g, 37, none⟩ = some (o) :=
  ⟨blk_cell h 0, blk_cell h 1, blk_cell h 2, blk_cell h 3, blk_cell h 4, blk_cell h 5, blk_cell h 6, blk_cell h 7, blk_cell h 8, blk_cell h 9, blk_cell h 10, blk_cell h 11, blk_cell h 12, blk_cell h 13, blk_cell h 14, blk_cell h 15, blk_cell h 16, blk_cell h 17, blk_cell h 18, blk_cell h 19, blk_cell h 20, blk_cell h 21, blk_cell h 22, blk_cell h 23, blk_cell h 24, blk_cell h 25, blk_cell h 26, blk_cell h 27, blk_cell h 28, blk_cell h 29, blk_cell h 30, blk_cell h 31, blk_cell h 32, blk_cell h 33, blk_cell h 34, blk_cell h 35, blk_cell h 36, blk_cell h 37⟩
theorem ip6_src {cls lab next proto hops : Int} {s d : Nat → Int} {o : Value} (k : Nat) (hk : k < 16) : (ip6c cls lab next proto hops s d o)[5 + k]? = some (.int .u8 (s k)) := by
  match k, hk with
  | 0, _ => rfl
  | 1, _ => rfl
  | 2, _ => rfl
  | 3, _ => rfl
  | 4, _ => rfl
  | 5, _ => rfl
  | 6, _ => rfl
  | 7, _ => rfl
  | 8, _ => rfl
  | 9, _ => rfl
  | 10, _ => rfl
  | 11, _ => rfl
  | 12, _ => rfl
  | 13, _ => rfl
  | 14, _ => rfl
  | 15, _ => rfl
  | k + 16, h => exact absurd h (by omega)
theorem ip6_dst {cls lab next proto hops : Int} {s d : Nat → Int} {o : Value} (k : Nat) (hk : k < 16) : (ip6c cls lab next proto hops s d o)[21 + k]? = some (.int .u8 (d k)) := by
  match k, hk with
  | 0, _ => rfl
  | 1, _ => rfl
  | 2, _ => rfl
  | 3, _ => rfl
  | 4, _ => rfl
  | 5, _ => rfl
  | 6, _ => rfl
  | 7, _ => rfl
  | 8, _ => rfl
  | 9, _ => rfl
  | 10, _ => rfl
  | 11, _ => rfl
  | 12, _ => rfl
  | 13, _ => rfl
  | 14, _ => rfl
  | 15, _ => rfl
  | k + 16, h => exact absurd h (by omega)
theorem eq16_self (s : Nat → Int) (w : World) : (Op.equalIn 10000 23 (.agg (arr16 s)) (.agg (arr16 s))).run Try.prog w = .ok true w := by
  rw [equal16 23 5 Try.underlying23 Try.underlying5 (by kernel_rfl) s s w, eqs_self]
theorem arr16_range {w : World} {g i : Nat} {cs : Array Value} {t : TypeId} {f : Nat → Int} (h : w.heap[g]? = some (.cells cs t (0, 0))) (hf : ∀ k, k < 16 → cs[i + k]? = some (.int .u8 (f k))) : w.rangeAt g i (arr16 f).toList := fun j v hv => by
  have hj : j < 16 := (List.getElem?_eq_some_iff.1 hv).1
  rw [blk_cell h (i + j), hf j hj, ← hv, Array.getElem?_toList, arr16_get f j hj]
/-- Some cells in a row, loaded in a plain region, behind a guard or not. -/
theorem wpList_load_arr {P : Program} {ops : Array Oper} {rest : List Oper} {op : Oper} {a : Act} {w : World} {Q : Exit → Act → World → Prop} (hw : Region.wanted op (yielded ops a.tmps) = true) (ty : TypeId) (x : Operand) (ho : op.op = .load ty x)
    (b o : Nat) (hx : a.eval x = .pointer (some ⟨b, o, none⟩)) (cs : Array Value) (d : TypeDesc) (hc : w.rangeAt b o cs.toList) (hu : P.underlying ty = some d) (hd : d.isRow = true) (hi : (P.info? ty).map (·.size) = some cs.toList.length)
    (h : wpList P ops Q rest (a.put op.dst (.agg cs)) w) : wpList P ops Q (op :: rest) a w := by
  refine BigFrame.wpList_want hw fun K hK => wp_load_mid ty x ho b o hx cs.toList d hc hu hd hi ?_
  rw [Array.toArray_toList]
  exact hK _ _ h
set_option maxRecDepth 100000 in
set_option maxHeartbeats 4000000 in
theorem rsame_any (cls lab next proto hops : Int) (s d : Nat → Int) (O1 O2 : Option Addr) (on c1 c2 : Nat) (f : Nat → Int) (w : World) (h1 : Rd w w.heap.size O1 on f) (h2 : Rd w w.heap.size O2 on f) :
    Calls Try.prog 9 #[.agg (ip6c cls lab next proto hops s d (.slice O1 on c1)), .agg (ip6c cls lab next proto hops s d (.slice O2 on c2))] w fun e w' => e = .returned (.bool true) ∧ Below w.heap.size w w' := by
  have b1 : ((w.alloc (.cells (ip6c cls lab next proto hops s d (.slice O1 on c1)) 26)).alloc (.cells (ip6c cls lab next proto hops s d (.slice O2 on c2)) 26)).heap[w.heap.size]? = some (.cells (ip6c cls lab next proto hops s d (.slice O1 on c1)) 26 (0, 0)) := blk_old (heap_alloc_new w _) _
  have e1 : (w.alloc (.cells (ip6c cls lab next proto hops s d (.slice O1 on c1)) 26)).heap.size = w.heap.size + 1 := by simp
  have b2 : ((w.alloc (.cells (ip6c cls lab next proto hops s d (.slice O1 on c1)) 26)).alloc (.cells (ip6c cls lab next proto hops s d (.slice O2 on c2)) 26)).heap[w.heap.size + 1]? = some (.cells (ip6c cls lab next proto hops s d (.slice O2 on c2)) 26 (0, 0)) := by
    rw [← e1]
    exact heap_alloc_new _ _
  have hb := below_alloc2 w (.cells (ip6c cls lab next proto hops s d (.slice O1 on c1)) 26) (.cells (ip6c cls lab next proto hops s d (.slice O2 on c2)) 26)
  have HB := Lib.hid hb
  have hv1 := run_convert_rd (P := Try.prog) (h1.keep hb) 24 5 9 c1 Try.underlying24 Try.underlying5 Try.underlying9
  have hv2 := run_convert_rd (P := Try.prog) (h2.keep hb) 24 5 9 c2 Try.underlying24 Try.underlying5 Try.underlying9
  generalize strOfNums (nums on f) = S at *
  have a0 : ((w.alloc (.cells (ip6c cls lab next proto hops s d (.slice O1 on c1)) 26)).alloc (.cells (ip6c cls lab next proto hops s d (.slice O2 on c2)) 26)).cell? ⟨w.heap.size, 0, none⟩ = some (.int .u8 cls) := blk_cell b1 0
  have a1 : ((w.alloc (.cells (ip6c cls lab next proto hops s d (.slice O1 on c1)) 26)).alloc (.cells (ip6c cls lab next proto hops s d (.slice O2 on c2)) 26)).cell? ⟨w.heap.size, 1, none⟩ = some (.int .u32 lab) := blk_cell b1 1
  have a2 : ((w.alloc (.cells (ip6c cls lab next proto hops s d (.slice O1 on c1)) 26)).alloc (.cells (ip6c cls lab next proto hops s d (.slice O2 on c2)) 26)).cell? ⟨w.heap.size, 2, none⟩ = some (.int .u8 next) := blk_cell b1 2
  have a3 : ((w.alloc (.cells (ip6c cls lab next proto hops s d (.slice O1 on c1)) 26)).alloc (.cells (ip6c cls lab next proto hops s d (.slice O2 on c2)) 26)).cell? ⟨w.heap.size, 3, none⟩ = some (.int .u8 proto) := blk_cell b1 3
  have a4 : ((w.alloc (.cells (ip6c cls lab next proto hops s d (.slice O1 on c1)) 26)).alloc (.cells (ip6c cls lab next proto hops s d (.slice O2 on c2)) 26)).cell? ⟨w.heap.size, 4, none⟩ = some (.int .u8 hops) := blk_cell b1 4
  have a37 : ((w.alloc (.cells (ip6c cls lab next proto hops s d (.slice O1 on c1)) 26)).alloc (.cells (ip6c cls lab next proto hops s d (.slice O2 on c2)) 26)).cell? ⟨w.heap.size, 37, none⟩ = some (.slice O1 on c1) := blk_cell b1 37
  have k0 : ((w.alloc (.cells (ip6c cls lab next proto hops s d (.slice O1 on c1)) 26)).alloc (.cells (ip6c cls lab next proto hops s d (.slice O2 on c2)) 26)).cell? ⟨w.heap.size + 1, 0, none⟩ = some (.int .u8 cls) := blk_cell b2 0
  have k1 : ((w.alloc (.cells (ip6c cls lab next proto hops s d (.slice O1 on c1)) 26)).alloc (.cells (ip6c cls lab next proto hops s d (.slice O2 on c2)) 26)).cell? ⟨w.heap.size + 1, 1, none⟩ = some (.int .u32 lab) := blk_cell b2 1
  have k2 : ((w.alloc (.cells (ip6c cls lab next proto hops s d (.slice O1 on c1)) 26)).alloc (.cells (ip6c cls lab next proto hops s d (.slice O2 on c2)) 26)).cell? ⟨w.heap.size + 1, 2, none⟩ = some (.int .u8 next) := blk_cell b2 2
  have k3 : ((w.alloc (.cells (ip6c cls lab next proto hops s d (.slice O1 on c1)) 26)).alloc (.cells (ip6c cls lab next proto hops s d (.slice O2 on c2)) 26)).cell? ⟨w.heap.size + 1, 3, none⟩ = some (.int .u8 proto) := blk_cell b2 3
  have k4 : ((w.alloc (.cells (ip6c cls lab next proto hops s d (.slice O1 on c1)) 26)).alloc (.cells (ip6c cls lab next proto hops s d (.slice O2 on c2)) 26)).cell? ⟨w.heap.size + 1, 4, none⟩ = some (.int .u8 hops) := blk_cell b2 4
  have k37 : ((w.alloc (.cells (ip6c cls lab next proto hops s d (.slice O1 on c1)) 26)).alloc (.cells (ip6c cls lab next proto hops s d (.slice O2 on c2)) 26)).cell? ⟨w.heap.size + 1, 37, none⟩ = some (.slice O2 on c2) := blk_cell b2 37
  have RS1 := Lib.hid (arr16_range b1 (i := 5) ip6_src)
  have RD1 := Lib.hid (arr16_range b1 (i := 21) ip6_dst)
  have RS2 := Lib.hid (arr16_range b2 (i := 5) ip6_src)
  have RD2 := Lib.hid (arr16_range b2 (i := 21) ip6_dst)
  have heqs : ∀ w, (Op.equalIn 10000 23 (.agg (arr16 s)) (.agg (arr16 s))).run Try.prog w = .ok true w := eq16_self s
  have heqd : ∀ w, (Op.equalIn 10000 23 (.agg (arr16 d)) (.agg (arr16 d))).run Try.prog w = .ok true w := eq16_self d
  clear h1 h2 b1 b2 hb e1
  go_enter Try.func9, Try.ntmps9
  go_wp2_with (first
    | (refine wpList_load_arr rfl 23 (.tmp 39) rfl w.heap.size 5 rfl (arr16 s) _ RS1.out Try.underlying23 rfl (by kernel_rfl) ?_)
    | (refine wpList_load_arr rfl 23 (.tmp 41) rfl (w.heap.size + 1) 5 rfl (arr16 s) _ RS2.out Try.underlying23 rfl (by kernel_rfl) ?_)
    | (refine wpList_load_arr rfl 23 (.tmp 46) rfl w.heap.size 21 rfl (arr16 d) _ RD1.out Try.underlying23 rfl (by kernel_rfl) ?_)
    | (refine wpList_load_arr rfl 23 (.tmp 48) rfl (w.heap.size + 1) 21 rfl (arr16 d) _ RD2.out Try.underlying23 rfl (by kernel_rfl) ?_))
  go_ret
  exact ⟨rfl, HB.out⟩
end Go.Proofs.Ytankpbehahopgaa
