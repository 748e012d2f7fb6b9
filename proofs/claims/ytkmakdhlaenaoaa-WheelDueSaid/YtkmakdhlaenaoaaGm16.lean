import Derived.Test.YtkmakdhlaenaoaaGm15
/- Stage 9: the landed At, Live. -/
namespace Go.Proofs.Ytkmakdhlaenaoaa
set_option maxRecDepth 100000
open Go.RowKit
theorem patG_neg (w : World) (pa : Option Addr) (i : Int) (hi : i < 0) : Calls Try.prog 54 #[.pointer pa, .int .i64 i] w (ret (.tuple #[.agg #[.int .i64 0, .int .u64 0], .bool false]) w) := by
  have HZ : Hid ((w.alloc (.cells #[.int .i64 0, .int .u64 0] 46)).heap[w.heap.size]? = some (.cells #[.int .i64 0, .int .u64 0] 46 (0, 0))) := Lib.hid (heap_alloc_new w _)
  have HB : Hid (Below w.heap.size w (w.alloc (.cells #[.int .i64 0, .int .u64 0] 46))) := Lib.hid (below_alloc w _)
  go_enter Try.func54, Try.ntmps54
  go_upto_region 1 with fail
  change Code.wp _ _ _ _ (w.alloc (.cells #[.int .i64 0, .int .u64 0] 46))
  go_upto_region 2 with fail
  generalize w.alloc (.cells #[.int .i64 0, .int .u64 0] 46) = u at *
  go_wp2_with (first
    | (refine wpList_store_row rfl 46 (.tmp 4) (.tmp 25) rfl w.heap.size #[.int .i64 0, .int .u64 0] rfl rfl 46 #[.int .i64 0, .int .u64 0] HZ.out (by kernel_rfl) rfl (by simp [Value.oneCell']) ?_))
  refine bodyPost_ret (v := .tuple #[.agg #[.int .i64 0, .int .u64 0], .bool false]) (results_rowa Try.results54 _ _ w.heap.size 46 #[.int .i64 0, .int .u64 0] (0, 0) _ rfl (setRow_heap _ w.heap.size _ #[.int .i64 0, .int .u64 0] _ _ HZ.out) Try.underlying46 rfl (by kernel_rfl)) rfl ?_
  exact ⟨rfl, below_setRow HB.out (Nat.le_refl _) _⟩
theorem patG_out (w : World) (pa : Option Addr) (n : Nat) (hs : ∀ W, Below w.heap.size w W → Calls Try.prog 44 #[.pointer pa] W (ret (.int .i64 (n : Int)) W)) (i : Int) (h0 : 0 ≤ i) (hi : (n : Int) ≤ i) : Calls Try.prog 54 #[.pointer pa, .int .i64 i] w (ret (.tuple #[.agg #[.int .i64 0, .int .u64 0], .bool false]) w) := by
  have hi0 : ¬ i < 0 := by omega
  have HS := Lib.hid hs
  clear hs
  have HZ : Hid ((w.alloc (.cells #[.int .i64 0, .int .u64 0] 46)).heap[w.heap.size]? = some (.cells #[.int .i64 0, .int .u64 0] 46 (0, 0))) := Lib.hid (heap_alloc_new w _)
  have HB : Hid (Below w.heap.size w (w.alloc (.cells #[.int .i64 0, .int .u64 0] 46))) := Lib.hid (below_alloc w _)
  go_enter Try.func54, Try.ntmps54
  go_upto_region 1 with fail
  change Code.wp _ _ _ _ (w.alloc (.cells #[.int .i64 0, .int .u64 0] 46))
  go_upto_region 2 with (first
    | (go_at_call 44
       refine (HS.out _ HB.out).mono ?_
       rintro e u ⟨rfl, hb⟩
       have HBu := Lib.hid (HB.out.trans (hb.mono HB.out.size))
       have HZu : Hid (u.heap[w.heap.size]? = some (.cells #[.int .i64 0, .int .u64 0] 46 (0, 0))) := Lib.hid ((hb.block _ (lt_heap HZ.out)).trans HZ.out)
       clear hb))
  go_wp2_with (first
    | (refine wpList_store_row rfl 46 (.tmp 4) (.tmp 25) rfl w.heap.size #[.int .i64 0, .int .u64 0] rfl rfl 46 #[.int .i64 0, .int .u64 0] HZu.out (by kernel_rfl) rfl (by simp [Value.oneCell']) ?_))
  refine bodyPost_ret (v := .tuple #[.agg #[.int .i64 0, .int .u64 0], .bool false]) (results_rowa Try.results54 _ _ w.heap.size 46 #[.int .i64 0, .int .u64 0] (0, 0) _ rfl (setRow_heap _ w.heap.size _ #[.int .i64 0, .int .u64 0] _ _ HZu.out) Try.underlying46 rfl (by kernel_rfl)) rfl ?_
  exact ⟨rfl, below_setRow HBu.out (Nat.le_refl _) _⟩
theorem patX_free {w : World} {p g n c : Nat} {fd : Int} {fs lv S : Nat} {ha : Nat → Nat} {bf : Nat → Int} {F : Nat → Prop} (h : PX w p g n c fd fs lv S ha bf F) (_hn : n ≤ 65536) (j : Nat) (hj : j < n) (h0 : ha j = 0) : Calls Try.prog 54 #[.pointer (some ⟨p, 0, none⟩), .int .i64 (j : Int)] w (ret (.tuple #[.agg #[.int .i64 0, .int .u64 0], .bool false]) w) := by
  have HS : Hid (∀ W, Below w.heap.size w W → Calls Try.prog 44 #[.pointer (some ⟨p, 0, none⟩)] W (ret (.int .i64 (n : Int)) W)) := Lib.hid fun W hW => psize_c W p _ n c (blk_cell (h.step hW).blk 0)
  have HX := Lib.hid h
  have hi0 : ¬ (j : Int) < 0 := by omega
  have hi1 : ¬ (n : Int) ≤ (j : Int) := by omega
  have i0 : (0 : Int) ≤ (j : Int) := by omega
  have i1 : (j : Int) < (n : Int) := by omega
  have i2 : ((j : Int)).toNat = j := by omega
  have k0 : ((ha j : Int) == 0) = true := by simp [h0]
  have cap := h.cap
  have cap9 := h.cap9
  clear h
  have HZ : Hid ((w.alloc (.cells #[.int .i64 0, .int .u64 0] 46)).heap[w.heap.size]? = some (.cells #[.int .i64 0, .int .u64 0] 46 (0, 0))) := Lib.hid (heap_alloc_new w _)
  have HB : Hid (Below w.heap.size w (w.alloc (.cells #[.int .i64 0, .int .u64 0] 46))) := Lib.hid (below_alloc w _)
  go_enter Try.func54, Try.ntmps54
  go_upto_region 1 with fail
  change Code.wp _ _ _ _ (w.alloc (.cells #[.int .i64 0, .int .u64 0] 46))
  go_upto_region 2 with (first
    | (go_at_call 44
       refine (HS.out _ HB.out).mono ?_
       rintro e u ⟨rfl, hb⟩
       have HBu := Lib.hid (HB.out.trans (hb.mono HB.out.size))
       have HZu : Hid (u.heap[w.heap.size]? = some (.cells #[.int .i64 0, .int .u64 0] 46 (0, 0))) := Lib.hid ((hb.block _ (lt_heap HZ.out)).trans HZ.out)
       have HXu := Lib.hid (HX.out.step HBu.out)
       have x0 : u.cell? ⟨p, 0, none⟩ = some (.slice (some ⟨g, 0, none⟩) n c) := blk_cell HXu.out.blk 0
       have xc : u.cell? ⟨g, j * 2, none⟩ = some (.int .u64 (ha j : Int)) := HXu.out.c0 hj
       clear hb))
  clear x0 xc
  go_wp2_with (first
    | (refine wpList_store_row rfl 46 (.tmp 4) (.tmp 25) rfl w.heap.size #[.int .i64 0, .int .u64 0] rfl rfl 46 #[.int .i64 0, .int .u64 0] HZu.out (by kernel_rfl) rfl (by simp [Value.oneCell']) ?_))
  refine bodyPost_ret (v := .tuple #[.agg #[.int .i64 0, .int .u64 0], .bool false]) (results_rowa Try.results54 _ _ w.heap.size 46 #[.int .i64 0, .int .u64 0] (0, 0) _ rfl (setRow_heap _ w.heap.size _ #[.int .i64 0, .int .u64 0] _ _ HZu.out) Try.underlying46 rfl (by kernel_rfl)) rfl ?_
  exact ⟨rfl, below_setRow HBu.out (Nat.le_refl _) _⟩
theorem patX_yes {w : World} {p g n c : Nat} {fd : Int} {fs lv S : Nat} {ha : Nat → Nat} {bf : Nat → Int} {F : Nat → Prop} (h : PX w p g n c fd fs lv S ha bf F) (_hn : n ≤ 65536) (j : Nat) (hj : j < n) (h0 : ha j ≠ 0) : Calls Try.prog 54 #[.pointer (some ⟨p, 0, none⟩), .int .i64 (j : Int)] w (ret (.tuple #[.agg #[.int .i64 (j : Int), .int .u64 (ha j : Int)], .bool true]) w) := by
  have HS : Hid (∀ W, Below w.heap.size w W → Calls Try.prog 44 #[.pointer (some ⟨p, 0, none⟩)] W (ret (.int .i64 (n : Int)) W)) := Lib.hid fun W hW => psize_c W p _ n c (blk_cell (h.step hW).blk 0)
  have HX := Lib.hid h
  have hi0 : ¬ (j : Int) < 0 := by omega
  have hi1 : ¬ (n : Int) ≤ (j : Int) := by omega
  have i0 : (0 : Int) ≤ (j : Int) := by omega
  have i1 : (j : Int) < (n : Int) := by omega
  have i2 : ((j : Int)).toNat = j := by omega
  have k0 : ((ha j : Int) == 0) = false := by simp; omega
  have cap := h.cap
  have cap9 := h.cap9
  clear h
  have HZ : Hid ((w.alloc (.cells #[.int .i64 0, .int .u64 0] 46)).heap[w.heap.size]? = some (.cells #[.int .i64 0, .int .u64 0] 46 (0, 0))) := Lib.hid (heap_alloc_new w _)
  have HB : Hid (Below w.heap.size w (w.alloc (.cells #[.int .i64 0, .int .u64 0] 46))) := Lib.hid (below_alloc w _)
  go_enter Try.func54, Try.ntmps54
  go_upto_region 1 with fail
  change Code.wp _ _ _ _ (w.alloc (.cells #[.int .i64 0, .int .u64 0] 46))
  go_upto_region 3 with (first
    | (go_at_call 44
       refine (HS.out _ HB.out).mono ?_
       rintro e u ⟨rfl, hb⟩
       have HBu := Lib.hid (HB.out.trans (hb.mono HB.out.size))
       have HZu : Hid (u.heap[w.heap.size]? = some (.cells #[.int .i64 0, .int .u64 0] 46 (0, 0))) := Lib.hid ((hb.block _ (lt_heap HZ.out)).trans HZ.out)
       have HXu := Lib.hid (HX.out.step HBu.out)
       have x0 : u.cell? ⟨p, 0, none⟩ = some (.slice (some ⟨g, 0, none⟩) n c) := blk_cell HXu.out.blk 0
       have xc : u.cell? ⟨g, j * 2, none⟩ = some (.int .u64 (ha j : Int)) := HXu.out.c0 hj
       clear hb))
  go_wp2_with (first
    | (refine wpList_store_row rfl 46 (.tmp 4) (.tmp 35) rfl w.heap.size #[.int .i64 (j : Int), .int .u64 (ha j : Int)] rfl rfl 46 #[.int .i64 0, .int .u64 0] HZu.out (by kernel_rfl) rfl (by simp [Value.oneCell']) ?_))
  refine bodyPost_ret (v := .tuple #[.agg #[.int .i64 (j : Int), .int .u64 (ha j : Int)], .bool true]) (results_rowa Try.results54 _ _ w.heap.size 46 #[.int .i64 (j : Int), .int .u64 (ha j : Int)] (0, 0) _ rfl (setRow_heap _ w.heap.size _ #[.int .i64 (j : Int), .int .u64 (ha j : Int)] _ _ HZu.out) Try.underlying46 rfl (by kernel_rfl)) rfl ?_
  exact ⟨rfl, below_setRow HBu.out (Nat.le_refl _) _⟩
end Go.Proofs.Ytkmakdhlaenaoaa
