import Derived.StillTailTactics
import Derived.Test.YtimcdnbfdkpffaaGreatGm19
/- Stage 13: the landed table: lay. -/
namespace Go.Proofs.YtimcdnbfdkpffaaGreat
set_option maxRecDepth 100000
open Go.RowKit Go.Shelf
section
variable {w : World} {p g n c : Nat} {e en mk : Int} {f : Nat → Value} {F : Nat → Prop}
set_option maxHeartbeats 1000000 in
theorem tlay_01 (h : PTY w p g n c e en mk f F) {k : Nat} (hk : k < n) (hf : f (k * 3) = .int .u8 0) (y z : Int) : Calls Tryz.prog 154 #[.pointer (some ⟨p, 0, none⟩), .int .i64 (k : Int), .agg #[.int .u8 1, .int .u64 y, .int .u32 z]] w fun r w' => r = .returned (.tuple #[]) ∧ PTY w' p g n c (wrap64 (e - 1)) (wrap64 (en + 1)) mk (updV (updV (updV f (k * 3) (.int .u8 1)) (k * 3 + 1) (.int .u64 y)) (k * 3 + 2) (.int .u32 z)) F ∧ Kept F w w' := by
  have HX := Lib.hid h
  have HF := Lib.hid hf
  have hk3 : k * 3 < n * 3 := by omega
  have HK3 := Lib.hid hk3
  have k0 : (0 : Int) ≤ (k : Int) := by omega
  have k1 : (k : Int) < (n : Int) := by omega
  have k2 : ((k : Int)).toNat = k := by omega
  have cap := h.cap
  have cap9 := h.cap9
  clear h hf hk3
  go_enter Tryz.func154, Tryz.ntmps154
  go_upto_region 1 with fail
  change Code.wp _ _ _ _ (w.alloc (.cells #[.int .u8 1, .int .u64 y, .int .u32 z] 212))
  obtain ⟨q, hq⟩ : ∃ q, q = w.heap.size := ⟨_, rfl⟩
  have HM1 : Hid ((w.alloc (.cells #[.int .u8 1, .int .u64 y, .int .u32 z] 212)).heap[q]? = some (.cells #[.int .u8 1, .int .u64 y, .int .u32 z] 212 (0, 0))) := Lib.hid (by rw [hq]; exact heap_alloc_new w _)
  have HX1 := Lib.hid (HX.out.step (below_alloc w (.cells #[.int .u8 1, .int .u64 y, .int .u32 z] 212)))
  have HK1 : Hid (Kept F w (w.alloc (.cells #[.int .u8 1, .int .u64 y, .int .u32 z] 212))) := Lib.hid (Kept.of_below (below_alloc w _) _)
  have HQ : Hid (∀ k, F k → k ≠ q) := Lib.hid fun k hk e => by
    have := HX.out.old k hk
    omega
  rw [← hq]
  clear hq HX
  generalize w.alloc (.cells #[.int .u8 1, .int .u64 y, .int .u32 z] 212) = u1 at *
  have x0 : u1.cell? ⟨p, 0, none⟩ = some (.slice (some ⟨g, 0, none⟩) n c) := blk_cell HX1.out.blk 0
  have x1 : u1.cell? ⟨p, 1, none⟩ = some (.int .i64 e) := blk_cell HX1.out.blk 1
  have xs : u1.cell? ⟨g, k * 3, none⟩ = some (.int .u8 0) := by rw [HX1.out.cell HK3.out, HF.out]
  go_still_tail 17, (by kernel_rfl)
  repeat still_step
  try refine wpStill_nil ?_
  change wpList _ _ _ _ _ u1.drew
  have HY1 := Lib.hid HX1.out.drew
  have HN1 : Hid (u1.drew.heap[q]? = some (.cells #[.int .u8 1, .int .u64 y, .int .u32 z] 212 (0, 0))) := Lib.hid HM1.out
  have HL1 := Lib.hid HK1.out.drew
  clear x0 x1 xs HX1 HM1 HK1
  generalize u1.drew = v1 at *
  have xe : v1.cell? ⟨p, 1, none⟩ = some (.int .i64 e) := blk_cell HY1.out.blk 1
  have xf := blk_free HY1.out.blk 1
  go_upto_region 2 with fail
  have HX2 : Hid (PTY (v1.setCell ⟨p, 1, none⟩ (.int .i64 (wrap64 (e - 1)))) p g n c (wrap64 (e - 1)) en mk f F) := Lib.hid (HY1.out.set1 _)
  have HM2 : Hid ((v1.setCell ⟨p, 1, none⟩ (.int .i64 (wrap64 (e - 1)))).heap[q]? = some (.cells #[.int .u8 1, .int .u64 y, .int .u32 z] 212 (0, 0))) := Lib.hid ((Below.heap_setCell v1 ⟨p, 1, none⟩ _ q (Ne.symm (HQ.out p HY1.out.mp))).trans HN1.out)
  have HK2 : Hid (Kept F w (v1.setCell ⟨p, 1, none⟩ (.int .i64 (wrap64 (e - 1))))) := Lib.hid (HL1.out.setCell (p := ⟨p, 1, none⟩) (.inl HY1.out.mp) _)
  clear HY1 HN1 HL1 xe xf
  generalize v1.setCell ⟨p, 1, none⟩ (.int .i64 (wrap64 (e - 1))) = u2 at *
  have x1 : u2.cell? ⟨p, 2, none⟩ = some (.int .i64 en) := blk_cell HX2.out.blk 2
  have q0 : u2.cell? ⟨q, 0, none⟩ = some (.int .u8 1) := blk_cell HM2.out 0
  go_still_tail 11, (by kernel_rfl)
  repeat still_step
  try refine wpStill_nil ?_
  change wpList _ _ _ _ _ u2.drew
  have HY2 := Lib.hid HX2.out.drew
  have HN2 : Hid (u2.drew.heap[q]? = some (.cells #[.int .u8 1, .int .u64 y, .int .u32 z] 212 (0, 0))) := Lib.hid HM2.out
  have HL2 := Lib.hid HK2.out.drew
  clear x1 q0 HX2 HM2 HK2
  generalize u2.drew = v2 at *
  have xe : v2.cell? ⟨p, 2, none⟩ = some (.int .i64 en) := blk_cell HY2.out.blk 2
  have xf := blk_free HY2.out.blk 2
  go_upto_region 3 with fail
  have HX3 : Hid (PTY (v2.setCell ⟨p, 2, none⟩ (.int .i64 (wrap64 (en + 1)))) p g n c (wrap64 (e - 1)) (wrap64 (en + 1)) mk f F) := Lib.hid (HY2.out.set2 _)
  have HM3 : Hid ((v2.setCell ⟨p, 2, none⟩ (.int .i64 (wrap64 (en + 1)))).heap[q]? = some (.cells #[.int .u8 1, .int .u64 y, .int .u32 z] 212 (0, 0))) := Lib.hid ((Below.heap_setCell v2 ⟨p, 2, none⟩ _ q (Ne.symm (HQ.out p HY2.out.mp))).trans HN2.out)
  have HK3b : Hid (Kept F w (v2.setCell ⟨p, 2, none⟩ (.int .i64 (wrap64 (en + 1))))) := Lib.hid (HL2.out.setCell (p := ⟨p, 2, none⟩) (.inl HY2.out.mp) _)
  clear HY2 HN2 HL2 xe xf
  generalize v2.setCell ⟨p, 2, none⟩ (.int .i64 (wrap64 (en + 1))) = u3 at *
  have x0 : u3.cell? ⟨p, 0, none⟩ = some (.slice (some ⟨g, 0, none⟩) n c) := blk_cell HX3.out.blk 0
  have q0 : u3.cell? ⟨q, 0, none⟩ = some (.int .u8 1) := blk_cell HM3.out 0
  have q1 : u3.cell? ⟨q, 1, none⟩ = some (.int .u64 y) := blk_cell HM3.out 1
  have q2 : u3.cell? ⟨q, 2, none⟩ = some (.int .u32 z) := blk_cell HM3.out 2
  go_still_tail 7, (by kernel_rfl)
  repeat still_step
  try refine wpStill_nil ?_
  change wpList _ _ _ _ _ u3.drew
  have HY3 := Lib.hid HX3.out.drew
  have HL3 := Lib.hid HK3b.out.drew
  clear x0 q0 q1 q2 HX3 HM3 HK3b
  generalize u3.drew = v3 at *
  go_wp2_with (first
    | (refine wpList_store_mid rfl 212 (.tmp 40) (.tmp 39) rfl g (k * 3) #[.int .u8 1, .int .u64 y, .int .u32 z] rfl rfl (HY3.out.there (by omega)) (by kernel_rfl) (by simp [Value.oneCell']) ?_))
  go_end0
  exact ⟨rfl, HY3.out.put k _ _ _, HL3.out.setCells (.inl HY3.out.mg) _ _⟩
set_option maxHeartbeats 1000000 in
theorem tlay_21 (h : PTY w p g n c e en mk f F) {k : Nat} (hk : k < n) (hf : f (k * 3) = .int .u8 2) (y z : Int) : Calls Tryz.prog 154 #[.pointer (some ⟨p, 0, none⟩), .int .i64 (k : Int), .agg #[.int .u8 1, .int .u64 y, .int .u32 z]] w fun r w' => r = .returned (.tuple #[]) ∧ PTY w' p g n c e (wrap64 (en + 1)) (wrap64 (mk - 1)) (updV (updV (updV f (k * 3) (.int .u8 1)) (k * 3 + 1) (.int .u64 y)) (k * 3 + 2) (.int .u32 z)) F ∧ Kept F w w' := by
  have HX := Lib.hid h
  have HF := Lib.hid hf
  have hk3 : k * 3 < n * 3 := by omega
  have HK3 := Lib.hid hk3
  have k0 : (0 : Int) ≤ (k : Int) := by omega
  have k1 : (k : Int) < (n : Int) := by omega
  have k2 : ((k : Int)).toNat = k := by omega
  have cap := h.cap
  have cap9 := h.cap9
  clear h hf hk3
  go_enter Tryz.func154, Tryz.ntmps154
  go_upto_region 1 with fail
  change Code.wp _ _ _ _ (w.alloc (.cells #[.int .u8 1, .int .u64 y, .int .u32 z] 212))
  obtain ⟨q, hq⟩ : ∃ q, q = w.heap.size := ⟨_, rfl⟩
  have HM1 : Hid ((w.alloc (.cells #[.int .u8 1, .int .u64 y, .int .u32 z] 212)).heap[q]? = some (.cells #[.int .u8 1, .int .u64 y, .int .u32 z] 212 (0, 0))) := Lib.hid (by rw [hq]; exact heap_alloc_new w _)
  have HX1 := Lib.hid (HX.out.step (below_alloc w (.cells #[.int .u8 1, .int .u64 y, .int .u32 z] 212)))
  have HK1 : Hid (Kept F w (w.alloc (.cells #[.int .u8 1, .int .u64 y, .int .u32 z] 212))) := Lib.hid (Kept.of_below (below_alloc w _) _)
  have HQ : Hid (∀ k, F k → k ≠ q) := Lib.hid fun k hk e => by
    have := HX.out.old k hk
    omega
  rw [← hq]
  clear hq HX
  generalize w.alloc (.cells #[.int .u8 1, .int .u64 y, .int .u32 z] 212) = u1 at *
  have x0 : u1.cell? ⟨p, 0, none⟩ = some (.slice (some ⟨g, 0, none⟩) n c) := blk_cell HX1.out.blk 0
  have x1 : u1.cell? ⟨p, 3, none⟩ = some (.int .i64 mk) := blk_cell HX1.out.blk 3
  have xs : u1.cell? ⟨g, k * 3, none⟩ = some (.int .u8 2) := by rw [HX1.out.cell HK3.out, HF.out]
  go_still_tail 17, (by kernel_rfl)
  repeat still_step
  try refine wpStill_nil ?_
  change wpList _ _ _ _ _ u1.drew
  have HY1 := Lib.hid HX1.out.drew
  have HN1 : Hid (u1.drew.heap[q]? = some (.cells #[.int .u8 1, .int .u64 y, .int .u32 z] 212 (0, 0))) := Lib.hid HM1.out
  have HL1 := Lib.hid HK1.out.drew
  clear x0 x1 xs HX1 HM1 HK1
  generalize u1.drew = v1 at *
  have xe : v1.cell? ⟨p, 3, none⟩ = some (.int .i64 mk) := blk_cell HY1.out.blk 3
  have xf := blk_free HY1.out.blk 3
  go_upto_region 2 with fail
  have HX2 : Hid (PTY (v1.setCell ⟨p, 3, none⟩ (.int .i64 (wrap64 (mk - 1)))) p g n c e en (wrap64 (mk - 1)) f F) := Lib.hid (HY1.out.set3 _)
  have HM2 : Hid ((v1.setCell ⟨p, 3, none⟩ (.int .i64 (wrap64 (mk - 1)))).heap[q]? = some (.cells #[.int .u8 1, .int .u64 y, .int .u32 z] 212 (0, 0))) := Lib.hid ((Below.heap_setCell v1 ⟨p, 3, none⟩ _ q (Ne.symm (HQ.out p HY1.out.mp))).trans HN1.out)
  have HK2 : Hid (Kept F w (v1.setCell ⟨p, 3, none⟩ (.int .i64 (wrap64 (mk - 1))))) := Lib.hid (HL1.out.setCell (p := ⟨p, 3, none⟩) (.inl HY1.out.mp) _)
  clear HY1 HN1 HL1 xe xf
  generalize v1.setCell ⟨p, 3, none⟩ (.int .i64 (wrap64 (mk - 1))) = u2 at *
  have x1 : u2.cell? ⟨p, 2, none⟩ = some (.int .i64 en) := blk_cell HX2.out.blk 2
  have q0 : u2.cell? ⟨q, 0, none⟩ = some (.int .u8 1) := blk_cell HM2.out 0
  go_still_tail 11, (by kernel_rfl)
  repeat still_step
  try refine wpStill_nil ?_
  change wpList _ _ _ _ _ u2.drew
  have HY2 := Lib.hid HX2.out.drew
  have HN2 : Hid (u2.drew.heap[q]? = some (.cells #[.int .u8 1, .int .u64 y, .int .u32 z] 212 (0, 0))) := Lib.hid HM2.out
  have HL2 := Lib.hid HK2.out.drew
  clear x1 q0 HX2 HM2 HK2
  generalize u2.drew = v2 at *
  have xe : v2.cell? ⟨p, 2, none⟩ = some (.int .i64 en) := blk_cell HY2.out.blk 2
  have xf := blk_free HY2.out.blk 2
  go_upto_region 3 with fail
  have HX3 : Hid (PTY (v2.setCell ⟨p, 2, none⟩ (.int .i64 (wrap64 (en + 1)))) p g n c e (wrap64 (en + 1)) (wrap64 (mk - 1)) f F) := Lib.hid (HY2.out.set2 _)
  have HM3 : Hid ((v2.setCell ⟨p, 2, none⟩ (.int .i64 (wrap64 (en + 1)))).heap[q]? = some (.cells #[.int .u8 1, .int .u64 y, .int .u32 z] 212 (0, 0))) := Lib.hid ((Below.heap_setCell v2 ⟨p, 2, none⟩ _ q (Ne.symm (HQ.out p HY2.out.mp))).trans HN2.out)
  have HK3b : Hid (Kept F w (v2.setCell ⟨p, 2, none⟩ (.int .i64 (wrap64 (en + 1))))) := Lib.hid (HL2.out.setCell (p := ⟨p, 2, none⟩) (.inl HY2.out.mp) _)
  clear HY2 HN2 HL2 xe xf
  generalize v2.setCell ⟨p, 2, none⟩ (.int .i64 (wrap64 (en + 1))) = u3 at *
  have x0 : u3.cell? ⟨p, 0, none⟩ = some (.slice (some ⟨g, 0, none⟩) n c) := blk_cell HX3.out.blk 0
  have q0 : u3.cell? ⟨q, 0, none⟩ = some (.int .u8 1) := blk_cell HM3.out 0
  have q1 : u3.cell? ⟨q, 1, none⟩ = some (.int .u64 y) := blk_cell HM3.out 1
  have q2 : u3.cell? ⟨q, 2, none⟩ = some (.int .u32 z) := blk_cell HM3.out 2
  go_still_tail 7, (by kernel_rfl)
  repeat still_step
  try refine wpStill_nil ?_
  change wpList _ _ _ _ _ u3.drew
  have HY3 := Lib.hid HX3.out.drew
  have HL3 := Lib.hid HK3b.out.drew
  clear x0 q0 q1 q2 HX3 HM3 HK3b
  generalize u3.drew = v3 at *
  go_wp2_with (first
    | (refine wpList_store_mid rfl 212 (.tmp 40) (.tmp 39) rfl g (k * 3) #[.int .u8 1, .int .u64 y, .int .u32 z] rfl rfl (HY3.out.there (by omega)) (by kernel_rfl) (by simp [Value.oneCell']) ?_))
  go_end0
  exact ⟨rfl, HY3.out.put k _ _ _, HL3.out.setCells (.inl HY3.out.mg) _ _⟩
set_option maxHeartbeats 1000000 in
theorem tlay_12 (h : PTY w p g n c e en mk f F) {k : Nat} (hk : k < n) (hf : f (k * 3) = .int .u8 1) (y z : Int) : Calls Tryz.prog 154 #[.pointer (some ⟨p, 0, none⟩), .int .i64 (k : Int), .agg #[.int .u8 2, .int .u64 y, .int .u32 z]] w fun r w' => r = .returned (.tuple #[]) ∧ PTY w' p g n c e (wrap64 (en - 1)) (wrap64 (mk + 1)) (updV (updV (updV f (k * 3) (.int .u8 2)) (k * 3 + 1) (.int .u64 y)) (k * 3 + 2) (.int .u32 z)) F ∧ Kept F w w' := by
  have HX := Lib.hid h
  have HF := Lib.hid hf
  have hk3 : k * 3 < n * 3 := by omega
  have HK3 := Lib.hid hk3
  have k0 : (0 : Int) ≤ (k : Int) := by omega
  have k1 : (k : Int) < (n : Int) := by omega
  have k2 : ((k : Int)).toNat = k := by omega
  have cap := h.cap
  have cap9 := h.cap9
  clear h hf hk3
  go_enter Tryz.func154, Tryz.ntmps154
  go_upto_region 1 with fail
  change Code.wp _ _ _ _ (w.alloc (.cells #[.int .u8 2, .int .u64 y, .int .u32 z] 212))
  obtain ⟨q, hq⟩ : ∃ q, q = w.heap.size := ⟨_, rfl⟩
  have HM1 : Hid ((w.alloc (.cells #[.int .u8 2, .int .u64 y, .int .u32 z] 212)).heap[q]? = some (.cells #[.int .u8 2, .int .u64 y, .int .u32 z] 212 (0, 0))) := Lib.hid (by rw [hq]; exact heap_alloc_new w _)
  have HX1 := Lib.hid (HX.out.step (below_alloc w (.cells #[.int .u8 2, .int .u64 y, .int .u32 z] 212)))
  have HK1 : Hid (Kept F w (w.alloc (.cells #[.int .u8 2, .int .u64 y, .int .u32 z] 212))) := Lib.hid (Kept.of_below (below_alloc w _) _)
  have HQ : Hid (∀ k, F k → k ≠ q) := Lib.hid fun k hk e => by
    have := HX.out.old k hk
    omega
  rw [← hq]
  clear hq HX
  generalize w.alloc (.cells #[.int .u8 2, .int .u64 y, .int .u32 z] 212) = u1 at *
  have x0 : u1.cell? ⟨p, 0, none⟩ = some (.slice (some ⟨g, 0, none⟩) n c) := blk_cell HX1.out.blk 0
  have x1 : u1.cell? ⟨p, 2, none⟩ = some (.int .i64 en) := blk_cell HX1.out.blk 2
  have xs : u1.cell? ⟨g, k * 3, none⟩ = some (.int .u8 1) := by rw [HX1.out.cell HK3.out, HF.out]
  go_still_tail 17, (by kernel_rfl)
  repeat still_step
  try refine wpStill_nil ?_
  change wpList _ _ _ _ _ u1.drew
  have HY1 := Lib.hid HX1.out.drew
  have HN1 : Hid (u1.drew.heap[q]? = some (.cells #[.int .u8 2, .int .u64 y, .int .u32 z] 212 (0, 0))) := Lib.hid HM1.out
  have HL1 := Lib.hid HK1.out.drew
  clear x0 x1 xs HX1 HM1 HK1
  generalize u1.drew = v1 at *
  have xe : v1.cell? ⟨p, 2, none⟩ = some (.int .i64 en) := blk_cell HY1.out.blk 2
  have xf := blk_free HY1.out.blk 2
  go_upto_region 2 with fail
  have HX2 : Hid (PTY (v1.setCell ⟨p, 2, none⟩ (.int .i64 (wrap64 (en - 1)))) p g n c e (wrap64 (en - 1)) mk f F) := Lib.hid (HY1.out.set2 _)
  have HM2 : Hid ((v1.setCell ⟨p, 2, none⟩ (.int .i64 (wrap64 (en - 1)))).heap[q]? = some (.cells #[.int .u8 2, .int .u64 y, .int .u32 z] 212 (0, 0))) := Lib.hid ((Below.heap_setCell v1 ⟨p, 2, none⟩ _ q (Ne.symm (HQ.out p HY1.out.mp))).trans HN1.out)
  have HK2 : Hid (Kept F w (v1.setCell ⟨p, 2, none⟩ (.int .i64 (wrap64 (en - 1))))) := Lib.hid (HL1.out.setCell (p := ⟨p, 2, none⟩) (.inl HY1.out.mp) _)
  clear HY1 HN1 HL1 xe xf
  generalize v1.setCell ⟨p, 2, none⟩ (.int .i64 (wrap64 (en - 1))) = u2 at *
  have x1 : u2.cell? ⟨p, 3, none⟩ = some (.int .i64 mk) := blk_cell HX2.out.blk 3
  have q0 : u2.cell? ⟨q, 0, none⟩ = some (.int .u8 2) := blk_cell HM2.out 0
  go_still_tail 11, (by kernel_rfl)
  repeat still_step
  try refine wpStill_nil ?_
  change wpList _ _ _ _ _ u2.drew
  have HY2 := Lib.hid HX2.out.drew
  have HN2 : Hid (u2.drew.heap[q]? = some (.cells #[.int .u8 2, .int .u64 y, .int .u32 z] 212 (0, 0))) := Lib.hid HM2.out
  have HL2 := Lib.hid HK2.out.drew
  clear x1 q0 HX2 HM2 HK2
  generalize u2.drew = v2 at *
  have xe : v2.cell? ⟨p, 3, none⟩ = some (.int .i64 mk) := blk_cell HY2.out.blk 3
  have xf := blk_free HY2.out.blk 3
  go_upto_region 3 with fail
  have HX3 : Hid (PTY (v2.setCell ⟨p, 3, none⟩ (.int .i64 (wrap64 (mk + 1)))) p g n c e (wrap64 (en - 1)) (wrap64 (mk + 1)) f F) := Lib.hid (HY2.out.set3 _)
  have HM3 : Hid ((v2.setCell ⟨p, 3, none⟩ (.int .i64 (wrap64 (mk + 1)))).heap[q]? = some (.cells #[.int .u8 2, .int .u64 y, .int .u32 z] 212 (0, 0))) := Lib.hid ((Below.heap_setCell v2 ⟨p, 3, none⟩ _ q (Ne.symm (HQ.out p HY2.out.mp))).trans HN2.out)
  have HK3b : Hid (Kept F w (v2.setCell ⟨p, 3, none⟩ (.int .i64 (wrap64 (mk + 1))))) := Lib.hid (HL2.out.setCell (p := ⟨p, 3, none⟩) (.inl HY2.out.mp) _)
  clear HY2 HN2 HL2 xe xf
  generalize v2.setCell ⟨p, 3, none⟩ (.int .i64 (wrap64 (mk + 1))) = u3 at *
  have x0 : u3.cell? ⟨p, 0, none⟩ = some (.slice (some ⟨g, 0, none⟩) n c) := blk_cell HX3.out.blk 0
  have q0 : u3.cell? ⟨q, 0, none⟩ = some (.int .u8 2) := blk_cell HM3.out 0
  have q1 : u3.cell? ⟨q, 1, none⟩ = some (.int .u64 y) := blk_cell HM3.out 1
  have q2 : u3.cell? ⟨q, 2, none⟩ = some (.int .u32 z) := blk_cell HM3.out 2
  go_still_tail 7, (by kernel_rfl)
  repeat still_step
  try refine wpStill_nil ?_
  change wpList _ _ _ _ _ u3.drew
  have HY3 := Lib.hid HX3.out.drew
  have HL3 := Lib.hid HK3b.out.drew
  clear x0 q0 q1 q2 HX3 HM3 HK3b
  generalize u3.drew = v3 at *
  go_wp2_with (first
    | (refine wpList_store_mid rfl 212 (.tmp 40) (.tmp 39) rfl g (k * 3) #[.int .u8 2, .int .u64 y, .int .u32 z] rfl rfl (HY3.out.there (by omega)) (by kernel_rfl) (by simp [Value.oneCell']) ?_))
  go_end0
  exact ⟨rfl, HY3.out.put k _ _ _, HL3.out.setCells (.inl HY3.out.mg) _ _⟩
end
end Go.Proofs.YtimcdnbfdkpffaaGreat
