import Derived.Test.YtimcdnbfdkpffaaGreatGm6
/- Stage 9: the landed At, Live. -/
namespace Go.Proofs.YtimcdnbfdkpffaaGreat
set_option maxRecDepth 100000
open Go.RowKit
theorem patG_neg (w : World) (pa : Option Addr) (i : Int) (hi : i < 0) : Calls Tryz.prog 136 #[.pointer pa, .int .i64 i] w (ret (.tuple #[.agg #[.int .i64 0, .int .u64 0], .bool false]) w) := by
  have HZ : Hid ((w.alloc (.cells #[.int .i64 0, .int .u64 0] 95)).heap[w.heap.size]? = some (.cells #[.int .i64 0, .int .u64 0] 95 (0, 0))) := Lib.hid (heap_alloc_new w _)
  have HB : Hid (Below w.heap.size w (w.alloc (.cells #[.int .i64 0, .int .u64 0] 95))) := Lib.hid (below_alloc w _)
  go_enter Tryz.func136, Tryz.ntmps136
  go_upto_region 1 with fail
  change Code.wp _ _ _ _ (w.alloc (.cells #[.int .i64 0, .int .u64 0] 95))
  go_upto_region 2 with fail
  generalize w.alloc (.cells #[.int .i64 0, .int .u64 0] 95) = u at *
  go_wp2_with (first
    | (refine wpList_store_row rfl 95 (.tmp 4) (.tmp 25) rfl w.heap.size #[.int .i64 0, .int .u64 0] rfl rfl 95 #[.int .i64 0, .int .u64 0] HZ.out (by kernel_rfl) rfl (by simp [Value.oneCell']) ?_))
  refine bodyPost_ret (v := .tuple #[.agg #[.int .i64 0, .int .u64 0], .bool false]) (results_rowa Tryz.results136 _ _ w.heap.size 95 #[.int .i64 0, .int .u64 0] (0, 0) _ rfl (setRow_heap _ w.heap.size _ #[.int .i64 0, .int .u64 0] _ _ HZ.out) Tryz.underlying95 rfl (by kernel_rfl)) rfl ?_
  exact ⟨rfl, below_setRow HB.out (Nat.le_refl _) _⟩
theorem patG_out (w : World) (pa : Option Addr) (n : Nat) (hs : ∀ W, Below w.heap.size w W → Calls Tryz.prog 125 #[.pointer pa] W (ret (.int .i64 (n : Int)) W)) (i : Int) (h0 : 0 ≤ i) (hi : (n : Int) ≤ i) : Calls Tryz.prog 136 #[.pointer pa, .int .i64 i] w (ret (.tuple #[.agg #[.int .i64 0, .int .u64 0], .bool false]) w) := by
  have hi0 : ¬ i < 0 := by omega
  have HS := Lib.hid hs
  clear hs
  have HZ : Hid ((w.alloc (.cells #[.int .i64 0, .int .u64 0] 95)).heap[w.heap.size]? = some (.cells #[.int .i64 0, .int .u64 0] 95 (0, 0))) := Lib.hid (heap_alloc_new w _)
  have HB : Hid (Below w.heap.size w (w.alloc (.cells #[.int .i64 0, .int .u64 0] 95))) := Lib.hid (below_alloc w _)
  go_enter Tryz.func136, Tryz.ntmps136
  go_upto_region 1 with fail
  change Code.wp _ _ _ _ (w.alloc (.cells #[.int .i64 0, .int .u64 0] 95))
  go_upto_region 2 with (first
    | (go_at_call 125
       refine (HS.out _ HB.out).mono ?_
       rintro e u ⟨rfl, hb⟩
       have HBu := Lib.hid (HB.out.trans (hb.mono HB.out.size))
       have HZu : Hid (u.heap[w.heap.size]? = some (.cells #[.int .i64 0, .int .u64 0] 95 (0, 0))) := Lib.hid ((hb.block _ (lt_heap HZ.out)).trans HZ.out)
       clear hb))
  go_wp2_with (first
    | (refine wpList_store_row rfl 95 (.tmp 4) (.tmp 25) rfl w.heap.size #[.int .i64 0, .int .u64 0] rfl rfl 95 #[.int .i64 0, .int .u64 0] HZu.out (by kernel_rfl) rfl (by simp [Value.oneCell']) ?_))
  refine bodyPost_ret (v := .tuple #[.agg #[.int .i64 0, .int .u64 0], .bool false]) (results_rowa Tryz.results136 _ _ w.heap.size 95 #[.int .i64 0, .int .u64 0] (0, 0) _ rfl (setRow_heap _ w.heap.size _ #[.int .i64 0, .int .u64 0] _ _ HZu.out) Tryz.underlying95 rfl (by kernel_rfl)) rfl ?_
  exact ⟨rfl, below_setRow HBu.out (Nat.le_refl _) _⟩
theorem patX_free {w : World} {p g n c : Nat} {fd : Int} {fs lv S : Nat} {ha : Nat → Nat} {bf : Nat → Int} {F : Nat → Prop} (h : PX w p g n c fd fs lv S ha bf F) (_hn : n ≤ 65536) (j : Nat) (hj : j < n) (h0 : ha j = 0) : Calls Tryz.prog 136 #[.pointer (some ⟨p, 0, none⟩), .int .i64 (j : Int)] w (ret (.tuple #[.agg #[.int .i64 0, .int .u64 0], .bool false]) w) := by
  have HS : Hid (∀ W, Below w.heap.size w W → Calls Tryz.prog 125 #[.pointer (some ⟨p, 0, none⟩)] W (ret (.int .i64 (n : Int)) W)) := Lib.hid fun W hW => psize_c W p _ n c (blk_cell (h.step hW).blk 0)
  have HX := Lib.hid h
  have hi0 : ¬ (j : Int) < 0 := by omega
  have hi1 : ¬ (n : Int) ≤ (j : Int) := by omega
  have i0 : (0 : Int) ≤ (j : Int) := by omega
  have i1 : (j : Int) < (n : Int) := by omega
  have i2 : ((j : Int)).toNat = j := by omega
  have k0 : ((ha j : Int) == 0) = true := by simp [h0]
  have cap := h.cap
  have cap9 := h.cap9
  clear h
  have HZ : Hid ((w.alloc (.cells #[.int .i64 0, .int .u64 0] 95)).heap[w.heap.size]? = some (.cells #[.int .i64 0, .int .u64 0] 95 (0, 0))) := Lib.hid (heap_alloc_new w _)
  have HB : Hid (Below w.heap.size w (w.alloc (.cells #[.int .i64 0, .int .u64 0] 95))) := Lib.hid (below_alloc w _)
  go_enter Tryz.func136, Tryz.ntmps136
  go_upto_region 1 with fail
  change Code.wp _ _ _ _ (w.alloc (.cells #[.int .i64 0, .int .u64 0] 95))
  go_upto_region 2 with (first
    | (go_at_call 125
       refine (HS.out _ HB.out).mono ?_
       rintro e u ⟨rfl, hb⟩
       have HBu := Lib.hid (HB.out.trans (hb.mono HB.out.size))
       have HZu : Hid (u.heap[w.heap.size]? = some (.cells #[.int .i64 0, .int .u64 0] 95 (0, 0))) := Lib.hid ((hb.block _ (lt_heap HZ.out)).trans HZ.out)
       have HXu := Lib.hid (HX.out.step HBu.out)
       have x0 : u.cell? ⟨p, 0, none⟩ = some (.slice (some ⟨g, 0, none⟩) n c) := blk_cell HXu.out.blk 0
       have xc : u.cell? ⟨g, j * 2, none⟩ = some (.int .u64 (ha j : Int)) := HXu.out.c0 hj
       clear hb))
  clear x0 xc
  go_wp2_with (first
    | (refine wpList_store_row rfl 95 (.tmp 4) (.tmp 25) rfl w.heap.size #[.int .i64 0, .int .u64 0] rfl rfl 95 #[.int .i64 0, .int .u64 0] HZu.out (by kernel_rfl) rfl (by simp [Value.oneCell']) ?_))
  refine bodyPost_ret (v := .tuple #[.agg #[.int .i64 0, .int .u64 0], .bool false]) (results_rowa Tryz.results136 _ _ w.heap.size 95 #[.int .i64 0, .int .u64 0] (0, 0) _ rfl (setRow_heap _ w.heap.size _ #[.int .i64 0, .int .u64 0] _ _ HZu.out) Tryz.underlying95 rfl (by kernel_rfl)) rfl ?_
  exact ⟨rfl, below_setRow HBu.out (Nat.le_refl _) _⟩
theorem patX_yes {w : World} {p g n c : Nat} {fd : Int} {fs lv S : Nat} {ha : Nat → Nat} {bf : Nat → Int} {F : Nat → Prop} (h : PX w p g n c fd fs lv S ha bf F) (_hn : n ≤ 65536) (j : Nat) (hj : j < n) (h0 : ha j ≠ 0) : Calls Tryz.prog 136 #[.pointer (some ⟨p, 0, none⟩), .int .i64 (j : Int)] w (ret (.tuple #[.agg #[.int .i64 (j : Int), .int .u64 (ha j : Int)], .bool true]) w) := by
  have HS : Hid (∀ W, Below w.heap.size w W → Calls Tryz.prog 125 #[.pointer (some ⟨p, 0, none⟩)] W (ret (.int .i64 (n : Int)) W)) := Lib.hid fun W hW => psize_c W p _ n c (blk_cell (h.step hW).blk 0)
  have HX := Lib.hid h
  have hi0 : ¬ (j : Int) < 0 := by omega
  have hi1 : ¬ (n : Int) ≤ (j : Int) := by omega
  have i0 : (0 : Int) ≤ (j : Int) := by omega
  have i1 : (j : Int) < (n : Int) := by omega
  have i2 : ((j : Int)).toNat = j := by omega
  have k0 : ((ha j : Int) == 0) = false := by simp; omega
  have cap := h.cap
  have cap9 := h.cap9
  clear h
  have HZ : Hid ((w.alloc (.cells #[.int .i64 0, .int .u64 0] 95)).heap[w.heap.size]? = some (.cells #[.int .i64 0, .int .u64 0] 95 (0, 0))) := Lib.hid (heap_alloc_new w _)
  have HB : Hid (Below w.heap.size w (w.alloc (.cells #[.int .i64 0, .int .u64 0] 95))) := Lib.hid (below_alloc w _)
  go_enter Tryz.func136, Tryz.ntmps136
  go_upto_region 1 with fail
  change Code.wp _ _ _ _ (w.alloc (.cells #[.int .i64 0, .int .u64 0] 95))
  go_upto_region 3 with (first
    | (go_at_call 125
       refine (HS.out _ HB.out).mono ?_
       rintro e u ⟨rfl, hb⟩
       have HBu := Lib.hid (HB.out.trans (hb.mono HB.out.size))
       have HZu : Hid (u.heap[w.heap.size]? = some (.cells #[.int .i64 0, .int .u64 0] 95 (0, 0))) := Lib.hid ((hb.block _ (lt_heap HZ.out)).trans HZ.out)
       have HXu := Lib.hid (HX.out.step HBu.out)
       have x0 : u.cell? ⟨p, 0, none⟩ = some (.slice (some ⟨g, 0, none⟩) n c) := blk_cell HXu.out.blk 0
       have xc : u.cell? ⟨g, j * 2, none⟩ = some (.int .u64 (ha j : Int)) := HXu.out.c0 hj
       clear hb))
  go_wp2_with (first
    | (refine wpList_store_row rfl 95 (.tmp 4) (.tmp 35) rfl w.heap.size #[.int .i64 (j : Int), .int .u64 (ha j : Int)] rfl rfl 95 #[.int .i64 0, .int .u64 0] HZu.out (by kernel_rfl) rfl (by simp [Value.oneCell']) ?_))
  refine bodyPost_ret (v := .tuple #[.agg #[.int .i64 (j : Int), .int .u64 (ha j : Int)], .bool true]) (results_rowa Tryz.results136 _ _ w.heap.size 95 #[.int .i64 (j : Int), .int .u64 (ha j : Int)] (0, 0) _ rfl (setRow_heap _ w.heap.size _ #[.int .i64 (j : Int), .int .u64 (ha j : Int)] _ _ HZu.out) Tryz.underlying95 rfl (by kernel_rfl)) rfl ?_
  exact ⟨rfl, below_setRow HBu.out (Nat.le_refl _) _⟩
end Go.Proofs.YtimcdnbfdkpffaaGreat
/- Stage 9: the landed Live; what All tells. -/
namespace Go.Proofs.YtimcdnbfdkpffaaGreat
set_option maxRecDepth 100000
open Go.RowKit Go.Shelf
attribute [local go_sem] Oper.semAt_some
theorem pliveG_no (w : World) (pa : Option Addr) (i : Int) (k : Nat) (ha : ∀ W, Below w.heap.size w W → Calls Tryz.prog 136 #[.pointer pa, .int .i64 i] W (ret (.tuple #[.agg #[.int .i64 0, .int .u64 0], .bool false]) W)) : Calls Tryz.prog 89 #[.pointer pa, .agg #[.int .i64 i, .int .u64 (k : Int)]] w (ret (.bool false) w) := by
  have HA := Lib.hid ha
  have HM1 : Hid (Mem w (w.alloc (.cells #[.int .i64 i, .int .u64 (k : Int)] 95)) [(w.heap.size, .cells #[.int .i64 i, .int .u64 (k : Int)] 95 (0, 0))]) := Lib.hid ((Mem.nil w).alloc (.cells #[.int .i64 i, .int .u64 (k : Int)] 95))
  clear ha
  go_enter Tryz.func89, Tryz.ntmps89
  go_upto_region 1 with fail
  change Code.wp _ _ _ _ (w.alloc (.cells #[.int .i64 i, .int .u64 (k : Int)] 95))
  generalize w.alloc (.cells #[.int .i64 i, .int .u64 (k : Int)] 95) = u1 at *
  have x0 : u1.cell? ⟨w.heap.size, 0, none⟩ = some (.int .i64 i) := blk_cell (HM1.out.get 0 rfl) 0
  go_upto_region 2 with (first
    | (go_at_call 136
       refine (HA.out _ HM1.out.below).mono ?_
       rintro e u2 ⟨rfl, hb⟩
       have HM2 := Lib.hid (HM1.out.step hb)
       clear hb))
  have HM3 := Lib.hid (HM2.out.alloc (.cells #[.int .i64 0, .int .u64 0] 95))
  obtain ⟨b5, hb5⟩ : ∃ b, b = u2.heap.size := ⟨_, rfl⟩
  rw [← hb5] at HM3 ⊢
  clear hb5 x0
  generalize u2.alloc (.cells #[.int .i64 0, .int .u64 0] 95) = u3 at *
  have y0 : u3.cell? ⟨w.heap.size, 0, none⟩ = some (.int .i64 i) := blk_cell (HM3.out.get 0 rfl) 0
  have y1 : u3.cell? ⟨w.heap.size, 1, none⟩ = some (.int .u64 (k : Int)) := blk_cell (HM3.out.get 0 rfl) 1
  go_wp2_with fail
  go_ret
  exact ⟨rfl, HM3.out.below⟩
theorem pliveG_yes (w : World) (pa : Option Addr) (i : Int) (v k : Nat) (ha : ∀ W, Below w.heap.size w W → Calls Tryz.prog 136 #[.pointer pa, .int .i64 i] W (ret (.tuple #[.agg #[.int .i64 i, .int .u64 (v : Int)], .bool true]) W)) : Calls Tryz.prog 89 #[.pointer pa, .agg #[.int .i64 i, .int .u64 (k : Int)]] w (ret (.bool ((v : Int) == (k : Int))) w) := by
  have HA := Lib.hid ha
  have HM1 : Hid (Mem w (w.alloc (.cells #[.int .i64 i, .int .u64 (k : Int)] 95)) [(w.heap.size, .cells #[.int .i64 i, .int .u64 (k : Int)] 95 (0, 0))]) := Lib.hid ((Mem.nil w).alloc (.cells #[.int .i64 i, .int .u64 (k : Int)] 95))
  clear ha
  go_enter Tryz.func89, Tryz.ntmps89
  go_upto_region 1 with fail
  change Code.wp _ _ _ _ (w.alloc (.cells #[.int .i64 i, .int .u64 (k : Int)] 95))
  generalize w.alloc (.cells #[.int .i64 i, .int .u64 (k : Int)] 95) = u1 at *
  have x0 : u1.cell? ⟨w.heap.size, 0, none⟩ = some (.int .i64 i) := blk_cell (HM1.out.get 0 rfl) 0
  go_upto_region 2 with (first
    | (go_at_call 136
       refine (HA.out _ HM1.out.below).mono ?_
       rintro e u2 ⟨rfl, hb⟩
       have HM2 := Lib.hid (HM1.out.step hb)
       clear hb))
  have HM3 := Lib.hid (HM2.out.alloc (.cells #[.int .i64 i, .int .u64 (v : Int)] 95))
  obtain ⟨b5, hb5⟩ : ∃ b, b = u2.heap.size := ⟨_, rfl⟩
  rw [← hb5] at HM3 ⊢
  clear hb5 x0
  generalize u2.alloc (.cells #[.int .i64 i, .int .u64 (v : Int)] 95) = u3 at *
  have y0 : u3.cell? ⟨w.heap.size, 0, none⟩ = some (.int .i64 i) := blk_cell (HM3.out.get 0 rfl) 0
  have y1 : u3.cell? ⟨w.heap.size, 1, none⟩ = some (.int .u64 (k : Int)) := blk_cell (HM3.out.get 0 rfl) 1
  have z0 : u3.cell? ⟨b5, 0, none⟩ = some (.int .i64 i) := blk_cell (HM3.out.get 1 rfl) 0
  have z1 : u3.cell? ⟨b5, 1, none⟩ = some (.int .u64 (v : Int)) := blk_cell (HM3.out.get 1 rfl) 1
  have heq : ∀ (V : World), (binOp .eql 95 (.agg #[.int .i64 i, .int .u64 (v : Int)]) (.agg #[.int .i64 i, .int .u64 (k : Int)])).run Tryz.prog V = .ok (.bool ((v : Int) == (k : Int))) V := fun V => by rw [eqlH]; simp
  go_wp2_with fail
  go_ret
  exact ⟨rfl, HM3.out.below⟩
end Go.Proofs.YtimcdnbfdkpffaaGreat
/- Stage 9: the landed arena's fields set; unlink. -/
namespace Go.Proofs.YtimcdnbfdkpffaaGreat
set_option maxRecDepth 100000
open Go.RowKit
theorem PX.set1 {w : World} {p g n c : Nat} {fd : Int} {fs lv S : Nat} {ha : Nat → Nat} {bf : Nat → Int} {F : Nat → Prop} (h : PX w p g n c fd fs lv S ha bf F) (v : Int) : PX (w.setCell ⟨p, 1, none⟩ (.int .i64 v)) p g n c v fs lv S ha bf F :=
  ⟨blk_set h.blk 1 _, h.row.block (Below.heap_setCell w ⟨p, 1, none⟩ _ g (Ne.symm h.ne)), h.mp, h.mg, fun k hF => by simpa using h.old k hF, h.pos⟩
theorem PX.set2 {w : World} {p g n c : Nat} {fd : Int} {fs lv S : Nat} {ha : Nat → Nat} {bf : Nat → Int} {F : Nat → Prop} (h : PX w p g n c fd fs lv S ha bf F) (v : Nat) : PX (w.setCell ⟨p, 2, none⟩ (.int .i64 (v : Int))) p g n c fd v lv S ha bf F :=
  ⟨blk_set h.blk 2 _, h.row.block (Below.heap_setCell w ⟨p, 2, none⟩ _ g (Ne.symm h.ne)), h.mp, h.mg, fun k hF => by simpa using h.old k hF, h.pos⟩
theorem PX.set3 {w : World} {p g n c : Nat} {fd : Int} {fs lv S : Nat} {ha : Nat → Nat} {bf : Nat → Int} {F : Nat → Prop} (h : PX w p g n c fd fs lv S ha bf F) (v : Nat) : PX (w.setCell ⟨p, 3, none⟩ (.int .i64 (v : Int))) p g n c fd fs v S ha bf F :=
  ⟨blk_set h.blk 3 _, h.row.block (Below.heap_setCell w ⟨p, 3, none⟩ _ g (Ne.symm h.ne)), h.mp, h.mg, fun k hF => by simpa using h.old k hF, h.pos⟩
theorem PX.set4 {w : World} {p g n c : Nat} {fd : Int} {fs lv S : Nat} {ha : Nat → Nat} {bf : Nat → Int} {F : Nat → Prop} (h : PX w p g n c fd fs lv S ha bf F) (v : Nat) : PX (w.setCell ⟨p, 4, none⟩ (.int .u64 (v : Int))) p g n c fd fs lv v ha bf F :=
  ⟨blk_set h.blk 4 _, h.row.block (Below.heap_setCell w ⟨p, 4, none⟩ _ g (Ne.symm h.ne)), h.mp, h.mg, fun k hF => by simpa using h.old k hF, h.pos⟩
theorem PX.put {w : World} {p g n c : Nat} {fd : Int} {fs lv S : Nat} {ha : Nat → Nat} {bf : Nat → Int} {F : Nat → Prop} (h : PX w p g n c fd fs lv S ha bf F) (j a : Nat) (b : Int) : PX (w.setCells g (j * 2) [.int .u64 (a : Int), .int .i64 b]) p g n c fd fs lv S (fun k => if k = j then a else ha k) (fun k => if k = j then b else bf k) F := by
  refine ⟨(other_setCells h.ne _ _ _).trans h.blk, ((h.row.set_ (j * 2) (.int .u64 (a : Int))).set_ (j * 2 + 1) (.int .i64 b)).same fun k _ => ?_, h.mp, h.mg, fun k hF => ?_, h.pos⟩
  · unfold updV pcell
    by_cases e1 : k = j * 2 + 1
    · rw [if_pos e1, if_neg (show ¬ k % 2 = 0 by omega)]
      show Value.int .i64 (if k / 2 = j then b else bf (k / 2)) = _
      rw [if_pos (by omega)]
    · rw [if_neg e1]
      by_cases e2 : k = j * 2
      · rw [if_pos e2, if_pos (show k % 2 = 0 by omega)]
        show Value.int .u64 ((if k / 2 = j then a else ha (k / 2) : Nat) : Int) = _
        rw [if_pos (by omega)]
      · rw [if_neg e2]
        by_cases e3 : k % 2 = 0
        · rw [if_pos e3, if_pos e3]
          show Value.int .u64 ((if k / 2 = j then a else ha (k / 2) : Nat) : Int) = _
          rw [if_neg (by omega)]
        · rw [if_neg e3, if_neg e3]
          show Value.int .i64 (if k / 2 = j then b else bf (k / 2)) = _
          rw [if_neg (by omega)]
  · have := h.old k hF
    have e := (below_setCells (b := g) (Nat.zero_le _) [.int .u64 (a : Int), .int .i64 b] (j * 2) w (Below.refl 0 w)).size
    omega
theorem PX.there {w : World} {p g n c : Nat} {fd : Int} {fs lv S : Nat} {ha : Nat → Nat} {bf : Nat → Int} {F : Nat → Prop} (h : PX w p g n c fd fs lv S ha bf F) {j : Nat} (hj : j < n) : w.there g (j * 2) 2 := fun k hk => by
  refine ⟨?_, h.fz _⟩
  rcases (show k = 0 ∨ k = 1 by omega) with rfl | rfl
  · rw [Nat.add_zero, h.c0 hj]
    rfl
  · rw [h.c1 hj]
    rfl
set_option maxHeartbeats 1000000 in
theorem punlink_free {w : World} {p g n c : Nat} {fd : Int} {fs lv S : Nat} {ha : Nat → Nat} {bf : Nat → Int} {F : Nat → Prop} (h : PX w p g n c fd fs lv S ha bf F) (_hn : n ≤ 65536) (i : Nat) (hi : i < n) (hf : fd = (i : Int)) :
    Calls Tryz.prog 174 #[.pointer (some ⟨p, 0, none⟩)] w fun e w' => e = .returned (.int .i64 (i : Int)) ∧ PX w' p g n c (bf i) fs lv S ha bf F ∧ Kept (fun k => k = p) w w' := by
  subst hf
  have HX := Lib.hid h
  have x0 : w.cell? ⟨p, 0, none⟩ = some (.slice (some ⟨g, 0, none⟩) n c) := blk_cell h.blk 0
  have x1 : w.cell? ⟨p, 1, none⟩ = some (.int .i64 (i : Int)) := blk_cell h.blk 1
  have y1 := blk_free h.blk 1
  have xc : w.cell? ⟨g, i * 2 + 1, none⟩ = some (.int .i64 (bf i)) := h.c1 hi
  have hne : ((i : Int) != -1) = true := by simp
  have i0 : (0 : Int) ≤ (i : Int) := by omega
  have i1 : (i : Int) < (n : Int) := by omega
  have i2 : ((i : Int)).toNat = i := by omega
  have cap := h.cap
  have cap9 := h.cap9
  clear h
  go_enter Tryz.func174, Tryz.ntmps174
  go_wp2_with fail
  go_ret
  exact ⟨rfl, HX.out.set1 _, (Kept.refl (fun k => k = p) w).setCell (p := ⟨p, 1, none⟩) (.inl rfl) _⟩
set_option maxHeartbeats 1000000 in
theorem punlink_fresh {w : World} {p g n c : Nat} {fd : Int} {fs lv S : Nat} {ha : Nat → Nat} {bf : Nat → Int} {F : Nat → Prop} (h : PX w p g n c fd fs lv S ha bf F) (hn : n ≤ 65536) (hi : fs < n) (hf : fd = -1) :
    Calls Tryz.prog 174 #[.pointer (some ⟨p, 0, none⟩)] w fun e w' => e = .returned (.int .i64 (fs : Int)) ∧ PX w' p g n c (-1) (fs + 1) lv S ha bf F ∧ Kept (fun k => k = p) w w' := by
  subst hf
  have HX := Lib.hid h
  have x1 : w.cell? ⟨p, 1, none⟩ = some (.int .i64 (-1)) := blk_cell h.blk 1
  have x2 : w.cell? ⟨p, 2, none⟩ = some (.int .i64 (fs : Int)) := blk_cell h.blk 2
  have y2 := blk_free h.blk 2
  have zw : IntKind.i64.wrap ((fs : Int) + 1) = (fs : Int) + 1 := by rw [IntKind.wrap_i64]; omega
  have zw2 : IntKind.i64.wrap ((fs : Int) + 1 - 1) = (fs : Int) := by rw [IntKind.wrap_i64]; omega
  have zw3 : IntKind.i64.wrap (fs : Int) = (fs : Int) := by rw [IntKind.wrap_i64]; omega
  have HX2 : Hid (PX (w.setCell ⟨p, 2, none⟩ (.int .i64 ((fs : Int) + 1))) p g n c (-1) (fs + 1) lv S ha bf F) := Lib.hid (by
    have := h.set2 (fs + 1)
    rwa [show ((fs + 1 : Nat) : Int) = (fs : Int) + 1 by omega] at this)
  have x22 : (w.setCell ⟨p, 2, none⟩ (.int .i64 ((fs : Int) + 1))).cell? ⟨p, 2, none⟩ = some (.int .i64 ((fs : Int) + 1)) := by
    have := blk_cell HX2.out.blk 2
    exact this
  clear h
  go_enter Tryz.func174, Tryz.ntmps174
  go_wp2_with fail
  go_ret
  exact ⟨rfl, HX2.out, (Kept.refl (fun k => k = p) w).setCell (p := ⟨p, 2, none⟩) (.inl rfl) _⟩
end Go.Proofs.YtimcdnbfdkpffaaGreat
