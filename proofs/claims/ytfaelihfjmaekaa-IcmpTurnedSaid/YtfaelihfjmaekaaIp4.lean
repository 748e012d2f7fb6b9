/- IcmpTurned, walked (IPv4). -/
import Derived.Test.YtfaelihfjmaekaaIo
namespace Go.Proofs.Ytfaelihfjmaekaa
open Go.RowKit
set_option maxRecDepth 100000 in
set_option maxHeartbeats 4000000 in
theorem turned_t4 (pr : Int) (s d : Nat → Int) (sp dp : Int) (hs : Byt s) (hd : Byt d) (h1 : 0 ≤ sp ∧ sp ≤ 65535) (h2 : 0 ≤ dp ∧ dp ≤ 65535) (h : Nat → Int) (hh : Byt h) (w : World) :
    Calls Try.prog 5 #[.agg (tupc false pr s d sp dp), .bool true, .agg (arr20 h)] w fun e w' => e = .returned (.bool true) ∧ Below w.heap.size w w' := by
  obtain ⟨i0, hi0, hz0, hz1, hz2⟩ := info_parts Try.info5
  have HI0 := Lib.hid hi0
  have HZ0 := Lib.hid hz0
  have HZ1 := Lib.hid hz1
  have HZ2 := Lib.hid hz2
  clear hi0 hz0 hz1 hz2
  have KN := Lib.hid known_any
  have HI36 := Lib.hid (show (Try.prog.info? 27).map (·.size) = some 36 by kernel_rfl)
  have HS := Lib.hid hs
  have HD := Lib.hid hd
  have HH := Lib.hid hh
  clear hs hd hh
  have e1 : (w.alloc (.cells (tupc false pr s d sp dp) 27)).heap.size = w.heap.size + 1 := by simp
  have HM1 : Hid (Mem w ((w.alloc (.cells (tupc false pr s d sp dp) 27)).alloc (.cells (arr20 h) 41)) [(w.heap.size, .cells (tupc false pr s d sp dp) 27 (0, 0)), (w.heap.size + 1, .cells (arr20 h) 41 (0, 0))]) := Lib.hid (((Mem.nil w).alloc (.cells (tupc false pr s d sp dp) 27)).new (.cells (arr20 h) 41) (w.heap.size + 1) e1.symm)
  clear e1
  go_enter Try.func5, Try.ntmps5
  go_upto_region 1 with fail
  change Code.wp _ _ _ _ ((w.alloc (.cells (tupc false pr s d sp dp) 27)).alloc (.cells (arr20 h) 41))
  generalize (w.alloc (.cells (tupc false pr s d sp dp) 27)).alloc (.cells (arr20 h) 41) = u1 at *
  have x1 : u1.cell? ⟨w.heap.size, 1, none⟩ = some (.int .u8 pr) := blk_cell (HM1.out.get 0 rfl) 1
  have y1 := blk_free (HM1.out.get 0 rfl) 1
  go_upto_region 5 with fail
  have HM2 : Hid (Mem w ((u1.setCell ⟨w.heap.size, 1, none⟩ (.int .u8 17)).setCell ⟨w.heap.size, 1, none⟩ (.int .u8 6)) [(w.heap.size, .cells (tupc false 6 s d sp dp) 27 (0, 0)), (w.heap.size + 1, .cells (arr20 h) 41 (0, 0))]) := Lib.hid ((HM1.out.set 0 rfl 1 (.int .u8 17)).set 0 rfl 1 (.int .u8 6))
  clear x1 y1 HM1
  generalize (u1.setCell ⟨w.heap.size, 1, none⟩ (.int .u8 17)).setCell ⟨w.heap.size, 1, none⟩ (.int .u8 6) = u2 at *
  have x0 : u2.cell? ⟨w.heap.size, 0, none⟩ = some (.bool false) := blk_cell (HM2.out.get 0 rfl) 0
  have x1 : u2.cell? ⟨w.heap.size, 1, none⟩ = some (.int .u8 6) := blk_cell (HM2.out.get 0 rfl) 1
  have x34 : u2.cell? ⟨w.heap.size, 34, none⟩ = some (.int .u16 sp) := blk_cell (HM2.out.get 0 rfl) 34
  have x35 : u2.cell? ⟨w.heap.size, 35, none⟩ = some (.int .u16 dp) := blk_cell (HM2.out.get 0 rfl) 35
  have HN : Hid ((u2.alloc (.cells tupz 27)).heap[u2.heap.size]? = some (.cells tupz 27 (0, 0))) := heap_alloc_new u2 _
  go_upto_region 6 with (first
    | (refine wpList_load_mid rfl 22 (.tmp 21) rfl w.heap.size 18 rfl (arr16 d).toList _ (blk_range (HM2.out.get 0 rfl) (fun k hk => tup_dsts _ _ _ _ _ _ k hk)) Try.underlying22 rfl (by kernel_rfl) ?_)
    | (refine wpList_load_mid rfl 22 (.tmp 23) rfl w.heap.size 2 rfl (arr16 s).toList _ (blk_range (HM2.out.get 0 rfl) (fun k hk => tup_srcs _ _ _ _ _ _ k hk)) Try.underlying22 rfl (by kernel_rfl) ?_)
    | (refine wpList_tup rfl (.tmp 18) (.tmp 20) (.tmp 22) (.tmp 24) (.tmp 26) (.tmp 28) rfl false 6 d s dp sp rfl rfl rfl rfl rfl rfl ?_)
    | (refine wpList_store_row rfl 27 (.tmp 8) (.tmp 29) rfl u2.heap.size (tupc false 6 d s dp sp) rfl rfl 27 tupz HN.out (by kernel_rfl) rfl (tup_one ..) ?_))
  change Code.wp _ _ _ _ ((u2.alloc (.cells tupz 27)).setRow u2.heap.size (tupc false 6 d s dp sp))
  obtain ⟨q8, hq⟩ : ∃ q, q = u2.heap.size := ⟨_, rfl⟩
  have HM3 : Hid (Mem w ((u2.alloc (.cells tupz 27)).setRow q8 (tupc false 6 d s dp sp)) [(w.heap.size, .cells (tupc false 6 s d sp dp) 27 (0, 0)), (w.heap.size + 1, .cells (arr20 h) 41 (0, 0)), (q8, .cells (tupc false 6 d s dp sp) 27 (0, 0))]) := Lib.hid ((HM2.out.new (.cells tupz 27) q8 hq).row 2 rfl (tupc false 6 d s dp sp))
  rw [← hq]
  clear hq HN HM2 x0 x1 x34 x35
  generalize (u2.alloc (.cells tupz 27)).setRow q8 (tupc false 6 d s dp sp) = u3 at *
  have x0 : u3.cell? ⟨w.heap.size, 0, none⟩ = some (.bool false) := blk_cell (HM3.out.get 0 rfl) 0
  obtain ⟨X, hX, hX32, hX0, hX1⟩ := and224 (HH.out 6)
  have HX32 := Lib.hid hX32
  have HXb := Lib.hid (show 0 ≤ X ∧ X ≤ 255 from ⟨hX0, hX1⟩)
  clear hX32 hX0 hX1
  have b6 : u3.cell? ⟨w.heap.size + 1, 6, none⟩ = some (.int .u8 (h 6)) := blk_cell (HM3.out.get 1 rfl) 6
  have b0 : u3.cell? ⟨w.heap.size + 1, 0, none⟩ = some (.int .u8 (h 0)) := blk_cell (HM3.out.get 1 rfl) 0
  have b7 : u3.cell? ⟨w.heap.size + 1, 7, none⟩ = some (.int .u8 (h 7)) := blk_cell (HM3.out.get 1 rfl) 7
  have b9 : u3.cell? ⟨w.heap.size + 1, 9, none⟩ = some (.int .u8 (h 9)) := blk_cell (HM3.out.get 1 rfl) 9
  have f0 := blk_free (HM3.out.get 1 rfl) 0
  have f6 := blk_free (HM3.out.get 1 rfl) 6
  have f7 := blk_free (HM3.out.get 1 rfl) 7
  have f9 := blk_free (HM3.out.get 1 rfl) 9
  have x1 : u3.cell? ⟨w.heap.size, 1, none⟩ = some (.int .u8 6) := blk_cell (HM3.out.get 0 rfl) 1
  go_upto_region 9 with fail
  have e4 : ((((arr20 h).setIfInBounds 0 (.int .u8 69)).setIfInBounds 6 (.int .u8 X)).setIfInBounds 7 (.int .u8 0)).setIfInBounds 9 (.int .u8 6) = (arr20 (fun k => if k = 0 then 69 else if k = 6 then X else if k = 7 then 0 else if k = 9 then 6 else h k)) := by kernel_rfl
  have HM4 : Hid (Mem w ((((u3.setCell ⟨w.heap.size + 1, 0, none⟩ (.int .u8 69)).setCell ⟨w.heap.size + 1, 6, none⟩ (.int .u8 X)).setCell ⟨w.heap.size + 1, 7, none⟩ (.int .u8 0)).setCell ⟨w.heap.size + 1, 9, none⟩ (.int .u8 6)) [(w.heap.size, .cells (tupc false 6 s d sp dp) 27 (0, 0)), (w.heap.size + 1, .cells (arr20 (fun k => if k = 0 then 69 else if k = 6 then X else if k = 7 then 0 else if k = 9 then 6 else h k)) 41 (0, 0)), (q8, .cells (tupc false 6 d s dp sp) 27 (0, 0))]) := Lib.hid (by
    have q := (((HM3.out.set 1 rfl 0 (.int .u8 69)).set 1 rfl 6 (.int .u8 X)).set 1 rfl 7 (.int .u8 0)).set 1 rfl 9 (.int .u8 6)
    rw [e4] at q
    exact q)
  clear hX b6 b0 b7 b9 f0 f6 f7 f9 x1 x0 e4 HM3
  generalize (((u3.setCell ⟨w.heap.size + 1, 0, none⟩ (.int .u8 69)).setCell ⟨w.heap.size + 1, 6, none⟩ (.int .u8 X)).setCell ⟨w.heap.size + 1, 7, none⟩ (.int .u8 0)).setCell ⟨w.heap.size + 1, 9, none⟩ (.int .u8 6) = u4 at *
  have HRs : Hid (Rd u4.drew u4.drew.heap.size (some ⟨w.heap.size, 2, none⟩) 4 s) := Lib.hid (blk_rd (HM4.out.drew.get 0 rfl) (lt_heap (HM4.out.drew.get 0 rfl)) (i := 2) (fun k hk => tup_srcs _ _ _ _ _ _ k (by omega)))
  go_region_held3 (fun _ => True) (trivial)
    (first
    | (refine step_copy_row rfl (.tmp 67) (.tmp 69) _ rfl 5 Try.underlying23 (by kernel_rfl) (HM4.out.drew.get 1 rfl) rfl rfl HRs.out 4 (by omega) (by omega) (by show 12 + 4 ≤ 20; omega) (arr20 (fun k => if k = 0 then 69 else if k = 6 then X else if k = 7 then 0 else if k = 9 then 6 else if k < 12 then h k else if k < 16 then s (k - 12) else h k)) (by kernel_rfl) ?_))
  have HM5 : Hid (Mem w (u4.drew.setRow (w.heap.size + 1) (arr20 (fun k => if k = 0 then 69 else if k = 6 then X else if k = 7 then 0 else if k = 9 then 6 else if k < 12 then h k else if k < 16 then s (k - 12) else h k))) [(w.heap.size, .cells (tupc false 6 s d sp dp) 27 (0, 0)), (w.heap.size + 1, .cells (arr20 (fun k => if k = 0 then 69 else if k = 6 then X else if k = 7 then 0 else if k = 9 then 6 else if k < 12 then h k else if k < 16 then s (k - 12) else h k)) 41 (0, 0)), (q8, .cells (tupc false 6 d s dp sp) 27 (0, 0))]) := Lib.hid (HM4.out.drew.row 1 rfl (arr20 (fun k => if k = 0 then 69 else if k = 6 then X else if k = 7 then 0 else if k = 9 then 6 else if k < 12 then h k else if k < 16 then s (k - 12) else h k)))
  clear HM4 HRs
  generalize u4.drew.setRow (w.heap.size + 1) (arr20 (fun k => if k = 0 then 69 else if k = 6 then X else if k = 7 then 0 else if k = 9 then 6 else if k < 12 then h k else if k < 16 then s (k - 12) else h k)) = u5 at *
  have HRd : Hid (Rd u5.drew u5.drew.heap.size (some ⟨w.heap.size, 18, none⟩) 4 d) := Lib.hid (blk_rd (HM5.out.drew.get 0 rfl) (lt_heap (HM5.out.drew.get 0 rfl)) (i := 18) (fun k hk => tup_dsts _ _ _ _ _ _ k (by omega)))
  go_upto_region 10 with fail
  go_region_held3 (fun _ => True) (trivial)
    (first
    | (refine step_copy_row rfl (.tmp 72) (.tmp 74) _ rfl 5 Try.underlying23 (by kernel_rfl) (HM5.out.drew.get 1 rfl) rfl rfl HRd.out 4 (by omega) (by omega) (by show 16 + 4 ≤ 20; omega) (arr20 (hd20 6 X h s d)) (by kernel_rfl) ?_))
  have HM6a : Hid (Mem w (u5.drew.setRow (w.heap.size + 1) (arr20 (hd20 6 X h s d))) [(w.heap.size, .cells (tupc false 6 s d sp dp) 27 (0, 0)), (w.heap.size + 1, .cells (arr20 (hd20 6 X h s d)) 41 (0, 0)), (q8, .cells (tupc false 6 d s dp sp) 27 (0, 0))]) := Lib.hid (HM5.out.drew.row 1 rfl (arr20 (hd20 6 X h s d)))
  clear HM5 HRd
  generalize u5.drew.setRow (w.heap.size + 1) (arr20 (hd20 6 X h s d)) = u6a at *
  go_upto_region 12 with (first
    | (refine wpList_clear rfl (.tmp 77) _ rfl 5 Try.underlying23 (fun _ => by kernel_rfl) q8 6 12 12 (by omega) rfl (blk_there (HM6a.out.get 2 rfl) (by show 6 + 12 ≤ 36; omega)) ?_))
  have e7 : laid (tupc false 6 d s dp sp) 6 (List.replicate 12 (.int .u8 0)) = tupc false 6 (low4 d) s dp sp := by kernel_rfl
  have HM7a : Hid (Mem w (u6a.setCells q8 6 (List.replicate 12 (.int .u8 0))) [(w.heap.size, .cells (tupc false 6 s d sp dp) 27 (0, 0)), (w.heap.size + 1, .cells (arr20 (hd20 6 X h s d)) 41 (0, 0)), (q8, .cells (tupc false 6 (low4 d) s dp sp) 27 (0, 0))]) := Lib.hid (by
    have q := HM6a.out.cells 2 rfl 6 (List.replicate 12 (.int .u8 0))
    rw [e7] at q
    exact q)
  clear HM6a e7
  generalize u6a.setCells q8 6 (List.replicate 12 (.int .u8 0)) = u7a at *
  go_upto_region 13 with (first
    | (refine wpList_clear rfl (.tmp 79) _ rfl 5 Try.underlying23 (fun _ => by kernel_rfl) q8 22 12 12 (by omega) rfl (blk_there (HM7a.out.get 2 rfl) (by show 22 + 12 ≤ 36; omega)) ?_))
  have e8 : laid (tupc false 6 (low4 d) s dp sp) 22 (List.replicate 12 (.int .u8 0)) = tupc false 6 (low4 d) (low4 s) dp sp := by kernel_rfl
  have HM8a : Hid (Mem w (u7a.setCells q8 22 (List.replicate 12 (.int .u8 0))) [(w.heap.size, .cells (tupc false 6 s d sp dp) 27 (0, 0)), (w.heap.size + 1, .cells (arr20 (hd20 6 X h s d)) 41 (0, 0)), (q8, .cells (tupc false 6 (low4 d) (low4 s) dp sp) 27 (0, 0))]) := Lib.hid (by
    have q := HM7a.out.cells 2 rfl 22 (List.replicate 12 (.int .u8 0))
    rw [e8] at q
    exact q)
  clear HM7a e8
  generalize u7a.setCells q8 22 (List.replicate 12 (.int .u8 0)) = u5 at *
  have x34 : u5.cell? ⟨w.heap.size, 34, none⟩ = some (.int .u16 sp) := blk_cell (HM8a.out.get 0 rfl) 34
  have x35 : u5.cell? ⟨w.heap.size, 35, none⟩ = some (.int .u16 dp) := blk_cell (HM8a.out.get 0 rfl) 35
  have z1 : IntKind.u8.wrap (sp / 256) = sp / 256 := by rw [IntKind.wrap_u8']; omega
  have z2 : IntKind.u8.wrap sp = sp % 256 := by rw [IntKind.wrap_u8']
  have z3 : IntKind.u8.wrap (dp / 256) = dp / 256 := by rw [IntKind.wrap_u8']; omega
  have z4 : IntKind.u8.wrap dp = dp % 256 := by rw [IntKind.wrap_u8']
  have HR6 : Hid (Rd (u5.alloc (.cells #[.int .u8 (sp / 256), .int .u8 (sp % 256), .int .u8 (dp / 256), .int .u8 (dp % 256), .int .u8 1, .int .u8 2, .int .u8 3, .int .u8 4] 5)) (u5.alloc (.cells #[.int .u8 (sp / 256), .int .u8 (sp % 256), .int .u8 (dp / 256), .int .u8 (dp % 256), .int .u8 1, .int .u8 2, .int .u8 3, .int .u8 4] 5)).heap.size (some ⟨u5.heap.size, 0, none⟩) 8 (tl8 sp dp)) := Lib.hid (blk_rd (heap_alloc_new u5 _) (lt_heap (heap_alloc_new u5 _)) (i := 0) fun k hk => by
    rw [Nat.zero_add]
    match k, hk with
    | 0, _ => rfl
    | 1, _ => rfl
    | 2, _ => rfl
    | 3, _ => rfl
    | 4, _ => rfl
    | 5, _ => rfl
    | 6, _ => rfl
    | 7, _ => rfl
    )
  have HM9 := Lib.hid (HM8a.out.step (below_alloc u5 (.cells #[.int .u8 (sp / 256), .int .u8 (sp % 256), .int .u8 (dp / 256), .int .u8 (dp % 256), .int .u8 1, .int .u8 2, .int .u8 3, .int .u8 4] 5)))
  have HR5 : Hid (Rd (u5.alloc (.cells #[.int .u8 (sp / 256), .int .u8 (sp % 256), .int .u8 (dp / 256), .int .u8 (dp % 256), .int .u8 1, .int .u8 2, .int .u8 3, .int .u8 4] 5)) (u5.alloc (.cells #[.int .u8 (sp / 256), .int .u8 (sp % 256), .int .u8 (dp / 256), .int .u8 (dp % 256), .int .u8 1, .int .u8 2, .int .u8 3, .int .u8 4] 5)).heap.size (some ⟨w.heap.size + 1, 0, none⟩) 20 (hd20 6 X h s d)) := Lib.hid (blk_rd (HM9.out.get 1 rfl) (lt_heap (HM9.out.get 1 rfl)) (i := 0) (fun k hk => arr20_get _ k hk))
  go_upto_region 14 with (first
    | (at_builtin
       refine wpList_append_onto rfl (.tmp 80) (.tmp 95) _ rfl 5 i0 Try.underlying23 HI0.out HZ0.out HZ1.out HZ2.out rfl HR5.out (by omega) rfl HR6.out (by omega) (by omega) ?_
       intro A6 c6 u6 hown6 hb6
       have HM6 := Lib.hid (HM9.out.step hb6)
       have HO6 := Lib.hid hown6
       clear hown6 hb6))
  clear HM8a HM9 HR5 HR6 x34 x35 z1 z2 z3 z4
  have HF6 : Hid (Rd u6 u6.heap.size A6 28 (bts4 6 X h s d sp dp)) := HO6.out.rd
  have hc6 := HO6.out.cap
  have hc69 := HO6.out.cap_le
  clear HO6
  have HBY : Hid (Byt (bts4 6 X h s d sp dp)) := cat_byt 20 (hd20_byt ⟨by omega, by omega⟩ HXb.out HH.out HS.out HD.out) (tl8_byt h1 h2)
  obtain ⟨k1, k2, k3⟩ := turn4_flow 6 X (by decide) HX32.out h s d sp dp h1 h2
  generalize (bts4 6 X h s d sp dp) = FF at *
  obtain ⟨CT, hCT⟩ : ∃ C, C = wT false FF 28 := ⟨_, rfl⟩
  obtain ⟨CN, hCN⟩ : ∃ C, C = wT true FF 28 := ⟨_, rfl⟩
  have HSZT : Hid (CT.size = 36) := Lib.hid (by rw [hCT]; exact wT_size ..)
  have HOT : Hid (CT.all (·.oneCell') = true) := Lib.hid (by rw [hCT]; exact wT_one ..)
  have HSZN : Hid (CN.size = 36) := Lib.hid (by rw [hCN]; exact wT_size ..)
  have HON : Hid (CN.all (·.oneCell') = true) := Lib.hid (by rw [hCN]; exact wT_one ..)
  have HCT : Hid (CT = tupc false 6 (low4 d) (low4 s) dp sp) := Lib.hid (hCT.trans k3)
  have HW1 : Hid (∀ W, Rd W W.heap.size A6 28 FF → Calls Try.prog 7 #[.bool false, .slice A6 28 c6] W fun e w' => e = .returned (.tuple #[.agg CT, .int .i64 0]) ∧ Below W.heap.size W w') := Lib.hid fun W hr => by
    have q := within_any false A6 28 c6 FF HBY.out (by omega) hc6 hc69 W hr
    unfold WiOut at q
    rw [k1, ← hCT] at q
    exact q
  have HW2 : Hid (∀ W, Rd W W.heap.size A6 28 FF → Calls Try.prog 7 #[.bool true, .slice A6 28 c6] W fun e w' => e = .returned (.tuple #[.agg CN, .int .i64 4]) ∧ Below W.heap.size W w') := Lib.hid fun W hr => by
    have q := within_any true A6 28 c6 FF HBY.out (by omega) hc6 hc69 W hr
    unfold WiOut at q
    rw [k2, ← hCN] at q
    exact q
  clear k1 k2 k3 hCT hCN HBY h1 h2
  have x0 : u6.cell? ⟨w.heap.size, 0, none⟩ = some (.bool false) := blk_cell (HM6.out.get 0 rfl) 0
  go_wp2_with fail
  go_at_call 7
  refine (HW1.out u6 HF6.out).mono ?_
  rintro e u7 ⟨rfl, hb7⟩
  have HM7 := Lib.hid (HM6.out.step hb7)
  have HF7 := Lib.hid ((HF6.out.keep hb7).more hb7.size)
  clear hb7 HM6 HF6 x0 HW1
  have HN : Hid ((u7.alloc (.cells tupz 27)).heap[u7.heap.size]? = some (.cells tupz 27 (0, 0))) := heap_alloc_new u7 _
  go_upto_region 15 with (first
    | (refine wpList_store_row rfl 27 (.tmp 9) (.tmp 102) rfl u7.heap.size CT rfl rfl 27 tupz HN.out (HI36.out.trans (by rw [HSZT.out])) (by rw [HSZT.out]; rfl) HOT.out ?_))
  change Code.wp _ _ _ _ ((u7.alloc (.cells tupz 27)).setRow u7.heap.size CT)
  have HF8 : Hid (Rd ((u7.alloc (.cells tupz 27)).setRow u7.heap.size CT) ((u7.alloc (.cells tupz 27)).setRow u7.heap.size CT).heap.size A6 28 FF) := Lib.hid (by
    have hb := below_setRow (below_alloc u7 (.cells tupz 27)) (Nat.le_refl _) CT
    exact (HF7.out.keep hb).more hb.size)
  obtain ⟨q9, hq⟩ : ∃ q, q = u7.heap.size := ⟨_, rfl⟩
  have HM8 := Lib.hid ((HM7.out.new (.cells tupz 27) q9 hq).row 3 rfl CT)
  rw [← hq] at HF8 ⊢
  clear hq HN HM7 HF7
  generalize (u7.alloc (.cells tupz 27)).setRow q9 CT = u8 at *
  have x0 : u8.cell? ⟨w.heap.size, 0, none⟩ = some (.bool false) := blk_cell (HM8.out.get 0 rfl) 0
  go_wp2_with fail
  go_at_call 7
  refine (HW2.out u8 HF8.out).mono ?_
  rintro e u9 ⟨rfl, hb9⟩
  have HM9 := Lib.hid (HM8.out.step hb9)
  clear hb9 HM8 HF8 x0 HW2
  have HN : Hid ((u9.alloc (.cells tupz 27)).heap[u9.heap.size]? = some (.cells tupz 27 (0, 0))) := heap_alloc_new u9 _
  go_upto_region 16 with (first
    | (refine wpList_store_row rfl 27 (.tmp 11) (.tmp 110) rfl u9.heap.size CN rfl rfl 27 tupz HN.out (HI36.out.trans (by rw [HSZN.out])) (by rw [HSZN.out]; rfl) HON.out ?_))
  change Code.wp _ _ _ _ ((u9.alloc (.cells tupz 27)).setRow u9.heap.size CN)
  have HMA := Lib.hid ((HM9.out.new (.cells tupz 27) u9.heap.size rfl).row 4 rfl CN)
  clear HN HM9
  generalize (u9.alloc (.cells tupz 27)).setRow u9.heap.size CN = u10 at *
  have heq : ∀ W, (Op.equalIn 10000 27 (.agg CT) (.agg (tupc false 6 (low4 d) (low4 s) dp sp))).run Try.prog W = .ok true W := fun W => by
    rw [HCT.out]
    exact eqT ..
  go_wp2_with (first
    | (refine wpList_load_roww rfl 27 (.tmp 9) rfl q9 rfl 27 CT (0, 0) _ (HMA.out.get 3 rfl) Try.underlying27 rfl (HI36.out.trans (by rw [HSZT.out])) ?_)
    | (refine wpList_load_roww rfl 27 (.tmp 8) rfl q8 rfl 27 (tupc false 6 (low4 d) (low4 s) dp sp) (0, 0) _ (HMA.out.get 2 rfl) Try.underlying27 rfl (by kernel_rfl) ?_)
    | (go_at_call 6; refine (KN.out _).mono ?_; rintro e u11 ⟨rfl, hb11⟩))
  go_ret
  exact ⟨rfl, HMA.out.below.trans (hb11.mono HMA.out.below.size)⟩
set_option maxRecDepth 100000 in
set_option maxHeartbeats 4000000 in
theorem turned_u4 (pr : Int) (s d : Nat → Int) (sp dp : Int) (hs : Byt s) (hd : Byt d) (h1 : 0 ≤ sp ∧ sp ≤ 65535) (h2 : 0 ≤ dp ∧ dp ≤ 65535) (h : Nat → Int) (hh : Byt h) (w : World) :
    Calls Try.prog 5 #[.agg (tupc false pr s d sp dp), .bool false, .agg (arr20 h)] w fun e w' => e = .returned (.bool true) ∧ Below w.heap.size w w' := by
  obtain ⟨i0, hi0, hz0, hz1, hz2⟩ := info_parts Try.info5
  have HI0 := Lib.hid hi0
  have HZ0 := Lib.hid hz0
  have HZ1 := Lib.hid hz1
  have HZ2 := Lib.hid hz2
  clear hi0 hz0 hz1 hz2
  have KN := Lib.hid known_any
  have HI36 := Lib.hid (show (Try.prog.info? 27).map (·.size) = some 36 by kernel_rfl)
  have HS := Lib.hid hs
  have HD := Lib.hid hd
  have HH := Lib.hid hh
  clear hs hd hh
  have e1 : (w.alloc (.cells (tupc false pr s d sp dp) 27)).heap.size = w.heap.size + 1 := by simp
  have HM1 : Hid (Mem w ((w.alloc (.cells (tupc false pr s d sp dp) 27)).alloc (.cells (arr20 h) 41)) [(w.heap.size, .cells (tupc false pr s d sp dp) 27 (0, 0)), (w.heap.size + 1, .cells (arr20 h) 41 (0, 0))]) := Lib.hid (((Mem.nil w).alloc (.cells (tupc false pr s d sp dp) 27)).new (.cells (arr20 h) 41) (w.heap.size + 1) e1.symm)
  clear e1
  go_enter Try.func5, Try.ntmps5
  go_upto_region 1 with fail
  change Code.wp _ _ _ _ ((w.alloc (.cells (tupc false pr s d sp dp) 27)).alloc (.cells (arr20 h) 41))
  generalize (w.alloc (.cells (tupc false pr s d sp dp) 27)).alloc (.cells (arr20 h) 41) = u1 at *
  have x1 : u1.cell? ⟨w.heap.size, 1, none⟩ = some (.int .u8 pr) := blk_cell (HM1.out.get 0 rfl) 1
  have y1 := blk_free (HM1.out.get 0 rfl) 1
  go_upto_region 5 with fail
  have HM2 : Hid (Mem w (u1.setCell ⟨w.heap.size, 1, none⟩ (.int .u8 17)) [(w.heap.size, .cells (tupc false 17 s d sp dp) 27 (0, 0)), (w.heap.size + 1, .cells (arr20 h) 41 (0, 0))]) := Lib.hid (HM1.out.set 0 rfl 1 (.int .u8 17))
  clear x1 y1 HM1
  generalize u1.setCell ⟨w.heap.size, 1, none⟩ (.int .u8 17) = u2 at *
  have x0 : u2.cell? ⟨w.heap.size, 0, none⟩ = some (.bool false) := blk_cell (HM2.out.get 0 rfl) 0
  have x1 : u2.cell? ⟨w.heap.size, 1, none⟩ = some (.int .u8 17) := blk_cell (HM2.out.get 0 rfl) 1
  have x34 : u2.cell? ⟨w.heap.size, 34, none⟩ = some (.int .u16 sp) := blk_cell (HM2.out.get 0 rfl) 34
  have x35 : u2.cell? ⟨w.heap.size, 35, none⟩ = some (.int .u16 dp) := blk_cell (HM2.out.get 0 rfl) 35
  have HN : Hid ((u2.alloc (.cells tupz 27)).heap[u2.heap.size]? = some (.cells tupz 27 (0, 0))) := heap_alloc_new u2 _
  go_upto_region 6 with (first
    | (refine wpList_load_mid rfl 22 (.tmp 21) rfl w.heap.size 18 rfl (arr16 d).toList _ (blk_range (HM2.out.get 0 rfl) (fun k hk => tup_dsts _ _ _ _ _ _ k hk)) Try.underlying22 rfl (by kernel_rfl) ?_)
    | (refine wpList_load_mid rfl 22 (.tmp 23) rfl w.heap.size 2 rfl (arr16 s).toList _ (blk_range (HM2.out.get 0 rfl) (fun k hk => tup_srcs _ _ _ _ _ _ k hk)) Try.underlying22 rfl (by kernel_rfl) ?_)
    | (refine wpList_tup rfl (.tmp 18) (.tmp 20) (.tmp 22) (.tmp 24) (.tmp 26) (.tmp 28) rfl false 17 d s dp sp rfl rfl rfl rfl rfl rfl ?_)
    | (refine wpList_store_row rfl 27 (.tmp 8) (.tmp 29) rfl u2.heap.size (tupc false 17 d s dp sp) rfl rfl 27 tupz HN.out (by kernel_rfl) rfl (tup_one ..) ?_))
  change Code.wp _ _ _ _ ((u2.alloc (.cells tupz 27)).setRow u2.heap.size (tupc false 17 d s dp sp))
  obtain ⟨q8, hq⟩ : ∃ q, q = u2.heap.size := ⟨_, rfl⟩
  have HM3 : Hid (Mem w ((u2.alloc (.cells tupz 27)).setRow q8 (tupc false 17 d s dp sp)) [(w.heap.size, .cells (tupc false 17 s d sp dp) 27 (0, 0)), (w.heap.size + 1, .cells (arr20 h) 41 (0, 0)), (q8, .cells (tupc false 17 d s dp sp) 27 (0, 0))]) := Lib.hid ((HM2.out.new (.cells tupz 27) q8 hq).row 2 rfl (tupc false 17 d s dp sp))
  rw [← hq]
  clear hq HN HM2 x0 x1 x34 x35
  generalize (u2.alloc (.cells tupz 27)).setRow q8 (tupc false 17 d s dp sp) = u3 at *
  have x0 : u3.cell? ⟨w.heap.size, 0, none⟩ = some (.bool false) := blk_cell (HM3.out.get 0 rfl) 0
  obtain ⟨X, hX, hX32, hX0, hX1⟩ := and224 (HH.out 6)
  have HX32 := Lib.hid hX32
  have HXb := Lib.hid (show 0 ≤ X ∧ X ≤ 255 from ⟨hX0, hX1⟩)
  clear hX32 hX0 hX1
  have b6 : u3.cell? ⟨w.heap.size + 1, 6, none⟩ = some (.int .u8 (h 6)) := blk_cell (HM3.out.get 1 rfl) 6
  have b0 : u3.cell? ⟨w.heap.size + 1, 0, none⟩ = some (.int .u8 (h 0)) := blk_cell (HM3.out.get 1 rfl) 0
  have b7 : u3.cell? ⟨w.heap.size + 1, 7, none⟩ = some (.int .u8 (h 7)) := blk_cell (HM3.out.get 1 rfl) 7
  have b9 : u3.cell? ⟨w.heap.size + 1, 9, none⟩ = some (.int .u8 (h 9)) := blk_cell (HM3.out.get 1 rfl) 9
  have f0 := blk_free (HM3.out.get 1 rfl) 0
  have f6 := blk_free (HM3.out.get 1 rfl) 6
  have f7 := blk_free (HM3.out.get 1 rfl) 7
  have f9 := blk_free (HM3.out.get 1 rfl) 9
  have x1 : u3.cell? ⟨w.heap.size, 1, none⟩ = some (.int .u8 17) := blk_cell (HM3.out.get 0 rfl) 1
  go_upto_region 9 with fail
  have e4 : ((((arr20 h).setIfInBounds 0 (.int .u8 69)).setIfInBounds 6 (.int .u8 X)).setIfInBounds 7 (.int .u8 0)).setIfInBounds 9 (.int .u8 17) = (arr20 (fun k => if k = 0 then 69 else if k = 6 then X else if k = 7 then 0 else if k = 9 then 17 else h k)) := by kernel_rfl
  have HM4 : Hid (Mem w ((((u3.setCell ⟨w.heap.size + 1, 0, none⟩ (.int .u8 69)).setCell ⟨w.heap.size + 1, 6, none⟩ (.int .u8 X)).setCell ⟨w.heap.size + 1, 7, none⟩ (.int .u8 0)).setCell ⟨w.heap.size + 1, 9, none⟩ (.int .u8 17)) [(w.heap.size, .cells (tupc false 17 s d sp dp) 27 (0, 0)), (w.heap.size + 1, .cells (arr20 (fun k => if k = 0 then 69 else if k = 6 then X else if k = 7 then 0 else if k = 9 then 17 else h k)) 41 (0, 0)), (q8, .cells (tupc false 17 d s dp sp) 27 (0, 0))]) := Lib.hid (by
    have q := (((HM3.out.set 1 rfl 0 (.int .u8 69)).set 1 rfl 6 (.int .u8 X)).set 1 rfl 7 (.int .u8 0)).set 1 rfl 9 (.int .u8 17)
    rw [e4] at q
    exact q)
  clear hX b6 b0 b7 b9 f0 f6 f7 f9 x1 x0 e4 HM3
  generalize (((u3.setCell ⟨w.heap.size + 1, 0, none⟩ (.int .u8 69)).setCell ⟨w.heap.size + 1, 6, none⟩ (.int .u8 X)).setCell ⟨w.heap.size + 1, 7, none⟩ (.int .u8 0)).setCell ⟨w.heap.size + 1, 9, none⟩ (.int .u8 17) = u4 at *
  have HRs : Hid (Rd u4.drew u4.drew.heap.size (some ⟨w.heap.size, 2, none⟩) 4 s) := Lib.hid (blk_rd (HM4.out.drew.get 0 rfl) (lt_heap (HM4.out.drew.get 0 rfl)) (i := 2) (fun k hk => tup_srcs _ _ _ _ _ _ k (by omega)))
  go_region_held3 (fun _ => True) (trivial)
    (first
    | (refine step_copy_row rfl (.tmp 67) (.tmp 69) _ rfl 5 Try.underlying23 (by kernel_rfl) (HM4.out.drew.get 1 rfl) rfl rfl HRs.out 4 (by omega) (by omega) (by show 12 + 4 ≤ 20; omega) (arr20 (fun k => if k = 0 then 69 else if k = 6 then X else if k = 7 then 0 else if k = 9 then 17 else if k < 12 then h k else if k < 16 then s (k - 12) else h k)) (by kernel_rfl) ?_))
  have HM5 : Hid (Mem w (u4.drew.setRow (w.heap.size + 1) (arr20 (fun k => if k = 0 then 69 else if k = 6 then X else if k = 7 then 0 else if k = 9 then 17 else if k < 12 then h k else if k < 16 then s (k - 12) else h k))) [(w.heap.size, .cells (tupc false 17 s d sp dp) 27 (0, 0)), (w.heap.size + 1, .cells (arr20 (fun k => if k = 0 then 69 else if k = 6 then X else if k = 7 then 0 else if k = 9 then 17 else if k < 12 then h k else if k < 16 then s (k - 12) else h k)) 41 (0, 0)), (q8, .cells (tupc false 17 d s dp sp) 27 (0, 0))]) := Lib.hid (HM4.out.drew.row 1 rfl (arr20 (fun k => if k = 0 then 69 else if k = 6 then X else if k = 7 then 0 else if k = 9 then 17 else if k < 12 then h k else if k < 16 then s (k - 12) else h k)))
  clear HM4 HRs
  generalize u4.drew.setRow (w.heap.size + 1) (arr20 (fun k => if k = 0 then 69 else if k = 6 then X else if k = 7 then 0 else if k = 9 then 17 else if k < 12 then h k else if k < 16 then s (k - 12) else h k)) = u5 at *
  have HRd : Hid (Rd u5.drew u5.drew.heap.size (some ⟨w.heap.size, 18, none⟩) 4 d) := Lib.hid (blk_rd (HM5.out.drew.get 0 rfl) (lt_heap (HM5.out.drew.get 0 rfl)) (i := 18) (fun k hk => tup_dsts _ _ _ _ _ _ k (by omega)))
  go_upto_region 10 with fail
  go_region_held3 (fun _ => True) (trivial)
    (first
    | (refine step_copy_row rfl (.tmp 72) (.tmp 74) _ rfl 5 Try.underlying23 (by kernel_rfl) (HM5.out.drew.get 1 rfl) rfl rfl HRd.out 4 (by omega) (by omega) (by show 16 + 4 ≤ 20; omega) (arr20 (hd20 17 X h s d)) (by kernel_rfl) ?_))
  have HM6a : Hid (Mem w (u5.drew.setRow (w.heap.size + 1) (arr20 (hd20 17 X h s d))) [(w.heap.size, .cells (tupc false 17 s d sp dp) 27 (0, 0)), (w.heap.size + 1, .cells (arr20 (hd20 17 X h s d)) 41 (0, 0)), (q8, .cells (tupc false 17 d s dp sp) 27 (0, 0))]) := Lib.hid (HM5.out.drew.row 1 rfl (arr20 (hd20 17 X h s d)))
  clear HM5 HRd
  generalize u5.drew.setRow (w.heap.size + 1) (arr20 (hd20 17 X h s d)) = u6a at *
  go_upto_region 12 with (first
    | (refine wpList_clear rfl (.tmp 77) _ rfl 5 Try.underlying23 (fun _ => by kernel_rfl) q8 6 12 12 (by omega) rfl (blk_there (HM6a.out.get 2 rfl) (by show 6 + 12 ≤ 36; omega)) ?_))
  have e7 : laid (tupc false 17 d s dp sp) 6 (List.replicate 12 (.int .u8 0)) = tupc false 17 (low4 d) s dp sp := by kernel_rfl
  have HM7a : Hid (Mem w (u6a.setCells q8 6 (List.replicate 12 (.int .u8 0))) [(w.heap.size, .cells (tupc false 17 s d sp dp) 27 (0, 0)), (w.heap.size + 1, .cells (arr20 (hd20 17 X h s d)) 41 (0, 0)), (q8, .cells (tupc false 17 (low4 d) s dp sp) 27 (0, 0))]) := Lib.hid (by
    have q := HM6a.out.cells 2 rfl 6 (List.replicate 12 (.int .u8 0))
    rw [e7] at q
    exact q)
  clear HM6a e7
  generalize u6a.setCells q8 6 (List.replicate 12 (.int .u8 0)) = u7a at *
  go_upto_region 13 with (first
    | (refine wpList_clear rfl (.tmp 79) _ rfl 5 Try.underlying23 (fun _ => by kernel_rfl) q8 22 12 12 (by omega) rfl (blk_there (HM7a.out.get 2 rfl) (by show 22 + 12 ≤ 36; omega)) ?_))
  have e8 : laid (tupc false 17 (low4 d) s dp sp) 22 (List.replicate 12 (.int .u8 0)) = tupc false 17 (low4 d) (low4 s) dp sp := by kernel_rfl
  have HM8a : Hid (Mem w (u7a.setCells q8 22 (List.replicate 12 (.int .u8 0))) [(w.heap.size, .cells (tupc false 17 s d sp dp) 27 (0, 0)), (w.heap.size + 1, .cells (arr20 (hd20 17 X h s d)) 41 (0, 0)), (q8, .cells (tupc false 17 (low4 d) (low4 s) dp sp) 27 (0, 0))]) := Lib.hid (by
    have q := HM7a.out.cells 2 rfl 22 (List.replicate 12 (.int .u8 0))
    rw [e8] at q
    exact q)
  clear HM7a e8
  generalize u7a.setCells q8 22 (List.replicate 12 (.int .u8 0)) = u5 at *
  have x34 : u5.cell? ⟨w.heap.size, 34, none⟩ = some (.int .u16 sp) := blk_cell (HM8a.out.get 0 rfl) 34
  have x35 : u5.cell? ⟨w.heap.size, 35, none⟩ = some (.int .u16 dp) := blk_cell (HM8a.out.get 0 rfl) 35
  have z1 : IntKind.u8.wrap (sp / 256) = sp / 256 := by rw [IntKind.wrap_u8']; omega
  have z2 : IntKind.u8.wrap sp = sp % 256 := by rw [IntKind.wrap_u8']
  have z3 : IntKind.u8.wrap (dp / 256) = dp / 256 := by rw [IntKind.wrap_u8']; omega
  have z4 : IntKind.u8.wrap dp = dp % 256 := by rw [IntKind.wrap_u8']
  have HR6 : Hid (Rd (u5.alloc (.cells #[.int .u8 (sp / 256), .int .u8 (sp % 256), .int .u8 (dp / 256), .int .u8 (dp % 256), .int .u8 1, .int .u8 2, .int .u8 3, .int .u8 4] 5)) (u5.alloc (.cells #[.int .u8 (sp / 256), .int .u8 (sp % 256), .int .u8 (dp / 256), .int .u8 (dp % 256), .int .u8 1, .int .u8 2, .int .u8 3, .int .u8 4] 5)).heap.size (some ⟨u5.heap.size, 0, none⟩) 8 (tl8 sp dp)) := Lib.hid (blk_rd (heap_alloc_new u5 _) (lt_heap (heap_alloc_new u5 _)) (i := 0) fun k hk => by
    rw [Nat.zero_add]
    match k, hk with
    | 0, _ => rfl
    | 1, _ => rfl
    | 2, _ => rfl
    | 3, _ => rfl
    | 4, _ => rfl
    | 5, _ => rfl
    | 6, _ => rfl
    | 7, _ => rfl
    )
  have HM9 := Lib.hid (HM8a.out.step (below_alloc u5 (.cells #[.int .u8 (sp / 256), .int .u8 (sp % 256), .int .u8 (dp / 256), .int .u8 (dp % 256), .int .u8 1, .int .u8 2, .int .u8 3, .int .u8 4] 5)))
  have HR5 : Hid (Rd (u5.alloc (.cells #[.int .u8 (sp / 256), .int .u8 (sp % 256), .int .u8 (dp / 256), .int .u8 (dp % 256), .int .u8 1, .int .u8 2, .int .u8 3, .int .u8 4] 5)) (u5.alloc (.cells #[.int .u8 (sp / 256), .int .u8 (sp % 256), .int .u8 (dp / 256), .int .u8 (dp % 256), .int .u8 1, .int .u8 2, .int .u8 3, .int .u8 4] 5)).heap.size (some ⟨w.heap.size + 1, 0, none⟩) 20 (hd20 17 X h s d)) := Lib.hid (blk_rd (HM9.out.get 1 rfl) (lt_heap (HM9.out.get 1 rfl)) (i := 0) (fun k hk => arr20_get _ k hk))
  go_upto_region 14 with (first
    | (at_builtin
       refine wpList_append_onto rfl (.tmp 80) (.tmp 95) _ rfl 5 i0 Try.underlying23 HI0.out HZ0.out HZ1.out HZ2.out rfl HR5.out (by omega) rfl HR6.out (by omega) (by omega) ?_
       intro A6 c6 u6 hown6 hb6
       have HM6 := Lib.hid (HM9.out.step hb6)
       have HO6 := Lib.hid hown6
       clear hown6 hb6))
  clear HM8a HM9 HR5 HR6 x34 x35 z1 z2 z3 z4
  have HF6 : Hid (Rd u6 u6.heap.size A6 28 (bts4 17 X h s d sp dp)) := HO6.out.rd
  have hc6 := HO6.out.cap
  have hc69 := HO6.out.cap_le
  clear HO6
  have HBY : Hid (Byt (bts4 17 X h s d sp dp)) := cat_byt 20 (hd20_byt ⟨by omega, by omega⟩ HXb.out HH.out HS.out HD.out) (tl8_byt h1 h2)
  obtain ⟨k1, k2, k3⟩ := turn4_flow 17 X (by decide) HX32.out h s d sp dp h1 h2
  generalize (bts4 17 X h s d sp dp) = FF at *
  obtain ⟨CT, hCT⟩ : ∃ C, C = wT false FF 28 := ⟨_, rfl⟩
  obtain ⟨CN, hCN⟩ : ∃ C, C = wT true FF 28 := ⟨_, rfl⟩
  have HSZT : Hid (CT.size = 36) := Lib.hid (by rw [hCT]; exact wT_size ..)
  have HOT : Hid (CT.all (·.oneCell') = true) := Lib.hid (by rw [hCT]; exact wT_one ..)
  have HSZN : Hid (CN.size = 36) := Lib.hid (by rw [hCN]; exact wT_size ..)
  have HON : Hid (CN.all (·.oneCell') = true) := Lib.hid (by rw [hCN]; exact wT_one ..)
  have HCT : Hid (CT = tupc false 17 (low4 d) (low4 s) dp sp) := Lib.hid (hCT.trans k3)
  have HW1 : Hid (∀ W, Rd W W.heap.size A6 28 FF → Calls Try.prog 7 #[.bool false, .slice A6 28 c6] W fun e w' => e = .returned (.tuple #[.agg CT, .int .i64 0]) ∧ Below W.heap.size W w') := Lib.hid fun W hr => by
    have q := within_any false A6 28 c6 FF HBY.out (by omega) hc6 hc69 W hr
    unfold WiOut at q
    rw [k1, ← hCT] at q
    exact q
  have HW2 : Hid (∀ W, Rd W W.heap.size A6 28 FF → Calls Try.prog 7 #[.bool true, .slice A6 28 c6] W fun e w' => e = .returned (.tuple #[.agg CN, .int .i64 4]) ∧ Below W.heap.size W w') := Lib.hid fun W hr => by
    have q := within_any true A6 28 c6 FF HBY.out (by omega) hc6 hc69 W hr
    unfold WiOut at q
    rw [k2, ← hCN] at q
    exact q
  clear k1 k2 k3 hCT hCN HBY h1 h2
  have x0 : u6.cell? ⟨w.heap.size, 0, none⟩ = some (.bool false) := blk_cell (HM6.out.get 0 rfl) 0
  go_wp2_with fail
  go_at_call 7
  refine (HW1.out u6 HF6.out).mono ?_
  rintro e u7 ⟨rfl, hb7⟩
  have HM7 := Lib.hid (HM6.out.step hb7)
  have HF7 := Lib.hid ((HF6.out.keep hb7).more hb7.size)
  clear hb7 HM6 HF6 x0 HW1
  have HN : Hid ((u7.alloc (.cells tupz 27)).heap[u7.heap.size]? = some (.cells tupz 27 (0, 0))) := heap_alloc_new u7 _
  go_upto_region 15 with (first
    | (refine wpList_store_row rfl 27 (.tmp 9) (.tmp 102) rfl u7.heap.size CT rfl rfl 27 tupz HN.out (HI36.out.trans (by rw [HSZT.out])) (by rw [HSZT.out]; rfl) HOT.out ?_))
  change Code.wp _ _ _ _ ((u7.alloc (.cells tupz 27)).setRow u7.heap.size CT)
  have HF8 : Hid (Rd ((u7.alloc (.cells tupz 27)).setRow u7.heap.size CT) ((u7.alloc (.cells tupz 27)).setRow u7.heap.size CT).heap.size A6 28 FF) := Lib.hid (by
    have hb := below_setRow (below_alloc u7 (.cells tupz 27)) (Nat.le_refl _) CT
    exact (HF7.out.keep hb).more hb.size)
  obtain ⟨q9, hq⟩ : ∃ q, q = u7.heap.size := ⟨_, rfl⟩
  have HM8 := Lib.hid ((HM7.out.new (.cells tupz 27) q9 hq).row 3 rfl CT)
  rw [← hq] at HF8 ⊢
  clear hq HN HM7 HF7
  generalize (u7.alloc (.cells tupz 27)).setRow q9 CT = u8 at *
  have x0 : u8.cell? ⟨w.heap.size, 0, none⟩ = some (.bool false) := blk_cell (HM8.out.get 0 rfl) 0
  go_wp2_with fail
  go_at_call 7
  refine (HW2.out u8 HF8.out).mono ?_
  rintro e u9 ⟨rfl, hb9⟩
  have HM9 := Lib.hid (HM8.out.step hb9)
  clear hb9 HM8 HF8 x0 HW2
  have HN : Hid ((u9.alloc (.cells tupz 27)).heap[u9.heap.size]? = some (.cells tupz 27 (0, 0))) := heap_alloc_new u9 _
  go_upto_region 16 with (first
    | (refine wpList_store_row rfl 27 (.tmp 11) (.tmp 110) rfl u9.heap.size CN rfl rfl 27 tupz HN.out (HI36.out.trans (by rw [HSZN.out])) (by rw [HSZN.out]; rfl) HON.out ?_))
  change Code.wp _ _ _ _ ((u9.alloc (.cells tupz 27)).setRow u9.heap.size CN)
  have HMA := Lib.hid ((HM9.out.new (.cells tupz 27) u9.heap.size rfl).row 4 rfl CN)
  clear HN HM9
  generalize (u9.alloc (.cells tupz 27)).setRow u9.heap.size CN = u10 at *
  have heq : ∀ W, (Op.equalIn 10000 27 (.agg CT) (.agg (tupc false 17 (low4 d) (low4 s) dp sp))).run Try.prog W = .ok true W := fun W => by
    rw [HCT.out]
    exact eqT ..
  go_wp2_with (first
    | (refine wpList_load_roww rfl 27 (.tmp 9) rfl q9 rfl 27 CT (0, 0) _ (HMA.out.get 3 rfl) Try.underlying27 rfl (HI36.out.trans (by rw [HSZT.out])) ?_)
    | (refine wpList_load_roww rfl 27 (.tmp 8) rfl q8 rfl 27 (tupc false 17 (low4 d) (low4 s) dp sp) (0, 0) _ (HMA.out.get 2 rfl) Try.underlying27 rfl (by kernel_rfl) ?_)
    | (go_at_call 6; refine (KN.out _).mono ?_; rintro e u11 ⟨rfl, hb11⟩))
  go_ret
  exact ⟨rfl, HMA.out.below.trans (hb11.mono HMA.out.below.size)⟩
end Go.Proofs.Ytfaelihfjmaekaa
