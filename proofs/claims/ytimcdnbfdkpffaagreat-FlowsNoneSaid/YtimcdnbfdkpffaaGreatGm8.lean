import Derived.Test.YtimcdnbfdkpffaaGreatGm7
/- Stage 9: the landed Take. -/
namespace Go.Proofs.YtimcdnbfdkpffaaGreat
set_option maxRecDepth 100000
open Go.RowKit
set_option maxHeartbeats 1000000 in
theorem ptakeX_full {w : World} {p g n c : Nat} {fd : Int} {fs lv S : Nat} {ha : Nat → Nat} {bf : Nat → Int} {F : Nat → Prop} (h : PX w p g n c fd fs lv S ha bf F) (hf : lv = n) : Calls Tryz.prog 148 #[.pointer (some ⟨p, 0, none⟩)] w (ret (.tuple #[.agg #[.int .i64 0, .int .u64 0], .int .i64 9]) w) := by
  have hlf : ((lv : Int) == (n : Int)) = true := by simp [hf]
  have HX0 := Lib.hid h
  have HM0 : Hid ((w.alloc (.cells #[.int .i64 0, .int .u64 0] 95)).heap[w.heap.size]? = some (.cells #[.int .i64 0, .int .u64 0] 95 (0, 0))) := Lib.hid (heap_alloc_new w _)
  have HB0 : Hid (Below w.heap.size w (w.alloc (.cells #[.int .i64 0, .int .u64 0] 95))) := Lib.hid (below_alloc w _)
  have HX1 := Lib.hid (h.step HB0.out)
  have HPW : Hid (p < w.heap.size) := Lib.hid (h.old p h.mp)
  have HGW : Hid (g < w.heap.size) := Lib.hid (h.old g h.mg)
  have hpos := h.pos
  have hn0 : ((n : Int) == 0) = false := by simp; omega
  obtain ⟨r, hr⟩ : ∃ r, r = w.heap.size := ⟨_, rfl⟩
  have HRW := Lib.hid hr
  rw [← hr] at HM0
  clear h
  go_enter Tryz.func148, Tryz.ntmps148
  go_upto_region 1 with fail
  change Code.wp _ _ _ _ (w.alloc (.cells #[.int .i64 0, .int .u64 0] 95))
  rw [← hr]
  clear hr
  generalize w.alloc (.cells #[.int .i64 0, .int .u64 0] 95) = u1 at *
  have x0 : u1.cell? ⟨p, 0, none⟩ = some (.slice (some ⟨g, 0, none⟩) n c) := blk_cell HX1.out.blk 0
  go_upto_region 3 with (first
    | (go_at_call 125
       refine (psize_c u1 p _ n c x0).mono ?_
       rintro e u2 ⟨rfl, hb⟩
       have HX2 := Lib.hid (HX1.out.step hb)
       have HM2 : Hid (u2.heap[r]? = some (.cells #[.int .i64 0, .int .u64 0] 95 (0, 0))) := Lib.hid ((hb.block _ (lt_heap HM0.out)).trans HM0.out)
       have HB2 := Lib.hid (HB0.out.trans (hb.mono HB0.out.size))
       clear hb))
  clear x0
  have y0 : ∀ W : Stay u2, W.w.cell? ⟨p, 0, none⟩ = some (.slice (some ⟨g, 0, none⟩) n c) := fun W => Stay.cell (blk_cell HX2.out.blk 0) W
  have y3 : ∀ W : Stay u2, W.w.cell? ⟨p, 3, none⟩ = some (.int .i64 (lv : Int)) := fun W => Stay.cell (blk_cell HX2.out.blk 3) W
  refine wp_region_stay (by kernel_rfl) (by kernel_rfl) ?_
  repeat (go_big_quiet_step (fail))
  refine wpQuiet_nil ?_
  intro w' hw'
  obtain ⟨W, rfl⟩ := hw'
  have HX3 := Lib.hid (HX2.out.step W.below)
  have HM3 : Hid (W.w.heap[r]? = some (.cells #[.int .i64 0, .int .u64 0] 95 (0, 0))) := Lib.hid ((W.below.block _ (lt_heap HM2.out)).trans HM2.out)
  have HB3 := Lib.hid (HB2.out.trans (W.below.mono HB2.out.size))
  clear y0 y3 HX2 HM2 HB2 HX1 HM0 HB0
  generalize W.w = u3 at *
  go_wp2_with (first
    | (refine wpList_store_row rfl 95 (.tmp 2) (.tmp 19) rfl r #[.int .i64 0, .int .u64 0] rfl rfl 95 #[.int .i64 0, .int .u64 0] HM3.out (by kernel_rfl) rfl (by simp [Value.oneCell']) ?_))
  refine bodyPost_ret (v := .tuple #[.agg #[.int .i64 0, .int .u64 0], .int .i64 9]) (results_rowa Tryz.results148 _ _ r 95 #[.int .i64 0, .int .u64 0] (0, 0) _ rfl (setRow_heap _ r _ #[.int .i64 0, .int .u64 0] _ _ HM3.out) Tryz.underlying95 rfl (by kernel_rfl)) rfl ?_
  exact ⟨rfl, below_setRow HB3.out (by rw [HRW.out]; exact Nat.le_refl _) _⟩
set_option maxHeartbeats 2000000 in
theorem ptakeX_any {w : World} {p g n c : Nat} {fd : Int} {fs lv S : Nat} {ha : Nat → Nat} {bf : Nat → Int} {F : Nat → Prop} (h : PX w p g n c fd fs lv S ha bf F) (hn : n ≤ 65536) (hl : lv < n) (hS : S ≤ 4611686018427387904) (i : Nat) (hi : i < n) (fd2 : Int) (fs2 : Nat)
    (hU : ∀ W, PX W p g n c fd fs lv S ha bf F → Calls Tryz.prog 174 #[.pointer (some ⟨p, 0, none⟩)] W fun e w' => e = .returned (.int .i64 (i : Int)) ∧ PX w' p g n c fd2 fs2 lv S ha bf F ∧ Kept (fun k => k = p) W w') :
    Calls Tryz.prog 148 #[.pointer (some ⟨p, 0, none⟩)] w fun e w' => e = .returned (.tuple #[.agg #[.int .i64 (i : Int), .int .u64 ((S : Int) + 1)], .int .i64 0]) ∧ PX w' p g n c fd2 fs2 (lv + 1) (S + 1) (fun k => if k = i then S + 1 else ha k) (fun k => if k = i then -1 else bf k) F ∧ Kept (fun k => k = p ∨ k = g) w w' := by
  have hlf : ((lv : Int) == (n : Int)) = false := by simp; omega
  have HU := Lib.hid hU
  clear hU
  have HX0 := Lib.hid h
  have HM0 : Hid ((w.alloc (.cells #[.int .i64 0, .int .u64 0] 95)).heap[w.heap.size]? = some (.cells #[.int .i64 0, .int .u64 0] 95 (0, 0))) := Lib.hid (heap_alloc_new w _)
  have HB0 : Hid (Below w.heap.size w (w.alloc (.cells #[.int .i64 0, .int .u64 0] 95))) := Lib.hid (below_alloc w _)
  have HX1 := Lib.hid (h.step HB0.out)
  have HPW : Hid (p < w.heap.size) := Lib.hid (h.old p h.mp)
  have HGW : Hid (g < w.heap.size) := Lib.hid (h.old g h.mg)
  have hpos := h.pos
  have hn0 : ((n : Int) == 0) = false := by simp; omega
  obtain ⟨r, hr⟩ : ∃ r, r = w.heap.size := ⟨_, rfl⟩
  have HRW := Lib.hid hr
  rw [← hr] at HM0
  clear h
  go_enter Tryz.func148, Tryz.ntmps148
  go_upto_region 1 with fail
  change Code.wp _ _ _ _ (w.alloc (.cells #[.int .i64 0, .int .u64 0] 95))
  rw [← hr]
  clear hr
  generalize w.alloc (.cells #[.int .i64 0, .int .u64 0] 95) = u1 at *
  have x0 : u1.cell? ⟨p, 0, none⟩ = some (.slice (some ⟨g, 0, none⟩) n c) := blk_cell HX1.out.blk 0
  go_upto_region 3 with (first
    | (go_at_call 125
       refine (psize_c u1 p _ n c x0).mono ?_
       rintro e u2 ⟨rfl, hb⟩
       have HX2 := Lib.hid (HX1.out.step hb)
       have HM2 : Hid (u2.heap[r]? = some (.cells #[.int .i64 0, .int .u64 0] 95 (0, 0))) := Lib.hid ((hb.block _ (lt_heap HM0.out)).trans HM0.out)
       have HB2 := Lib.hid (HB0.out.trans (hb.mono HB0.out.size))
       clear hb))
  clear x0
  have y0 : ∀ W : Stay u2, W.w.cell? ⟨p, 0, none⟩ = some (.slice (some ⟨g, 0, none⟩) n c) := fun W => Stay.cell (blk_cell HX2.out.blk 0) W
  have y3 : ∀ W : Stay u2, W.w.cell? ⟨p, 3, none⟩ = some (.int .i64 (lv : Int)) := fun W => Stay.cell (blk_cell HX2.out.blk 3) W
  refine wp_region_stay (by kernel_rfl) (by kernel_rfl) ?_
  repeat (go_big_quiet_step (fail))
  refine wpQuiet_nil ?_
  intro w' hw'
  obtain ⟨W, rfl⟩ := hw'
  have HX3 := Lib.hid (HX2.out.step W.below)
  have HM3 : Hid (W.w.heap[r]? = some (.cells #[.int .i64 0, .int .u64 0] 95 (0, 0))) := Lib.hid ((W.below.block _ (lt_heap HM2.out)).trans HM2.out)
  have HB3 := Lib.hid (HB2.out.trans (W.below.mono HB2.out.size))
  clear y0 y3 HX2 HM2 HB2 HX1 HM0 HB0
  generalize W.w = u3 at *
  have HPR : Hid (p ≠ r) := Lib.hid (by have := HPW.out; have := HRW.out; omega)
  have HGR : Hid (g ≠ r) := Lib.hid (by have := HGW.out; have := HRW.out; omega)
  go_upto_region 6 with (first
    | (go_at_call 174
       refine (HU.out _ HX3.out).mono ?_
       rintro e u4 ⟨rfl, hx, hk⟩
       have HX4 := Lib.hid hx
       have HM4 : Hid (u4.heap[r]? = some (.cells #[.int .i64 0, .int .u64 0] 95 (0, 0))) := Lib.hid ((hk.block r (lt_heap HM3.out) (fun e => HPR.out e.symm)).trans HM3.out)
       have HK4 : Hid (Kept (fun k => k = p ∨ k = g) w u4) := Lib.hid ((Kept.of_below HB3.out _).trans hk fun _ _ e => .inl e)
       clear hx hk))
  clear HX3 HM3 HB3
  have x3 : u4.cell? ⟨p, 3, none⟩ = some (.int .i64 (lv : Int)) := blk_cell HX4.out.blk 3
  have y3 := blk_free HX4.out.blk 3
  have zl : IntKind.i64.wrap ((lv : Int) + 1) = (lv : Int) + 1 := by rw [IntKind.wrap_i64]; omega
  have HX5 : Hid (PX (u4.setCell ⟨p, 3, none⟩ (.int .i64 ((lv : Int) + 1))) p g n c fd2 fs2 (lv + 1) S ha bf F) := Lib.hid (by
    have := HX4.out.set3 (lv + 1)
    rwa [show ((lv + 1 : Nat) : Int) = (lv : Int) + 1 by omega] at this)
  have HM5 : Hid ((u4.setCell ⟨p, 3, none⟩ (.int .i64 ((lv : Int) + 1))).heap[r]? = some (.cells #[.int .i64 0, .int .u64 0] 95 (0, 0))) := Lib.hid (blk_far HM4.out (p := ⟨p, 3, none⟩) HPR.out.symm _)
  have HK5 := Lib.hid (HK4.out.setCell (p := ⟨p, 3, none⟩) (.inl (.inl rfl)) (.int .i64 ((lv : Int) + 1)))
  go_upto_region 7 with fail
  clear x3 y3 zl HX4 HM4 HK4
  generalize u4.setCell ⟨p, 3, none⟩ (.int .i64 ((lv : Int) + 1)) = u5 at *
  have x4 : u5.cell? ⟨p, 4, none⟩ = some (.int .u64 (S : Int)) := blk_cell HX5.out.blk 4
  have y4 := blk_free HX5.out.blk 4
  have zS : IntKind.u64.wrap ((S : Int) + 1) = (S : Int) + 1 := by simp only [IntKind.wrap_u64]; omega
  have HX7 : Hid (PX (u5.setCell ⟨p, 4, none⟩ (.int .u64 ((S : Int) + 1))) p g n c fd2 fs2 (lv + 1) (S + 1) ha bf F) := Lib.hid (by
    have := HX5.out.set4 (S + 1)
    rwa [show ((S + 1 : Nat) : Int) = (S : Int) + 1 by omega] at this)
  have HM7 : Hid ((u5.setCell ⟨p, 4, none⟩ (.int .u64 ((S : Int) + 1))).heap[r]? = some (.cells #[.int .i64 0, .int .u64 0] 95 (0, 0))) := Lib.hid (blk_far HM5.out (p := ⟨p, 4, none⟩) HPR.out.symm _)
  have HK7 := Lib.hid (HK5.out.setCell (p := ⟨p, 4, none⟩) (.inl (.inl rfl)) (.int .u64 ((S : Int) + 1)))
  go_upto_region 8 with fail
  clear x4 y4 zS HX5 HM5 HK5
  generalize u5.setCell ⟨p, 4, none⟩ (.int .u64 ((S : Int) + 1)) = u7 at *
  have x0 : u7.cell? ⟨p, 0, none⟩ = some (.slice (some ⟨g, 0, none⟩) n c) := blk_cell HX7.out.blk 0
  have x4 : u7.cell? ⟨p, 4, none⟩ = some (.int .u64 ((S : Int) + 1)) := by
    have := blk_cell HX7.out.blk 4
    rwa [show ((S + 1 : Nat) : Int) = (S : Int) + 1 by omega] at this
  have HPL : Hid (p < u7.heap.size) := Lib.hid (HX7.out.old p HX7.out.mp)
  have hbd : ∀ w, (Instr.build 207 #[(0, .int .u64 ((S : Int) + 1)), (1, .int .i64 (-1))]).run Tryz.prog w = .ok (.agg #[.int .u64 ((S : Int) + 1), .int .i64 (-1)]) w := fun w => by kernel_rfl
  have i0 : (0 : Int) ≤ (i : Int) := by omega
  have i1 : (i : Int) < (n : Int) := by omega
  have i2 : ((i : Int)).toNat = i := by omega
  have cap := HX7.out.cap
  have cap9 := HX7.out.cap9
  refine wp_region_grow (C := fun W => Below u7.heap.size u7 W) 11 53 [val (.pointer (some ⟨p, 0, none⟩)), val (.pointer (some ⟨p, 0, none⟩)), val (.pointer (some ⟨p, 0, none⟩)), val (.slice (some ⟨g, 0, none⟩) n c), val (.int .i64 (i : Int)), val (.pointer (some ⟨p, 0, none⟩)), val (.pointer (some ⟨p, 0, none⟩)), val (.pointer (some ⟨p, 4, none⟩)), val (.int .u64 ((S : Int) + 1)), val (.agg #[.int .u64 ((S : Int) + 1), .int .i64 (-1)]), val (.pointer (some ⟨g, i * 2, none⟩))] (by kernel_rfl) rfl (by kernel_rfl) rfl ⟨stb_val _, stb_val _, stb_val _, stb_val _, stb_val _, stb_val _, stb_val _, stb_val _, stb_val _, stb_val _, stb_val _, trivial⟩ (Below.refl _ _).drew ?_ ?_
  · refine each_cons ?_ ?_
    · intro a W hW hd
      have h0 : a.tmps[0]?.getD undef = .pointer (some ⟨p, 0, none⟩) := slot_eq (hd 0 (by decide))
      exact grows_value _ hW (by simp [execOp, Act.eval, h0]) rfl
    refine each_cons ?_ ?_
    · intro a W hW hd
      have h36 : a.tmps[36]?.getD undef = .pointer (some ⟨p, 0, none⟩) := slot_eq (hd 36 (by decide))
      refine grows_value _ hW (?_ : _ = _) rfl
      clear hd
      go_simp
    refine each_cons ?_ ?_
    · intro a W hW hd
      have h37 : a.tmps[37]?.getD undef = .pointer (some ⟨p, 0, none⟩) := slot_eq (hd 37 (by decide))
      refine grows_value _ hW (?_ : _ = _) rfl
      clear hd
      go_simp
    refine each_cons ?_ ?_
    · intro a W hW hd
      have h38 : a.tmps[38]?.getD undef = .pointer (some ⟨p, 0, none⟩) := slot_eq (hd 38 (by decide))
      have xx : W.cell? ⟨p, 0, none⟩ = some (.slice (some ⟨g, 0, none⟩) n c) := (hW.cell (p := ⟨p, 0, none⟩) HPL.out).trans x0
      refine grows_value _ hW (?_ : _ = _) rfl
      clear hd
      go_simp
    refine each_cons ?_ ?_
    · intro a W hW hd
      have h4 : a.tmps[4]?.getD undef = .int .i64 (i : Int) := slot_eq (hd 4 (by decide))
      exact grows_value _ hW (by simp [execOp, Act.eval, h4]) rfl
    refine each_cons ?_ ?_
    · intro a W hW hd
      have h0 : a.tmps[0]?.getD undef = .pointer (some ⟨p, 0, none⟩) := slot_eq (hd 0 (by decide))
      exact grows_value _ hW (by simp [execOp, Act.eval, h0]) rfl
    refine each_cons ?_ ?_
    · intro a W hW hd
      have h41 : a.tmps[41]?.getD undef = .pointer (some ⟨p, 0, none⟩) := slot_eq (hd 41 (by decide))
      refine grows_value _ hW (?_ : _ = _) rfl
      clear hd
      go_simp
    refine each_cons ?_ ?_
    · intro a W hW hd
      have h42 : a.tmps[42]?.getD undef = .pointer (some ⟨p, 0, none⟩) := slot_eq (hd 42 (by decide))
      refine grows_value _ hW (?_ : _ = _) rfl
      clear hd
      go_simp
    refine each_cons ?_ ?_
    · intro a W hW hd
      have h43 : a.tmps[43]?.getD undef = .pointer (some ⟨p, 4, none⟩) := slot_eq (hd 43 (by decide))
      have xx : W.cell? ⟨p, 4, none⟩ = some (.int .u64 ((S : Int) + 1)) := (hW.cell (p := ⟨p, 4, none⟩) HPL.out).trans x4
      refine grows_value _ hW (?_ : _ = _) rfl
      clear hd
      go_simp
    refine each_cons ?_ ?_
    · intro a W hW hd
      have h44 : a.tmps[44]?.getD undef = .int .u64 ((S : Int) + 1) := slot_eq (hd 44 (by decide))
      refine grows_value _ hW (?_ : _ = _) rfl
      have hb := hbd W
      clear hd
      simp [execOp, Act.eval, h44, hb]
    refine each_cons ?_ ?_
    · intro a W hW hd
      have h39 : a.tmps[39]?.getD undef = .slice (some ⟨g, 0, none⟩) n c := slot_eq (hd 39 (by decide))
      have h40 : a.tmps[40]?.getD undef = .int .i64 (i : Int) := slot_eq (hd 40 (by decide))
      refine grows_value _ hW (?_ : _ = _) rfl
      clear hd
      go_simp
    exact each_nil
  · refine behind_val rfl ?_
    refine behind_val rfl ?_
    refine behind_val rfl ?_
    refine behind_val rfl ?_
    refine behind_val rfl ?_
    refine behind_val rfl ?_
    refine behind_val rfl ?_
    refine behind_val rfl ?_
    refine behind_val rfl ?_
    refine behind_val rfl ?_
    refine behind_val rfl ?_
    refine behind_nil fun W8 hCW8 hFW8 => ?_
    simp only [Act.put, List.setIfInBounds_toArray, List.set_cons_succ, List.set_cons_zero, List.drop_succ_cons, List.drop_zero]
    clear hFW8 hbd x0 x4
    have HX8 := Lib.hid (HX7.out.step hCW8)
    have HM8 : Hid (W8.heap[r]? = some (.cells #[.int .i64 0, .int .u64 0] 95 (0, 0))) := Lib.hid ((hCW8.block _ (lt_heap HM7.out)).trans HM7.out)
    have HK8 := Lib.hid (HK7.out.step hCW8)
    clear hCW8 HX7 HM7 HK7
    go_upto_region 9 with (first
      | (refine wpList_store_mid rfl 207 (.tmp 46) (.tmp 45) rfl g (i * 2) #[.int .u64 ((S : Int) + 1), .int .i64 (-1)] rfl rfl (HX8.out.there hi) (by kernel_rfl) (by simp [Value.oneCell']) ?_))
    have HX9 : Hid (PX (W8.setCells g (i * 2) [.int .u64 ((S : Int) + 1), .int .i64 (-1)]) p g n c fd2 fs2 (lv + 1) (S + 1) (fun k => if k = i then S + 1 else ha k) (fun k => if k = i then -1 else bf k) F) := Lib.hid (by
      have := HX8.out.put i (S + 1) (-1)
      rwa [show ((S + 1 : Nat) : Int) = (S : Int) + 1 by omega] at this)
    have HM9 : Hid ((W8.setCells g (i * 2) [.int .u64 ((S : Int) + 1), .int .i64 (-1)]).heap[r]? = some (.cells #[.int .i64 0, .int .u64 0] 95 (0, 0))) := Lib.hid ((other_setCells HGR.out.symm _ _ _).trans HM8.out)
    have HK9 : Hid (Kept (fun k => k = p ∨ k = g) w (W8.setCells g (i * 2) [.int .u64 ((S : Int) + 1), .int .i64 (-1)])) := Lib.hid (HK8.out.setCells (.inl (.inr rfl)) _ _)
    clear HX8 HM8 HK8
    try simp only [Act.put]
    generalize W8.setCells g (i * 2) [.int .u64 ((S : Int) + 1), .int .i64 (-1)] = u9 at *
    have x4 : u9.cell? ⟨p, 4, none⟩ = some (.int .u64 ((S : Int) + 1)) := by
      have := blk_cell HX9.out.blk 4
      rwa [show ((S + 1 : Nat) : Int) = (S : Int) + 1 by omega] at this
    go_wp2_with (first
      | (refine wpList_store_row rfl 95 (.tmp 2) (.tmp 52) rfl r #[.int .i64 (i : Int), .int .u64 ((S : Int) + 1)] rfl rfl 95 #[.int .i64 0, .int .u64 0] HM9.out (by kernel_rfl) rfl (by simp [Value.oneCell']) ?_))
    refine bodyPost_ret (v := .tuple #[.agg #[.int .i64 (i : Int), .int .u64 ((S : Int) + 1)], .int .i64 0]) (results_rowa Tryz.results148 _ _ r 95 #[.int .i64 (i : Int), .int .u64 ((S : Int) + 1)] (0, 0) _ rfl (setRow_heap _ r _ #[.int .i64 (i : Int), .int .u64 ((S : Int) + 1)] _ _ HM9.out) Tryz.underlying95 rfl (by kernel_rfl)) rfl ?_
    have kR : Kept (fun k => k = r) u9 (u9.setRow r #[.int .i64 (i : Int), .int .u64 ((S : Int) + 1)]) := Kept.setRow (R := fun k => k = r) (Kept.refl _ u9) (.inl rfl) _
    exact ⟨rfl, ⟨(setRow_other _ r p _ HPR.out).trans HX9.out.blk, HX9.out.row.block (setRow_other _ r g _ HGR.out), HX9.out.mp, HX9.out.mg, fun k hF => Nat.lt_of_lt_of_le (HX9.out.old k hF) kR.size, HX9.out.pos⟩, HK9.out.setRow (.inr (by rw [HRW.out]; exact Nat.le_refl _)) _⟩
end Go.Proofs.YtimcdnbfdkpffaaGreat
/- Stage 9: the landed Free. -/
namespace Go.Proofs.YtimcdnbfdkpffaaGreat
set_option maxRecDepth 100000
open Go.RowKit
set_option maxHeartbeats 1000000 in
theorem pfreeX_no {w : World} {p g n c : Nat} {fd : Int} {fs lv S : Nat} {ha : Nat → Nat} {bf : Nat → Int} {F : Nat → Prop} (h : PX w p g n c fd fs lv S ha bf F) (i : Int) (k : Nat)
    (hL : ∀ W, PX W p g n c fd fs lv S ha bf F → Calls Tryz.prog 89 #[.pointer (some ⟨p, 0, none⟩), .agg #[.int .i64 i, .int .u64 (k : Int)]] W (ret (.bool false) W)) : Calls Tryz.prog 139 #[.pointer (some ⟨p, 0, none⟩), .agg #[.int .i64 i, .int .u64 (k : Int)]] w (ret (.int .i64 14) w) := by
  have HX0 := Lib.hid h
  have HL := Lib.hid hL
  have HM0 : Hid ((w.alloc (.cells #[.int .i64 i, .int .u64 (k : Int)] 95)).heap[w.heap.size]? = some (.cells #[.int .i64 i, .int .u64 (k : Int)] 95 (0, 0))) := Lib.hid (heap_alloc_new w _)
  have HB0 : Hid (Below w.heap.size w (w.alloc (.cells #[.int .i64 i, .int .u64 (k : Int)] 95))) := Lib.hid (below_alloc w _)
  have HX1 := Lib.hid (h.step HB0.out)
  have HPW : Hid (p < w.heap.size) := Lib.hid (h.old p h.mp)
  have HGW : Hid (g < w.heap.size) := Lib.hid (h.old g h.mg)
  have hpos := h.pos
  have hn0 : ((n : Int) == 0) = false := by simp; omega
  obtain ⟨r, hr⟩ : ∃ r, r = w.heap.size := ⟨_, rfl⟩
  have HRW := Lib.hid hr
  rw [← hr] at HM0
  clear h hL
  go_enter Tryz.func139, Tryz.ntmps139
  go_upto_region 1 with fail
  change Code.wp _ _ _ _ (w.alloc (.cells #[.int .i64 i, .int .u64 (k : Int)] 95))
  rw [← hr]
  clear hr
  generalize w.alloc (.cells #[.int .i64 i, .int .u64 (k : Int)] 95) = u1 at *
  have x0 : u1.cell? ⟨p, 0, none⟩ = some (.slice (some ⟨g, 0, none⟩) n c) := blk_cell HX1.out.blk 0
  go_upto_region 3 with (first
    | (go_at_call 125
       refine (psize_c u1 p _ n c x0).mono ?_
       rintro e u2 ⟨rfl, hb⟩
       have HX2 := Lib.hid (HX1.out.step hb)
       have HM2 : Hid (u2.heap[r]? = some (.cells #[.int .i64 i, .int .u64 (k : Int)] 95 (0, 0))) := Lib.hid ((hb.block _ (lt_heap HM0.out)).trans HM0.out)
       have HB2 := Lib.hid (HB0.out.trans (hb.mono HB0.out.size))
       clear hb))
  clear x0 HX1 HM0 HB0
  go_wp2_with (first
  | (refine wpList_load_row rfl 95 (.tmp 3) rfl r rfl 95 #[.int .i64 i, .int .u64 (k : Int)] (0, 0) _ HM2.out Tryz.underlying95 rfl (by kernel_rfl) ?_)
  | (go_at_call 89
     refine (HL.out _ HX2.out).mono ?_
     rintro e u3 ⟨rfl, hb⟩
     have HX3 := Lib.hid (HX2.out.step hb)
     have HM3 : Hid (u3.heap[r]? = some (.cells #[.int .i64 i, .int .u64 (k : Int)] 95 (0, 0))) := Lib.hid ((hb.block _ (lt_heap HM2.out)).trans HM2.out)
     have HB3 := Lib.hid (HB2.out.trans (hb.mono HB2.out.size))
     clear hb))
  go_ret
  exact ⟨rfl, HB3.out⟩
set_option maxHeartbeats 2000000 in
theorem pfreeX_any {w : World} {p g n c : Nat} {fd : Int} {fs lv S : Nat} {ha : Nat → Nat} {bf : Nat → Int} {F : Nat → Prop} (h : PX w p g n c fd fs lv S ha bf F) (hn : n ≤ 65536) (hl0 : 0 < lv) (hl : lv ≤ n) (i k : Nat) (hi : i < n)
    (hL : ∀ W, PX W p g n c fd fs lv S ha bf F → Calls Tryz.prog 89 #[.pointer (some ⟨p, 0, none⟩), .agg #[.int .i64 (i : Int), .int .u64 (k : Int)]] W (ret (.bool true) W)) :
    Calls Tryz.prog 139 #[.pointer (some ⟨p, 0, none⟩), .agg #[.int .i64 (i : Int), .int .u64 (k : Int)]] w fun e w' => e = .returned (.int .i64 0) ∧ PX w' p g n c (i : Int) fs (lv - 1) S (fun k => if k = i then 0 else ha k) (fun k => if k = i then fd else bf k) F ∧ Kept (fun k => k = p ∨ k = g) w w' := by
  have HX0 := Lib.hid h
  have HL := Lib.hid hL
  have HM0 : Hid ((w.alloc (.cells #[.int .i64 (i : Int), .int .u64 (k : Int)] 95)).heap[w.heap.size]? = some (.cells #[.int .i64 (i : Int), .int .u64 (k : Int)] 95 (0, 0))) := Lib.hid (heap_alloc_new w _)
  have HB0 : Hid (Below w.heap.size w (w.alloc (.cells #[.int .i64 (i : Int), .int .u64 (k : Int)] 95))) := Lib.hid (below_alloc w _)
  have HX1 := Lib.hid (h.step HB0.out)
  have HPW : Hid (p < w.heap.size) := Lib.hid (h.old p h.mp)
  have HGW : Hid (g < w.heap.size) := Lib.hid (h.old g h.mg)
  have hpos := h.pos
  have hn0 : ((n : Int) == 0) = false := by simp; omega
  obtain ⟨r, hr⟩ : ∃ r, r = w.heap.size := ⟨_, rfl⟩
  have HRW := Lib.hid hr
  rw [← hr] at HM0
  clear h hL
  go_enter Tryz.func139, Tryz.ntmps139
  go_upto_region 1 with fail
  change Code.wp _ _ _ _ (w.alloc (.cells #[.int .i64 (i : Int), .int .u64 (k : Int)] 95))
  rw [← hr]
  clear hr
  generalize w.alloc (.cells #[.int .i64 (i : Int), .int .u64 (k : Int)] 95) = u1 at *
  have x0 : u1.cell? ⟨p, 0, none⟩ = some (.slice (some ⟨g, 0, none⟩) n c) := blk_cell HX1.out.blk 0
  go_upto_region 3 with (first
    | (go_at_call 125
       refine (psize_c u1 p _ n c x0).mono ?_
       rintro e u2 ⟨rfl, hb⟩
       have HX2 := Lib.hid (HX1.out.step hb)
       have HM2 : Hid (u2.heap[r]? = some (.cells #[.int .i64 (i : Int), .int .u64 (k : Int)] 95 (0, 0))) := Lib.hid ((hb.block _ (lt_heap HM0.out)).trans HM0.out)
       have HB2 := Lib.hid (HB0.out.trans (hb.mono HB0.out.size))
       clear hb))
  clear x0 HX1 HM0 HB0
  have HPR : Hid (p ≠ r) := Lib.hid (by have := HPW.out; have := HRW.out; omega)
  have HGR : Hid (g ≠ r) := Lib.hid (by have := HGW.out; have := HRW.out; omega)
  go_upto_region 5 with (first
  | (refine wpList_load_row rfl 95 (.tmp 3) rfl r rfl 95 #[.int .i64 (i : Int), .int .u64 (k : Int)] (0, 0) _ HM2.out Tryz.underlying95 rfl (by kernel_rfl) ?_)
  | (go_at_call 89
     refine (HL.out _ HX2.out).mono ?_
     rintro e u3 ⟨rfl, hb⟩
     have HX3 := Lib.hid (HX2.out.step hb)
     have HM3 : Hid (u3.heap[r]? = some (.cells #[.int .i64 (i : Int), .int .u64 (k : Int)] 95 (0, 0))) := Lib.hid ((hb.block _ (lt_heap HM2.out)).trans HM2.out)
     have HB3 := Lib.hid (HB2.out.trans (hb.mono HB2.out.size))
     clear hb))
  clear HX2 HM2 HB2
  have xp0 : u3.cell? ⟨p, 0, none⟩ = some (.slice (some ⟨g, 0, none⟩) n c) := blk_cell HX3.out.blk 0
  have xp1 : u3.cell? ⟨p, 1, none⟩ = some (.int .i64 fd) := blk_cell HX3.out.blk 1
  have xr0 : u3.cell? ⟨r, 0, none⟩ = some (.int .i64 (i : Int)) := blk_cell HM3.out 0
  have HPL : Hid (p < u3.heap.size) := Lib.hid (HX3.out.old p HX3.out.mp)
  have HRL : Hid (r < u3.heap.size) := Lib.hid (lt_heap HM3.out)
  have hbd : ∀ w, (Instr.build 207 #[(1, .int .i64 fd)]).run Tryz.prog w = .ok (.agg #[.int .u64 0, .int .i64 fd]) w := fun w => by kernel_rfl
  have i0 : (0 : Int) ≤ (i : Int) := by omega
  have i1 : (i : Int) < (n : Int) := by omega
  have i2 : ((i : Int)).toNat = i := by omega
  have cap := HX3.out.cap
  have cap9 := HX3.out.cap9
  refine wp_region_grow (C := fun W => Below u3.heap.size u3 W) 12 36 [val (.pointer (some ⟨p, 0, none⟩)), val (.pointer (some ⟨p, 0, none⟩)), val (.pointer (some ⟨p, 0, none⟩)), val (.slice (some ⟨g, 0, none⟩) n c), val (.pointer (some ⟨r, 0, none⟩)), val (.int .i64 (i : Int)), val (.pointer (some ⟨p, 0, none⟩)), val (.pointer (some ⟨p, 0, none⟩)), val (.pointer (some ⟨p, 1, none⟩)), val (.int .i64 fd), val (.agg #[.int .u64 0, .int .i64 fd]), val (.pointer (some ⟨g, i * 2, none⟩))] (by kernel_rfl) rfl (by kernel_rfl) rfl ⟨stb_val _, stb_val _, stb_val _, stb_val _, stb_val _, stb_val _, stb_val _, stb_val _, stb_val _, stb_val _, stb_val _, stb_val _, trivial⟩ (Below.refl _ _).drew ?_ ?_
  · refine each_cons ?_ ?_
    · intro a W hW hd
      have h0 : a.tmps[0]?.getD undef = .pointer (some ⟨p, 0, none⟩) := slot_eq (hd 0 (by decide))
      exact grows_value _ hW (by simp [execOp, Act.eval, h0]) rfl
    refine each_cons ?_ ?_
    · intro a W hW hd
      have h12 : a.tmps[12]?.getD undef = .pointer (some ⟨p, 0, none⟩) := slot_eq (hd 12 (by decide))
      refine grows_value _ hW (?_ : _ = _) rfl
      clear hd
      go_simp
    refine each_cons ?_ ?_
    · intro a W hW hd
      have h13 : a.tmps[13]?.getD undef = .pointer (some ⟨p, 0, none⟩) := slot_eq (hd 13 (by decide))
      refine grows_value _ hW (?_ : _ = _) rfl
      clear hd
      go_simp
    refine each_cons ?_ ?_
    · intro a W hW hd
      have h14 : a.tmps[14]?.getD undef = .pointer (some ⟨p, 0, none⟩) := slot_eq (hd 14 (by decide))
      have xx : W.cell? ⟨p, 0, none⟩ = some (.slice (some ⟨g, 0, none⟩) n c) := (hW.cell (p := ⟨p, 0, none⟩) HPL.out).trans xp0
      refine grows_value _ hW (?_ : _ = _) rfl
      clear hd
      go_simp
    refine each_cons ?_ ?_
    · intro a W hW hd
      have h3 : a.tmps[3]?.getD undef = .pointer (some ⟨r, 0, none⟩) := slot_eq (hd 3 (by decide))
      refine grows_value _ hW (?_ : _ = _) rfl
      clear hd
      go_simp
    refine each_cons ?_ ?_
    · intro a W hW hd
      have h16 : a.tmps[16]?.getD undef = .pointer (some ⟨r, 0, none⟩) := slot_eq (hd 16 (by decide))
      have xx : W.cell? ⟨r, 0, none⟩ = some (.int .i64 (i : Int)) := (hW.cell (p := ⟨r, 0, none⟩) HRL.out).trans xr0
      refine grows_value _ hW (?_ : _ = _) rfl
      clear hd
      go_simp
    refine each_cons ?_ ?_
    · intro a W hW hd
      have h0 : a.tmps[0]?.getD undef = .pointer (some ⟨p, 0, none⟩) := slot_eq (hd 0 (by decide))
      exact grows_value _ hW (by simp [execOp, Act.eval, h0]) rfl
    refine each_cons ?_ ?_
    · intro a W hW hd
      have h18 : a.tmps[18]?.getD undef = .pointer (some ⟨p, 0, none⟩) := slot_eq (hd 18 (by decide))
      refine grows_value _ hW (?_ : _ = _) rfl
      clear hd
      go_simp
    refine each_cons ?_ ?_
    · intro a W hW hd
      have h19 : a.tmps[19]?.getD undef = .pointer (some ⟨p, 0, none⟩) := slot_eq (hd 19 (by decide))
      refine grows_value _ hW (?_ : _ = _) rfl
      clear hd
      go_simp
    refine each_cons ?_ ?_
    · intro a W hW hd
      have h20 : a.tmps[20]?.getD undef = .pointer (some ⟨p, 1, none⟩) := slot_eq (hd 20 (by decide))
      have xx : W.cell? ⟨p, 1, none⟩ = some (.int .i64 fd) := (hW.cell (p := ⟨p, 1, none⟩) HPL.out).trans xp1
      refine grows_value _ hW (?_ : _ = _) rfl
      clear hd
      go_simp
    refine each_cons ?_ ?_
    · intro a W hW hd
      have h21 : a.tmps[21]?.getD undef = .int .i64 fd := slot_eq (hd 21 (by decide))
      refine grows_value _ hW (?_ : _ = _) rfl
      have hb := hbd W
      clear hd
      simp [execOp, Act.eval, h21, hb]
    refine each_cons ?_ ?_
    · intro a W hW hd
      have h15 : a.tmps[15]?.getD undef = .slice (some ⟨g, 0, none⟩) n c := slot_eq (hd 15 (by decide))
      have h17 : a.tmps[17]?.getD undef = .int .i64 (i : Int) := slot_eq (hd 17 (by decide))
      refine grows_value _ hW (?_ : _ = _) rfl
      clear hd
      go_simp
    exact each_nil
  · refine behind_val rfl ?_
    refine behind_val rfl ?_
    refine behind_val rfl ?_
    refine behind_val rfl ?_
    refine behind_val rfl ?_
    refine behind_val rfl ?_
    refine behind_val rfl ?_
    refine behind_val rfl ?_
    refine behind_val rfl ?_
    refine behind_val rfl ?_
    refine behind_val rfl ?_
    refine behind_val rfl ?_
    refine behind_nil fun W8 hCW8 hFW8 => ?_
    simp only [Act.put, List.setIfInBounds_toArray, List.set_cons_succ, List.set_cons_zero, List.drop_succ_cons, List.drop_zero]
    clear hFW8 hbd xp0 xp1 xr0
    have HX8 := Lib.hid (HX3.out.step hCW8)
    have HM8 : Hid (W8.heap[r]? = some (.cells #[.int .i64 (i : Int), .int .u64 (k : Int)] 95 (0, 0))) := Lib.hid ((hCW8.block _ (lt_heap HM3.out)).trans HM3.out)
    have HK8 : Hid (Kept (fun k => k = p ∨ k = g) w W8) := Lib.hid ((Kept.of_below HB3.out _).step hCW8)
    clear hCW8 HX3 HM3 HB3
    go_upto_region 6 with (first
      | (refine wpList_store_mid rfl 207 (.tmp 23) (.tmp 22) rfl g (i * 2) #[.int .u64 0, .int .i64 fd] rfl rfl (HX8.out.there hi) (by kernel_rfl) (by simp [Value.oneCell']) ?_))
    have HX9 : Hid (PX (W8.setCells g (i * 2) [.int .u64 0, .int .i64 fd]) p g n c fd fs lv S (fun k => if k = i then 0 else ha k) (fun k => if k = i then fd else bf k) F) := Lib.hid (HX8.out.put i 0 fd)
    have HM9 : Hid ((W8.setCells g (i * 2) [.int .u64 0, .int .i64 fd]).heap[r]? = some (.cells #[.int .i64 (i : Int), .int .u64 (k : Int)] 95 (0, 0))) := Lib.hid ((other_setCells HGR.out.symm _ _ _).trans HM8.out)
    have HK9 : Hid (Kept (fun k => k = p ∨ k = g) w (W8.setCells g (i * 2) [.int .u64 0, .int .i64 fd])) := Lib.hid (HK8.out.setCells (.inl (.inr rfl)) _ _)
    clear HX8 HM8 HK8
    try simp only [Act.put]
    generalize W8.setCells g (i * 2) [.int .u64 0, .int .i64 fd] = u9 at *
    have x1 : u9.cell? ⟨p, 1, none⟩ = some (.int .i64 fd) := blk_cell HX9.out.blk 1
    have y1 := blk_free HX9.out.blk 1
    have xr0 : u9.cell? ⟨r, 0, none⟩ = some (.int .i64 (i : Int)) := blk_cell HM9.out 0
    have HXA : Hid (PX (u9.setCell ⟨p, 1, none⟩ (.int .i64 (i : Int))) p g n c (i : Int) fs lv S (fun k => if k = i then 0 else ha k) (fun k => if k = i then fd else bf k) F) := Lib.hid (HX9.out.set1 _)
    have HKA := Lib.hid (HK9.out.setCell (p := ⟨p, 1, none⟩) (.inl (.inl rfl)) (.int .i64 (i : Int)))
    go_upto_region 7 with fail
    clear x1 y1 xr0 HX9 HM9 HK9
    generalize u9.setCell ⟨p, 1, none⟩ (.int .i64 (i : Int)) = ua at *
    have x3 : ua.cell? ⟨p, 3, none⟩ = some (.int .i64 (lv : Int)) := blk_cell HXA.out.blk 3
    have y3 := blk_free HXA.out.blk 3
    have zl : IntKind.i64.wrap ((lv : Int) - 1) = (lv : Int) - 1 := by rw [IntKind.wrap_i64]; omega
    have HXB : Hid (PX (ua.setCell ⟨p, 3, none⟩ (.int .i64 ((lv : Int) - 1))) p g n c (i : Int) fs (lv - 1) S (fun k => if k = i then 0 else ha k) (fun k => if k = i then fd else bf k) F) := Lib.hid (by
      have := HXA.out.set3 (lv - 1)
      rwa [show ((lv - 1 : Nat) : Int) = (lv : Int) - 1 by omega] at this)
    have HKB := Lib.hid (HKA.out.setCell (p := ⟨p, 3, none⟩) (.inl (.inl rfl)) (.int .i64 ((lv : Int) - 1)))
    go_wp2_with fail
    go_ret
    exact ⟨rfl, HXB.out, HKB.out⟩
end Go.Proofs.YtimcdnbfdkpffaaGreat
/- Stage 9: the landed Copy, New. -/
namespace Go.Proofs.YtimcdnbfdkpffaaGreat
set_option maxRecDepth 100000
open Go.RowKit
theorem Tryz.infoCL : (Tryz.prog.info? 207).map (fun i => (i.zero, i.size, i.bytes)) = some (some (.agg #[.int .u64 0, .int .i64 0]), 2, 16) := by kernel_rfl
set_option maxHeartbeats 1000000 in
theorem pclone_any {w : World} {p g n c : Nat} {fd : Int} {fs lv S : Nat} {ha : Nat → Nat} {bf : Nat → Int} {F : Nat → Prop} (h : PX w p g n c fd fs lv S ha bf F) (hn : n ≤ 65536) : Calls Tryz.prog 126 #[.slice (some ⟨g, 0, none⟩) n c] w fun e w' => ∃ g2 c2, e = .returned (.slice (some ⟨g2, 0, none⟩) n c2) ∧ w.heap.size ≤ g2 ∧ OwnC w' w.heap.size 207 2 (some ⟨g2, 0, none⟩) n c2 (pcell ha bf) ∧ Below w.heap.size w w' := by
  obtain ⟨i0, hi0, hz0, hz1, hz2⟩ := info_parts Tryz.infoCL
  have HI0 := Lib.hid hi0
  have HZ0 := Lib.hid hz0
  have HZ1 := Lib.hid hz1
  have HZ2 := Lib.hid hz2
  have hpos := h.pos
  have HO4 : Hid (OwnC (w.alloc (.cells #[] 207)) w.heap.size 207 2 (some ⟨w.heap.size, 0, none⟩) 0 0 (fun _ => .int .u64 0)) := Lib.hid (OwnC.fresh w _ _ rfl (Nat.le_refl _) _ _ _)
  have HR4 := Lib.hid (h.step (below_alloc w (.cells #[] 207))).row.rd
  clear hi0 hz0 hz1 hz2 h
  have hnil : ∀ W, (binOp .eql 187 (.slice (some ⟨g, 0, none⟩) n c) (.slice none 0 0)).run Tryz.prog W = .ok (.bool false) W := fun W => by kernel_rfl
  go_enter Tryz.func126, Tryz.ntmps126
  go_wp2_with (first
    | (at_builtin
       refine wpList_append_vals rfl (.tmp 5) (.tmp 6) 187 rfl w.heap.size 207 i0 (.agg #[.int .u64 0, .int .i64 0]) 2 Tryz.underlying187 HI0.out HZ0.out HZ1.out rfl (by decide) rfl HO4.out rfl HR4.out (fun k _ => pcell_one ha bf k) (by unfold maxLen; omega) (by rw [HZ2.out]; omega) (alloc_le w _) ?_
       intro A2 c2 u5 hown5 hg5 _
       have HO5 : Hid (OwnC u5 w.heap.size 207 2 A2 n c2 (pcell ha bf)) := Lib.hid (by
         rw [Nat.zero_add] at hown5
         exact hown5.same fun k _ => by unfold catV; rw [if_neg (by omega)]; rfl)
       have HB5 : Hid (Below w.heap.size w u5) := Lib.hid ((below_alloc w _).grown hg5 (alloc_le w _) fun k hk => HO4.out.at_ k hk)
       rw [Nat.zero_add]
       clear hown5 hg5))
  go_ret
  obtain ⟨g2, hg2, hgb, _⟩ := HO5.out.lies hpos
  subst hg2
  exact ⟨g2, c2, rfl, hgb, HO5.out, HB5.out⟩
set_option maxHeartbeats 1000000 in
theorem pcopy_any {w : World} {p g n c : Nat} {fd : Int} {fs lv S : Nat} {ha : Nat → Nat} {bf : Nat → Int} {F : Nat → Prop} (h : PX w p g n c fd fs lv S ha bf F) (hn : n ≤ 65536) : Calls Tryz.prog 81 #[.pointer (some ⟨p, 0, none⟩)] w fun e w' => ∃ b g2 c2, e = .returned (.pointer (some ⟨b, 0, none⟩)) ∧ PX w' b g2 n c2 fd fs lv S ha bf (fun k => k = b ∨ k = g2) ∧ w.heap.size ≤ b ∧ w.heap.size ≤ g2 ∧ Below w.heap.size w w' := by
  have HX := Lib.hid h
  have hpos := h.pos
  have hn0 : ((n : Int) == 0) = false := by simp; omega
  have x0 : w.cell? ⟨p, 0, none⟩ = some (.slice (some ⟨g, 0, none⟩) n c) := blk_cell h.blk 0
  clear h
  go_enter Tryz.func81, Tryz.ntmps81
  go_upto_region 3 with (first
    | (go_at_call 125
       refine (psize_c w p _ n c x0).mono ?_
       rintro e u1 ⟨rfl, hb⟩
       have HX1 := Lib.hid (HX.out.step hb)
       have HB1 := Lib.hid hb
       clear hb))
  clear x0
  go_upto_region 4 with (first
    | (refine wpList_load_row rfl 189 (.tmp 8) rfl p rfl 189 #[.slice (some ⟨g, 0, none⟩) n c, .int .i64 fd, .int .i64 (fs : Int), .int .i64 (lv : Int), .int .u64 (S : Int)] (0, 0) _ HX1.out.blk Tryz.underlying189 rfl (by kernel_rfl) ?_))
  have HM2 : Hid ((u1.alloc (.cells #[.slice (some ⟨g, 0, none⟩) n c, .int .i64 fd, .int .i64 (fs : Int), .int .i64 (lv : Int), .int .u64 (S : Int)] 189)).heap[u1.heap.size]? = some (.cells #[.slice (some ⟨g, 0, none⟩) n c, .int .i64 fd, .int .i64 (fs : Int), .int .i64 (lv : Int), .int .u64 (S : Int)] 189 (0, 0))) := Lib.hid (heap_alloc_new u1 _)
  have HB2 := Lib.hid (HB1.out.alloc HB1.out.size (.cells #[.slice (some ⟨g, 0, none⟩) n c, .int .i64 fd, .int .i64 (fs : Int), .int .i64 (lv : Int), .int .u64 (S : Int)] 189))
  have HX2 := Lib.hid (HX1.out.step (below_alloc u1 (.cells #[.slice (some ⟨g, 0, none⟩) n c, .int .i64 fd, .int .i64 (fs : Int), .int .i64 (lv : Int), .int .u64 (S : Int)] 189)))
  have HBL : Hid (w.heap.size ≤ u1.heap.size) := Lib.hid HB1.out.size
  obtain ⟨b, hb⟩ : ∃ b, b = u1.heap.size := ⟨_, rfl⟩
  rw [← hb] at HM2 HBL ⊢
  clear hb HX1 HB1
  generalize u1.alloc (.cells #[.slice (some ⟨g, 0, none⟩) n c, .int .i64 fd, .int .i64 (fs : Int), .int .i64 (lv : Int), .int .u64 (S : Int)] 189) = u2 at *
  have x0 : u2.cell? ⟨p, 0, none⟩ = some (.slice (some ⟨g, 0, none⟩) n c) := blk_cell HX2.out.blk 0
  go_upto_region 5 with (first
    | (go_at_call 126
       refine (pclone_any HX2.out hn).mono ?_
       rintro e u3 ⟨g2, c2, rfl, hg2, ho, hb⟩
       have HM3 : Hid (u3.heap[b]? = some (.cells #[.slice (some ⟨g, 0, none⟩) n c, .int .i64 fd, .int .i64 (fs : Int), .int .i64 (lv : Int), .int .u64 (S : Int)] 189 (0, 0))) := Lib.hid ((hb.block _ (lt_heap HM2.out)).trans HM2.out)
       have HO3 := Lib.hid ho
       have HB3 := Lib.hid (HB2.out.trans (hb.mono HB2.out.size))
       have HG2 : Hid (w.heap.size ≤ g2) := Lib.hid (Nat.le_trans HB2.out.size hg2)
       have HBG : Hid (b ≠ g2) := Lib.hid (by have := lt_heap HM2.out; omega)
       have x3 : u3.cell? ⟨b, 0, none⟩ = some (.slice (some ⟨g, 0, none⟩) n c) := blk_cell HM3.out 0
       have y3 := blk_free HM3.out 0
       clear hb ho hg2))
  have HM4 : Hid ((u3.setCell ⟨b, 0, none⟩ (.slice (some ⟨g2, 0, none⟩) n c2)).heap[b]? = some (.cells #[.slice (some ⟨g2, 0, none⟩) n c2, .int .i64 fd, .int .i64 (fs : Int), .int .i64 (lv : Int), .int .u64 (S : Int)] 189 (0, 0))) := Lib.hid (blk_set HM3.out 0 _)
  have HO4 : Hid (OwnC (u3.setCell ⟨b, 0, none⟩ (.slice (some ⟨g2, 0, none⟩) n c2)) 0 207 2 (some ⟨g2, 0, none⟩) n c2 (pcell ha bf)) := Lib.hid ((HO3.out.le (Nat.zero_le _)).block (Below.heap_setCell u3 ⟨b, 0, none⟩ _ g2 HBG.out.symm))
  have HB4 := Lib.hid (HB3.out.setCell (p := ⟨b, 0, none⟩) HBL.out (.slice (some ⟨g2, 0, none⟩) n c2))
  have hgl : g2 < u3.heap.size := by
    obtain ⟨g', e, _, hl, _⟩ := HO3.out.lies hpos
    injection e with e
    injection e with e
    omega
  have HGL : Hid (g2 < (u3.setCell ⟨b, 0, none⟩ (.slice (some ⟨g2, 0, none⟩) n c2)).heap.size) := Lib.hid (by simpa using hgl)
  clear x0 x3 y3 hgl
  go_wp2_with fail
  go_ret
  refine ⟨b, g2, c2, rfl, ⟨HM4.out, HO4.out, .inl rfl, .inr rfl, fun k hk => ?_, hpos⟩, HBL.out, HG2.out, HB4.out⟩
  rcases hk with rfl | rfl
  · exact lt_heap HM4.out
  · exact HGL.out
theorem pnew_bad (w : World) (n : Int) (h : n < 1 ∨ 65536 < n) : Calls Tryz.prog 65 #[.int .i64 n] w (ret (.tuple #[.pointer none, .int .i64 2]) w) := by
  rcases h with h | h
  · go_enter Tryz.func65, Tryz.ntmps65
    go_wp2_with fail
    go_ret2
    exact ⟨rfl, Below.refl _ _⟩
  · have h2 : ¬ n < 1 := by omega
    go_enter Tryz.func65, Tryz.ntmps65
    go_wp2_with fail
    go_ret2
    exact ⟨rfl, Below.refl _ _⟩
set_option maxHeartbeats 1000000 in
theorem pnew_any (w : World) (n : Nat) (h1 : 1 ≤ n) (h2 : n ≤ 65536) : Calls Tryz.prog 65 #[.int .i64 (n : Int)] w fun e w' => ∃ p g, e = .returned (.tuple #[.pointer (some ⟨p, 0, none⟩), .int .i64 0]) ∧ PX w' p g n n (-1) 0 0 0 (fun _ => 0) (fun _ => 0) (fun k => k = p ∨ k = g) ∧ w.heap.size ≤ p ∧ w.heap.size ≤ g ∧ Below w.heap.size w w' := by
  obtain ⟨i0, hi0, hz0, hz1, hz2⟩ := info_parts Tryz.infoCL
  have hmk : ∀ W : World, ∃ w', (Instr.makeSlice 187 (.int .i64 (n : Int)) (.int .i64 (n : Int))).run Tryz.prog W = .ok (.slice (some ⟨W.heap.size, 0, none⟩) n n) w' ∧ OwnC w' W.heap.size 207 2 (some ⟨W.heap.size, 0, none⟩) n n (pcell (fun _ => 0) (fun _ => 0)) ∧ W.grownBy w' none := fun W => by
    obtain ⟨w', h1, h2, h3⟩ := run_make_full (P := Tryz.prog) (w := W) W.heap.size 187 207 i0 (.agg #[.int .u64 0, .int .i64 0]) 2 Tryz.underlying187 hi0 hz0 hz1 .i64 .i64 n (by rw [hz2]; omega) (by unfold maxLen; omega) (Nat.le_refl _)
    refine ⟨w', h1, ?_, h3⟩
    unfold OwnC
    have e1 : (madeCells (Value.agg #[.int .u64 0, .int .i64 0]).cells (n * 2)).toList = vals (n * 2) (pcell (fun _ => 0) (fun _ => 0)) := by
      refine vals_eq (by simp [size_madeCells]) fun k hk => ?_
      show (madeCells #[.int .u64 0, .int .i64 0] (n * 2)).toList[k]? = _
      unfold pcell
      simp [madeCells]
      refine ⟨k, List.getElem?_range hk, ?_⟩
      rcases (show k % 2 = 0 ∨ k % 2 = 1 by omega) with e | e
      · rw [e]; rfl
      · rw [e]; rfl
    rw [← e1]
    exact h2
  obtain ⟨u1, hm, ho, hg⟩ := hmk w
  have HO := Lib.hid ho
  have HB : Hid (Below w.heap.size w u1) := Lib.hid ((Below.refl _ _).grown hg (Nat.le_refl _) fun _ h => nomatch h)
  have hbd : ∀ (A : Option Addr) (w : World), (Instr.build 189 #[(0, .slice A n n), (1, .int .i64 (-1))]).run Tryz.prog w = .ok (.agg #[.slice A n n, .int .i64 (-1), .int .i64 0, .int .i64 0, .int .u64 0]) w := fun A w => by kernel_rfl
  clear ho hg hmk hi0 hz0 hz1 hz2
  have n1 : ¬ (n : Int) < 1 := by omega
  have n2 : ¬ (65536 : Int) < (n : Int) := by omega
  go_enter Tryz.func65, Tryz.ntmps65
  go_wp2_with fail
  go_ret2
  have hl := HB.out.size
  obtain ⟨g', e, _, hgl, _⟩ := HO.out.lies h1
  injection e with e
  injection e with e
  have hsz : (u1.alloc (.cells #[.slice (some ⟨w.heap.size, 0, none⟩) n n, .int .i64 (-1), .int .i64 0, .int .i64 0, .int .u64 0] 189)).heap.size = u1.heap.size + 1 := by simp
  refine ⟨u1.heap.size, rfl, w.heap.size, ⟨heap_alloc_new u1 _, (HO.out.alloc _).le (Nat.zero_le _), .inl rfl, .inr rfl, fun k hk => ?_, h1⟩, hl, Nat.le_refl _, HB.out.alloc hl _⟩
  rcases hk with rfl | rfl
  · omega
  · omega
end Go.Proofs.YtimcdnbfdkpffaaGreat
