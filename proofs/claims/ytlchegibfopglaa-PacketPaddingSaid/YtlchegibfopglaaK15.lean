import Derived.Test.YtlchegibfopglaaK14
/- Layer 6: the document's Within. -/
namespace Go.Proofs.Ytlchegibfopglaa
set_option maxRecDepth 100000
open Go.RowKit
set_option maxRecDepth 100000 in
set_option maxHeartbeats 4000000 in
theorem rwithin_false (A : Option Addr) (n c : Nat) (f : Nat → Int) (hf : Byt f) (hn : n ≤ 140737488355328) (hcap : n ≤ c) (hc' : c ≤ 9223372036854775807) (w : World) (hr : Rd w w.heap.size A n f) :
    Calls Try.prog 35 #[.bool false, .slice A n c] w (WiOut false f n w) := by
  have HR := Lib.hid hr
  have HF := Lib.hid hf
  clear hr hf
  unfold WiOut
  obtain ⟨R, hR⟩ : ∃ R, R = winE false f n := ⟨_, rfl⟩
  obtain ⟨TT, hT⟩ : ∃ TT, TT = wT false f n := ⟨_, rfl⟩
  rw [← hR, ← hT]
  have HRE := Lib.hid hR
  have HTE := Lib.hid hT
  clear hR hT
  obtain ⟨X, hX⟩ : ∃ X, X = win false f n := ⟨_, rfl⟩
  have e1 : (w.alloc (.cells tupz 26)).heap.size = w.heap.size + 1 := by simp
  have HM1 : Hid (Mem w (((w.alloc (.cells tupz 26)).alloc (.cells tupz 26)).setRow (w.heap.size + 1) tupz) [(w.heap.size, .cells tupz 26 (0, 0)), (w.heap.size + 1, .cells tupz 26 (0, 0))]) := Lib.hid ((((Mem.nil w).alloc (.cells tupz 26)).new (.cells tupz 26) (w.heap.size + 1) e1.symm).row 1 rfl tupz)
  have HQ1 : Hid (((w.alloc (.cells tupz 26)).alloc (.cells tupz 26)).heap[w.heap.size + 1]? = some (.cells tupz 26 (0, 0))) := by rw [← e1]; exact heap_alloc_new _ _
  clear e1
  have HFO : Hid (∀ W, Rd W W.heap.size A n f → Calls Try.prog 53 #[.slice A n c] W (BkOut false (win4 f n) (winS false f) (winD false f) W)) := Lib.hid fun W h => four_any A n c f HF.out hn hcap hc' W h
  have HSI : Hid (∀ W, Rd W W.heap.size A n f → Calls Try.prog 54 #[.slice A n c] W (BkOut true (win6 f n) (winS true f) (winD true f) W)) := Lib.hid fun W h => six_any A n c f HF.out hn hcap hc' W h
  obtain ⟨X4, hX4⟩ : ∃ X4, X4 = win4 f n := ⟨_, rfl⟩
  obtain ⟨X6, hX6⟩ : ∃ X6, X6 = win6 f n := ⟨_, rfl⟩
  rw [← hX4] at HFO
  rw [← hX6] at HSI
  have HXX : Hid (X = win false f n) := Lib.hid hX
  have HX1 : Hid (X = X4) := Lib.hid (hX.trans hX4.symm)
  clear hX hX4 hX6
  obtain ⟨E, a, P⟩ := X
  obtain ⟨E4, a4, P4⟩ := X4
  go_enter Try.func35, Try.ntmps35
  go_upto_region 2 with (first
    | (refine wpList_store_row rfl 26 (.tmp 6) (.tmp 10) rfl (w.heap.size + 1) tupz rfl rfl 26 tupz HQ1.out (by kernel_rfl) rfl tupz_one ?_))
  change Code.wp _ _ _ _ (((w.alloc (.cells tupz 26)).alloc (.cells tupz 26)).setRow (w.heap.size + 1) tupz)
  clear HQ1
  generalize ((w.alloc (.cells tupz 26)).alloc (.cells tupz 26)).setRow (w.heap.size + 1) tupz = u1 at *
  go_wp2_with fail
  go_at_call 53
  refine (HFO.out u1 (HM1.out.rd HR.out)).mono ?_
  rintro e u2 ⟨v, pr, ss, dd, rfl, hb2, hok⟩
  have HM2 := Lib.hid (HM1.out.step hb2)
  have HOK := Lib.hid hok
  clear hb2 hok HFO HM1
  have HQ : Hid ((u2.alloc (.cells tupz 26)).heap[u2.heap.size]? = some (.cells tupz 26 (0, 0))) := heap_alloc_new u2 _
  go_upto_region 3 with (first
    | (refine wpList_store_row rfl 26 (.tmp 7) (.tmp 14) rfl u2.heap.size (tupc v pr ss dd 0 0) rfl rfl 26 tupz HQ.out (by kernel_rfl) rfl (tup_one ..) ?_))
  change Code.wp _ _ _ _ ((u2.alloc (.cells tupz 26)).setRow u2.heap.size (tupc v pr ss dd 0 0))
  obtain ⟨q, hq⟩ : ∃ q, q = u2.heap.size := ⟨_, rfl⟩
  have HM3 : Hid (Mem w ((u2.alloc (.cells tupz 26)).setRow q (tupc v pr ss dd 0 0)) [(w.heap.size, .cells tupz 26 (0, 0)), (w.heap.size + 1, .cells tupz 26 (0, 0)), (q, .cells (tupc v pr ss dd 0 0) 26 (0, 0))]) := Lib.hid ((HM2.out.new (.cells tupz 26) q hq).row 2 rfl (tupc v pr ss dd 0 0))
  rw [← hq]
  clear hq HQ HM2
  generalize (u2.alloc (.cells tupz 26)).setRow q (tupc v pr ss dd 0 0) = u3 at *
  clear HSI
  obtain ⟨rfl, rfl, rfl⟩ : E = E4 ∧ a = a4 ∧ P = P4 := by
    have h := HX1.out
    injection h with h1 h
    injection h with h2 h3
    exact ⟨h1, h2, h3⟩
  clear HX1
  go_upto_if 25 with fail
  by_cases c0 : E = 0
  · subst c0
    obtain ⟨e1, e2, e3, e4⟩ := HOK.out rfl
    subst e1
    have e5 : pr = P := e2
    subst e5
    rw [tup_same e3 e4] at HM3
    clear HOK e2 e3 e4
    have ha := win_le HXX.out.symm
    have x1 : u3.cell? ⟨q, 1, none⟩ = some (.int .u8 pr) := blk_cell (HM3.out.get 2 rfl) 1
    by_cases c1 : pr = 6 ∨ pr = 17
    · have N1 := Lib.hid c1
      have k7 : (pr != 6) = false ∨ ((pr != 6) = true ∧ (pr != 17) = false) := by rcases N1.out with h | h <;> subst h <;> simp
      clear c1
      rcases k7 with k7 | ⟨k7, k8⟩
      all_goals
        by_cases c2 : n - a < 4
        · have c2' : (n : Int) - (a : Int) < 4 := by omega
          have hw : IntKind.i64.wrap ((n : Int) - (a : Int)) = (n : Int) - (a : Int) := by rw [IntKind.wrap_i64]; omega
          have hRe : R = 4 := HRE.out.trans (winE_2 HXX.out.symm N1.out c2)
          have hTe : TT = tupz := HTE.out.trans (wT_no (by rw [← HRE.out, hRe]; decide))
          go_upto_region 10 with fail
          clear x1
          go_wp2_with (first
            | (refine wpList_load_row rfl 26 (.tmp 6) rfl (w.heap.size + 1) rfl 26 tupz (0, 0) _ (HM3.out.get 1 rfl) Try.underlying26 rfl (by kernel_rfl) ?_)
            | (refine wpList_store_row rfl 26 (.tmp 4) (.tmp 42) rfl w.heap.size tupz rfl rfl 26 tupz (HM3.out.get 0 rfl) (by kernel_rfl) rfl tupz_one ?_))
          refine bodyPost_ret (v := .tuple #[.agg tupz, .int .i64 4]) (results_row1 Try.results35 _ _ w.heap.size 26 tupz (0, 0) _ rfl (setRow_heap _ w.heap.size _ tupz _ _ (HM3.out.get 0 rfl)) Try.underlying26 rfl (by kernel_rfl)) rfl ?_
          exact ⟨by rw [hRe, hTe] <;> rfl, below_setRow HM3.out.below (Nat.le_refl _) _⟩
        · have c2' : (4 : Int) ≤ (n : Int) - (a : Int) := by omega
          have hw : IntKind.i64.wrap ((n : Int) - (a : Int)) = (n : Int) - (a : Int) := by rw [IntKind.wrap_i64]; omega
          have hw2 : IntKind.i64.wrap ((a : Int) + 2) = (a : Int) + 2 := by rw [IntKind.wrap_i64]; omega
          have hRe : R = 0 := HRE.out.trans (winE_3 HXX.out.symm N1.out c2)
          have hTe : TT = tupc false pr (winS false f) (winD false f) (w2 f (a + 2)) (w2 f a) := HTE.out.trans (wT_ok (by rw [← HRE.out]; exact hRe) HXX.out.symm)
          have HN2 : Hid (∀ W, Rd W W.heap.size A n f → Calls Try.prog 30 #[.slice A n c, .int .i64 ((a : Int) + 2), .int .i64 2] W fun e w' => e = .returned (.int .u32 (w2 f (a + 2))) ∧ W = w') := Lib.hid fun W hr => by
            have h := rnum_any A n c (a + 2) 2 f HF.out (by omega) (by omega) (by omega) W _ hr
            rw [numk_2, show ((a + 2 : Nat) : Int) = (a : Int) + 2 by omega] at h
            exact h
          have HN0 : Hid (∀ W, Rd W W.heap.size A n f → Calls Try.prog 30 #[.slice A n c, .int .i64 (a : Int), .int .i64 2] W fun e w' => e = .returned (.int .u32 (w2 f a)) ∧ W = w') := Lib.hid fun W hr => by
            have h := rnum_any A n c a 2 f HF.out (by omega) (by omega) (by omega) W _ hr
            rw [numk_2] at h
            exact h
          have b0 := w2_bd HF.out a
          have b2 := w2_bd HF.out (a + 2)
          have z0 : IntKind.u16.wrap (w2 f a) = w2 f a := by rw [IntKind.wrap_u16]; omega
          have z2 : IntKind.u16.wrap (w2 f (a + 2)) = w2 f (a + 2) := by rw [IntKind.wrap_u16]; omega
          generalize w2 f a = y0 at *
          generalize w2 f (a + 2) = y2 at *
          have x34 : u3.cell? ⟨q, 34, none⟩ = some (.int .u16 0) := blk_cell (HM3.out.get 2 rfl) 34
          have y34 := blk_free (HM3.out.get 2 rfl) 34
          go_upto_region 11 with fail
          go_wp2_with fail
          go_at_call 30
          refine (HN2.out _ (HM3.out.rd HR.out)).mono ?_
          rintro e w' ⟨rfl, rfl⟩
          go_upto_region 12 with fail
          have HM5 : Hid (Mem w (u3.setCell ⟨q, 34, none⟩ (.int .u16 y2)) [(w.heap.size, .cells tupz 26 (0, 0)), (w.heap.size + 1, .cells tupz 26 (0, 0)), (q, .cells (tupc false pr (winS false f) (winD false f) y2 0) 26 (0, 0))]) := Lib.hid (HM3.out.set 2 rfl 34 (.int .u16 y2))
          clear x34 y34 x1 HN2 HM3
          generalize u3.setCell ⟨q, 34, none⟩ (.int .u16 y2) = u5 at *
          have x35 : u5.cell? ⟨q, 35, none⟩ = some (.int .u16 0) := blk_cell (HM5.out.get 2 rfl) 35
          have y35 := blk_free (HM5.out.get 2 rfl) 35
          go_wp2_with fail
          go_at_call 30
          refine (HN0.out _ (HM5.out.rd HR.out)).mono ?_
          rintro e w' ⟨rfl, rfl⟩
          go_upto_region 13 with fail
          have HM6 : Hid (Mem w (u5.setCell ⟨q, 35, none⟩ (.int .u16 y0)) [(w.heap.size, .cells tupz 26 (0, 0)), (w.heap.size + 1, .cells tupz 26 (0, 0)), (q, .cells (tupc false pr (winS false f) (winD false f) y2 y0) 26 (0, 0))]) := Lib.hid (HM5.out.set 2 rfl 35 (.int .u16 y0))
          clear x35 y35 HN0 HM5
          generalize u5.setCell ⟨q, 35, none⟩ (.int .u16 y0) = u6 at *
          go_wp2_with (first
            | (refine wpList_load_row rfl 26 (.tmp 7) rfl q rfl 26 (tupc false pr (winS false f) (winD false f) y2 y0) (0, 0) _ (HM6.out.get 2 rfl) Try.underlying26 rfl (by kernel_rfl) ?_)
            | (refine wpList_store_row rfl 26 (.tmp 4) (.tmp 54) rfl w.heap.size (tupc false pr (winS false f) (winD false f) y2 y0) rfl rfl 26 tupz (HM6.out.get 0 rfl) (by kernel_rfl) rfl (tup_one ..) ?_))
          refine bodyPost_ret (v := .tuple #[.agg (tupc false pr (winS false f) (winD false f) y2 y0), .int .i64 0]) (results_row1 Try.results35 _ _ w.heap.size 26 (tupc false pr (winS false f) (winD false f) y2 y0) (0, 0) _ rfl (setRow_heap _ w.heap.size _ (tupc false pr (winS false f) (winD false f) y2 y0) _ _ (HM6.out.get 0 rfl)) Try.underlying26 rfl (by kernel_rfl)) rfl ?_
          exact ⟨by rw [hRe, hTe] <;> rfl, below_setRow HM6.out.below (Nat.le_refl _) _⟩
    · have k6 : (pr != 6) = true := by simp; omega
      have k7 : (pr != 17) = true := by simp; omega
      have hRe : R = 10 := HRE.out.trans (winE_1 HXX.out.symm ⟨by omega, by omega⟩)
      have hTe : TT = tupz := HTE.out.trans (wT_no (by rw [← HRE.out, hRe]; decide))
      clear c1
      go_upto_region 8 with fail
      clear x1
      go_wp2_with (first
        | (refine wpList_load_row rfl 26 (.tmp 6) rfl (w.heap.size + 1) rfl 26 tupz (0, 0) _ (HM3.out.get 1 rfl) Try.underlying26 rfl (by kernel_rfl) ?_)
        | (refine wpList_store_row rfl 26 (.tmp 4) (.tmp 36) rfl w.heap.size tupz rfl rfl 26 tupz (HM3.out.get 0 rfl) (by kernel_rfl) rfl tupz_one ?_))
      refine bodyPost_ret (v := .tuple #[.agg tupz, .int .i64 10]) (results_row1 Try.results35 _ _ w.heap.size 26 tupz (0, 0) _ rfl (setRow_heap _ w.heap.size _ tupz _ _ (HM3.out.get 0 rfl)) Try.underlying26 rfl (by kernel_rfl)) rfl ?_
      exact ⟨by rw [hRe, hTe] <;> rfl, below_setRow HM3.out.below (Nat.le_refl _) _⟩
  · have c0' : (E != 0) = true := by simpa using c0
    have hRe : R = E := HRE.out.trans (winE_0 HXX.out.symm c0)
    have hTe : TT = tupz := HTE.out.trans (wT_no (by rw [← HRE.out, hRe]; exact c0))
    go_wp2_with (first
      | (refine wpList_load_row rfl 26 (.tmp 6) rfl (w.heap.size + 1) rfl 26 tupz (0, 0) _ (HM3.out.get 1 rfl) Try.underlying26 rfl (by kernel_rfl) ?_)
      | (refine wpList_store_row rfl 26 (.tmp 4) (.tmp 26) rfl w.heap.size tupz rfl rfl 26 tupz (HM3.out.get 0 rfl) (by kernel_rfl) rfl tupz_one ?_))
    refine bodyPost_ret (v := .tuple #[.agg tupz, .int .i64 E]) (results_row1 Try.results35 _ _ w.heap.size 26 tupz (0, 0) _ rfl (setRow_heap _ w.heap.size _ tupz _ _ (HM3.out.get 0 rfl)) Try.underlying26 rfl (by kernel_rfl)) rfl ?_
    exact ⟨by rw [hRe, hTe] <;> rfl, below_setRow HM3.out.below (Nat.le_refl _) _⟩
set_option maxRecDepth 100000 in
set_option maxHeartbeats 4000000 in
theorem rwithin_true (A : Option Addr) (n c : Nat) (f : Nat → Int) (hf : Byt f) (hn : n ≤ 140737488355328) (hcap : n ≤ c) (hc' : c ≤ 9223372036854775807) (w : World) (hr : Rd w w.heap.size A n f) :
    Calls Try.prog 35 #[.bool true, .slice A n c] w (WiOut true f n w) := by
  have HR := Lib.hid hr
  have HF := Lib.hid hf
  clear hr hf
  unfold WiOut
  obtain ⟨R, hR⟩ : ∃ R, R = winE true f n := ⟨_, rfl⟩
  obtain ⟨TT, hT⟩ : ∃ TT, TT = wT true f n := ⟨_, rfl⟩
  rw [← hR, ← hT]
  have HRE := Lib.hid hR
  have HTE := Lib.hid hT
  clear hR hT
  obtain ⟨X, hX⟩ : ∃ X, X = win true f n := ⟨_, rfl⟩
  have e1 : (w.alloc (.cells tupz 26)).heap.size = w.heap.size + 1 := by simp
  have HM1 : Hid (Mem w (((w.alloc (.cells tupz 26)).alloc (.cells tupz 26)).setRow (w.heap.size + 1) tupz) [(w.heap.size, .cells tupz 26 (0, 0)), (w.heap.size + 1, .cells tupz 26 (0, 0))]) := Lib.hid ((((Mem.nil w).alloc (.cells tupz 26)).new (.cells tupz 26) (w.heap.size + 1) e1.symm).row 1 rfl tupz)
  have HQ1 : Hid (((w.alloc (.cells tupz 26)).alloc (.cells tupz 26)).heap[w.heap.size + 1]? = some (.cells tupz 26 (0, 0))) := by rw [← e1]; exact heap_alloc_new _ _
  clear e1
  have HFO : Hid (∀ W, Rd W W.heap.size A n f → Calls Try.prog 53 #[.slice A n c] W (BkOut false (win4 f n) (winS false f) (winD false f) W)) := Lib.hid fun W h => four_any A n c f HF.out hn hcap hc' W h
  have HSI : Hid (∀ W, Rd W W.heap.size A n f → Calls Try.prog 54 #[.slice A n c] W (BkOut true (win6 f n) (winS true f) (winD true f) W)) := Lib.hid fun W h => six_any A n c f HF.out hn hcap hc' W h
  obtain ⟨X4, hX4⟩ : ∃ X4, X4 = win4 f n := ⟨_, rfl⟩
  obtain ⟨X6, hX6⟩ : ∃ X6, X6 = win6 f n := ⟨_, rfl⟩
  rw [← hX4] at HFO
  rw [← hX6] at HSI
  have HXX : Hid (X = win true f n) := Lib.hid hX
  have HX1 : Hid (X = X6) := Lib.hid (hX.trans hX6.symm)
  clear hX hX4 hX6
  obtain ⟨E, a, P⟩ := X
  obtain ⟨E4, a4, P4⟩ := X4
  go_enter Try.func35, Try.ntmps35
  go_upto_region 2 with (first
    | (refine wpList_store_row rfl 26 (.tmp 6) (.tmp 10) rfl (w.heap.size + 1) tupz rfl rfl 26 tupz HQ1.out (by kernel_rfl) rfl tupz_one ?_))
  change Code.wp _ _ _ _ (((w.alloc (.cells tupz 26)).alloc (.cells tupz 26)).setRow (w.heap.size + 1) tupz)
  clear HQ1
  generalize ((w.alloc (.cells tupz 26)).alloc (.cells tupz 26)).setRow (w.heap.size + 1) tupz = u1 at *
  go_wp2_with fail
  go_at_call 53
  refine (HFO.out u1 (HM1.out.rd HR.out)).mono ?_
  rintro e u2 ⟨v, pr, ss, dd, rfl, hb2, hok⟩
  have HM2 := Lib.hid (HM1.out.step hb2)
  have HOK := Lib.hid hok
  clear hb2 hok HFO HM1
  have HQ : Hid ((u2.alloc (.cells tupz 26)).heap[u2.heap.size]? = some (.cells tupz 26 (0, 0))) := heap_alloc_new u2 _
  go_upto_region 3 with (first
    | (refine wpList_store_row rfl 26 (.tmp 7) (.tmp 14) rfl u2.heap.size (tupc v pr ss dd 0 0) rfl rfl 26 tupz HQ.out (by kernel_rfl) rfl (tup_one ..) ?_))
  change Code.wp _ _ _ _ ((u2.alloc (.cells tupz 26)).setRow u2.heap.size (tupc v pr ss dd 0 0))
  obtain ⟨q, hq⟩ : ∃ q, q = u2.heap.size := ⟨_, rfl⟩
  have HM3 : Hid (Mem w ((u2.alloc (.cells tupz 26)).setRow q (tupc v pr ss dd 0 0)) [(w.heap.size, .cells tupz 26 (0, 0)), (w.heap.size + 1, .cells tupz 26 (0, 0)), (q, .cells (tupc v pr ss dd 0 0) 26 (0, 0))]) := Lib.hid ((HM2.out.new (.cells tupz 26) q hq).row 2 rfl (tupc v pr ss dd 0 0))
  rw [← hq]
  clear hq HQ HM2
  generalize (u2.alloc (.cells tupz 26)).setRow q (tupc v pr ss dd 0 0) = u3 at *
  clear HOK
  obtain ⟨cz, hcz⟩ : ∃ cz, cz = tupc v pr ss dd 0 0 := ⟨_, rfl⟩
  rw [← hcz] at HM3
  have hcs : cz.size = 36 := by rw [hcz]; rfl
  clear hcz
  obtain ⟨E6, a6, P6⟩ := X6
  go_upto_region 4 with fail
  go_wp2_with fail
  go_at_call 54
  refine (HSI.out u3 (HM3.out.rd HR.out)).mono ?_
  rintro e u33 ⟨v, pr, ss, dd, rfl, hb3, hok⟩
  have HM33 := Lib.hid (HM3.out.step hb3)
  have HOK := Lib.hid hok
  clear hb3 hok HSI HM3
  go_upto_region 5 with (first
    | (refine wpList_store_row rfl 26 (.tmp 7) (.tmp 21) rfl q (tupc v pr ss dd 0 0) rfl rfl 26 cz (HM33.out.get 2 rfl) (by kernel_rfl) (by rw [hcs]; rfl) (tup_one ..) ?_))
  have HM4 : Hid (Mem w (u33.setRow q (tupc v pr ss dd 0 0)) [(w.heap.size, .cells tupz 26 (0, 0)), (w.heap.size + 1, .cells tupz 26 (0, 0)), (q, .cells (tupc v pr ss dd 0 0) 26 (0, 0))]) := Lib.hid (HM33.out.row 2 rfl (tupc v pr ss dd 0 0))
  clear HM33
  generalize u33.setRow q (tupc v pr ss dd 0 0) = u4 at *
  obtain ⟨rfl, rfl, rfl⟩ : E = E6 ∧ a = a6 ∧ P = P6 := by
    have h := HX1.out
    injection h with h1 h
    injection h with h2 h3
    exact ⟨h1, h2, h3⟩
  clear HX1
  go_upto_if 25 with fail
  by_cases c0 : E = 0
  · subst c0
    obtain ⟨e1, e2, e3, e4⟩ := HOK.out rfl
    subst e1
    have e5 : pr = P := e2
    subst e5
    rw [tup_same e3 e4] at HM4
    clear HOK e2 e3 e4
    have ha := win_le HXX.out.symm
    have x1 : u4.cell? ⟨q, 1, none⟩ = some (.int .u8 pr) := blk_cell (HM4.out.get 2 rfl) 1
    by_cases c1 : pr = 6 ∨ pr = 17
    · have N1 := Lib.hid c1
      have k7 : (pr != 6) = false ∨ ((pr != 6) = true ∧ (pr != 17) = false) := by rcases N1.out with h | h <;> subst h <;> simp
      clear c1
      rcases k7 with k7 | ⟨k7, k8⟩
      all_goals
        by_cases c2 : n - a < 4
        · have c2' : (n : Int) - (a : Int) < 4 := by omega
          have hw : IntKind.i64.wrap ((n : Int) - (a : Int)) = (n : Int) - (a : Int) := by rw [IntKind.wrap_i64]; omega
          have hRe : R = 4 := HRE.out.trans (winE_2 HXX.out.symm N1.out c2)
          have hTe : TT = tupz := HTE.out.trans (wT_no (by rw [← HRE.out, hRe]; decide))
          go_upto_region 10 with fail
          clear x1
          go_wp2_with (first
            | (refine wpList_load_row rfl 26 (.tmp 6) rfl (w.heap.size + 1) rfl 26 tupz (0, 0) _ (HM4.out.get 1 rfl) Try.underlying26 rfl (by kernel_rfl) ?_)
            | (refine wpList_store_row rfl 26 (.tmp 4) (.tmp 42) rfl w.heap.size tupz rfl rfl 26 tupz (HM4.out.get 0 rfl) (by kernel_rfl) rfl tupz_one ?_))
          refine bodyPost_ret (v := .tuple #[.agg tupz, .int .i64 4]) (results_row1 Try.results35 _ _ w.heap.size 26 tupz (0, 0) _ rfl (setRow_heap _ w.heap.size _ tupz _ _ (HM4.out.get 0 rfl)) Try.underlying26 rfl (by kernel_rfl)) rfl ?_
          exact ⟨by rw [hRe, hTe] <;> rfl, below_setRow HM4.out.below (Nat.le_refl _) _⟩
        · have c2' : (4 : Int) ≤ (n : Int) - (a : Int) := by omega
          have hw : IntKind.i64.wrap ((n : Int) - (a : Int)) = (n : Int) - (a : Int) := by rw [IntKind.wrap_i64]; omega
          have hw2 : IntKind.i64.wrap ((a : Int) + 2) = (a : Int) + 2 := by rw [IntKind.wrap_i64]; omega
          have hRe : R = 0 := HRE.out.trans (winE_3 HXX.out.symm N1.out c2)
          have hTe : TT = tupc true pr (winS true f) (winD true f) (w2 f (a + 2)) (w2 f a) := HTE.out.trans (wT_ok (by rw [← HRE.out]; exact hRe) HXX.out.symm)
          have HN2 : Hid (∀ W, Rd W W.heap.size A n f → Calls Try.prog 30 #[.slice A n c, .int .i64 ((a : Int) + 2), .int .i64 2] W fun e w' => e = .returned (.int .u32 (w2 f (a + 2))) ∧ W = w') := Lib.hid fun W hr => by
            have h := rnum_any A n c (a + 2) 2 f HF.out (by omega) (by omega) (by omega) W _ hr
            rw [numk_2, show ((a + 2 : Nat) : Int) = (a : Int) + 2 by omega] at h
            exact h
          have HN0 : Hid (∀ W, Rd W W.heap.size A n f → Calls Try.prog 30 #[.slice A n c, .int .i64 (a : Int), .int .i64 2] W fun e w' => e = .returned (.int .u32 (w2 f a)) ∧ W = w') := Lib.hid fun W hr => by
            have h := rnum_any A n c a 2 f HF.out (by omega) (by omega) (by omega) W _ hr
            rw [numk_2] at h
            exact h
          have b0 := w2_bd HF.out a
          have b2 := w2_bd HF.out (a + 2)
          have z0 : IntKind.u16.wrap (w2 f a) = w2 f a := by rw [IntKind.wrap_u16]; omega
          have z2 : IntKind.u16.wrap (w2 f (a + 2)) = w2 f (a + 2) := by rw [IntKind.wrap_u16]; omega
          generalize w2 f a = y0 at *
          generalize w2 f (a + 2) = y2 at *
          have x34 : u4.cell? ⟨q, 34, none⟩ = some (.int .u16 0) := blk_cell (HM4.out.get 2 rfl) 34
          have y34 := blk_free (HM4.out.get 2 rfl) 34
          go_upto_region 11 with fail
          go_wp2_with fail
          go_at_call 30
          refine (HN2.out _ (HM4.out.rd HR.out)).mono ?_
          rintro e w' ⟨rfl, rfl⟩
          go_upto_region 12 with fail
          have HM5 : Hid (Mem w (u4.setCell ⟨q, 34, none⟩ (.int .u16 y2)) [(w.heap.size, .cells tupz 26 (0, 0)), (w.heap.size + 1, .cells tupz 26 (0, 0)), (q, .cells (tupc true pr (winS true f) (winD true f) y2 0) 26 (0, 0))]) := Lib.hid (HM4.out.set 2 rfl 34 (.int .u16 y2))
          clear x34 y34 x1 HN2 HM4
          generalize u4.setCell ⟨q, 34, none⟩ (.int .u16 y2) = u5 at *
          have x35 : u5.cell? ⟨q, 35, none⟩ = some (.int .u16 0) := blk_cell (HM5.out.get 2 rfl) 35
          have y35 := blk_free (HM5.out.get 2 rfl) 35
          go_wp2_with fail
          go_at_call 30
          refine (HN0.out _ (HM5.out.rd HR.out)).mono ?_
          rintro e w' ⟨rfl, rfl⟩
          go_upto_region 13 with fail
          have HM6 : Hid (Mem w (u5.setCell ⟨q, 35, none⟩ (.int .u16 y0)) [(w.heap.size, .cells tupz 26 (0, 0)), (w.heap.size + 1, .cells tupz 26 (0, 0)), (q, .cells (tupc true pr (winS true f) (winD true f) y2 y0) 26 (0, 0))]) := Lib.hid (HM5.out.set 2 rfl 35 (.int .u16 y0))
          clear x35 y35 HN0 HM5
          generalize u5.setCell ⟨q, 35, none⟩ (.int .u16 y0) = u6 at *
          go_wp2_with (first
            | (refine wpList_load_row rfl 26 (.tmp 7) rfl q rfl 26 (tupc true pr (winS true f) (winD true f) y2 y0) (0, 0) _ (HM6.out.get 2 rfl) Try.underlying26 rfl (by kernel_rfl) ?_)
            | (refine wpList_store_row rfl 26 (.tmp 4) (.tmp 54) rfl w.heap.size (tupc true pr (winS true f) (winD true f) y2 y0) rfl rfl 26 tupz (HM6.out.get 0 rfl) (by kernel_rfl) rfl (tup_one ..) ?_))
          refine bodyPost_ret (v := .tuple #[.agg (tupc true pr (winS true f) (winD true f) y2 y0), .int .i64 0]) (results_row1 Try.results35 _ _ w.heap.size 26 (tupc true pr (winS true f) (winD true f) y2 y0) (0, 0) _ rfl (setRow_heap _ w.heap.size _ (tupc true pr (winS true f) (winD true f) y2 y0) _ _ (HM6.out.get 0 rfl)) Try.underlying26 rfl (by kernel_rfl)) rfl ?_
          exact ⟨by rw [hRe, hTe] <;> rfl, below_setRow HM6.out.below (Nat.le_refl _) _⟩
    · have k6 : (pr != 6) = true := by simp; omega
      have k7 : (pr != 17) = true := by simp; omega
      have hRe : R = 10 := HRE.out.trans (winE_1 HXX.out.symm ⟨by omega, by omega⟩)
      have hTe : TT = tupz := HTE.out.trans (wT_no (by rw [← HRE.out, hRe]; decide))
      clear c1
      go_upto_region 8 with fail
      clear x1
      go_wp2_with (first
        | (refine wpList_load_row rfl 26 (.tmp 6) rfl (w.heap.size + 1) rfl 26 tupz (0, 0) _ (HM4.out.get 1 rfl) Try.underlying26 rfl (by kernel_rfl) ?_)
        | (refine wpList_store_row rfl 26 (.tmp 4) (.tmp 36) rfl w.heap.size tupz rfl rfl 26 tupz (HM4.out.get 0 rfl) (by kernel_rfl) rfl tupz_one ?_))
      refine bodyPost_ret (v := .tuple #[.agg tupz, .int .i64 10]) (results_row1 Try.results35 _ _ w.heap.size 26 tupz (0, 0) _ rfl (setRow_heap _ w.heap.size _ tupz _ _ (HM4.out.get 0 rfl)) Try.underlying26 rfl (by kernel_rfl)) rfl ?_
      exact ⟨by rw [hRe, hTe] <;> rfl, below_setRow HM4.out.below (Nat.le_refl _) _⟩
  · have c0' : (E != 0) = true := by simpa using c0
    have hRe : R = E := HRE.out.trans (winE_0 HXX.out.symm c0)
    have hTe : TT = tupz := HTE.out.trans (wT_no (by rw [← HRE.out, hRe]; exact c0))
    go_wp2_with (first
      | (refine wpList_load_row rfl 26 (.tmp 6) rfl (w.heap.size + 1) rfl 26 tupz (0, 0) _ (HM4.out.get 1 rfl) Try.underlying26 rfl (by kernel_rfl) ?_)
      | (refine wpList_store_row rfl 26 (.tmp 4) (.tmp 26) rfl w.heap.size tupz rfl rfl 26 tupz (HM4.out.get 0 rfl) (by kernel_rfl) rfl tupz_one ?_))
    refine bodyPost_ret (v := .tuple #[.agg tupz, .int .i64 E]) (results_row1 Try.results35 _ _ w.heap.size 26 tupz (0, 0) _ rfl (setRow_heap _ w.heap.size _ tupz _ _ (HM4.out.get 0 rfl)) Try.underlying26 rfl (by kernel_rfl)) rfl ?_
    exact ⟨by rw [hRe, hTe] <;> rfl, below_setRow HM4.out.below (Nat.le_refl _) _⟩
end Go.Proofs.Ytlchegibfopglaa
