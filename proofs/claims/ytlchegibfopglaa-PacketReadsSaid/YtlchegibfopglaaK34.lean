import Derived.Test.YtlchegibfopglaaK16
/- Layer 6: Read, the document's. -/
namespace Go.Proofs.Ytlchegibfopglaa
set_option maxRecDepth 100000
open Go.RowKit
set_option maxRecDepth 100000 in
set_option maxHeartbeats 4000000 in
theorem riread_any (v6 : Bool) (s d : Nat → Int) (hs : Byt s) (hd : Byt d) (A : Option Addr) (n c : Nat) (f : Nat → Int) (hf : Byt f) (hn : n ≤ 140737488355328) (hcap : n ≤ c) (hc' : c ≤ 9223372036854775807) (w : World) (hr : Rd w w.heap.size A n f) :
    Calls Try.prog 23 #[.bool v6, .agg (arr16 s), .agg (arr16 d), .slice A n c] w (RdOut v6 (mS v6 s d n) f n w) := by
  have HR := Lib.hid hr
  have HF := Lib.hid hf
  have HSO : Hid (∀ W, Rd W W.heap.size A n f → Calls Try.prog 33 #[.bool v6, .agg (arr16 s), .agg (arr16 d), .slice A n c] W fun e w' => e = .returned (.int .u16 (rgt (mS v6 s d n) f n)) ∧ Below W.heap.size W w') := Lib.hid fun W hr => iright_any v6 s d hs hd A n c f hf (by omega) W hr
  clear hr hf hs hd
  generalize mS v6 s d n = S at *
  unfold RdOut
  obtain ⟨R, hR⟩ : ∃ R, R = icE v6 S f n := ⟨_, rfl⟩
  obtain ⟨TT, hT⟩ : ∃ TT, TT = rT v6 S f n := ⟨_, rfl⟩
  rw [← hR, ← hT]
  have HRE := Lib.hid hR
  have HTE := Lib.hid hT
  obtain ⟨r, hr⟩ : ∃ r, r = rgt S f n := ⟨_, rfl⟩
  rw [← hr] at HSO
  have HRR := Lib.hid hr
  clear hR hT hr
  have HI36 := Lib.hid (show (Try.prog.info? 26).map (·.size) = some 36 by kernel_rfl)
  have HI38 := Lib.hid (show (Try.prog.info? 69).map (·.size) = some 38 by kernel_rfl)
  have e1 : (w.alloc (.cells (arr16 s) 23)).heap.size = w.heap.size + 1 := by simp
  have e2 : ((w.alloc (.cells (arr16 s) 23)).alloc (.cells (arr16 d) 23)).heap.size = w.heap.size + 1 + 1 := by simp
  have e3 : (((w.alloc (.cells (arr16 s) 23)).alloc (.cells (arr16 d) 23)).alloc (.cells repz 69)).heap.size = w.heap.size + 1 + 1 + 1 := by simp
  have HM1 : Hid (Mem w (((((w.alloc (.cells (arr16 s) 23)).alloc (.cells (arr16 d) 23)).alloc (.cells repz 69)).alloc (.cells repz 69)).setRow (w.heap.size + 1 + 1 + 1) repz) [(w.heap.size, .cells (arr16 s) 23 (0, 0)), (w.heap.size + 1, .cells (arr16 d) 23 (0, 0)), (w.heap.size + 1 + 1, .cells repz 69 (0, 0)), (w.heap.size + 1 + 1 + 1, .cells repz 69 (0, 0))]) := Lib.hid ((((((Mem.nil w).alloc (.cells (arr16 s) 23)).new (.cells (arr16 d) 23) (w.heap.size + 1) e1.symm).new (.cells repz 69) (w.heap.size + 1 + 1) e2.symm).new (.cells repz 69) (w.heap.size + 1 + 1 + 1) e3.symm).row 3 rfl repz)
  have HQ0 : Hid (((((w.alloc (.cells (arr16 s) 23)).alloc (.cells (arr16 d) 23)).alloc (.cells repz 69)).alloc (.cells repz 69)).heap[w.heap.size + 1 + 1 + 1]? = some (.cells repz 69 (0, 0))) := by rw [← e3]; exact heap_alloc_new _ _
  clear e1 e2 e3
  go_enter Try.func23, Try.ntmps23
  go_upto_if 16 with (first
    | (refine wpList_store_row rfl 69 (.tmp 10) (.tmp 13) rfl (w.heap.size + 1 + 1 + 1) repz rfl rfl 69 repz HQ0.out (by kernel_rfl) rfl repz_one ?_))
  change Code.wp _ _ _ _ (((((w.alloc (.cells (arr16 s) 23)).alloc (.cells (arr16 d) 23)).alloc (.cells repz 69)).alloc (.cells repz 69)).setRow (w.heap.size + 1 + 1 + 1) repz)
  clear HQ0
  generalize ((((w.alloc (.cells (arr16 s) 23)).alloc (.cells (arr16 d) 23)).alloc (.cells repz 69)).alloc (.cells repz 69)).setRow (w.heap.size + 1 + 1 + 1) repz = u1 at *
  by_cases c0 : n < 8
  · have c0' : (n : Int) < 8 := by omega
    have hRe : R = 4 := HRE.out.trans (icE_0 c0)
    have hTe : TT = repz := HTE.out.trans (rT_no (by rw [← HRE.out, hRe]; decide))
    go_wp2_with (first
      | (refine wpList_load_row rfl 69 (.tmp 10) rfl (w.heap.size + 1 + 1 + 1) rfl 69 repz (0, 0) _ (HM1.out.get 3 rfl) Try.underlying69 rfl (by kernel_rfl) ?_)
      | (refine wpList_store_row rfl 69 (.tmp 8) (.tmp 17) rfl (w.heap.size + 1 + 1) repz rfl rfl 69 repz (HM1.out.get 2 rfl) (by kernel_rfl) rfl repz_one ?_))
    refine bodyPost_ret (v := .tuple #[.agg repz, .int .i64 4]) (results_row1 Try.results23 _ _ (w.heap.size + 1 + 1) 69 repz (0, 0) _ rfl (setRow_heap _ (w.heap.size + 1 + 1) _ repz _ _ (HM1.out.get 2 rfl)) Try.underlying69 rfl (by kernel_rfl)) rfl ?_
    exact ⟨by first | rfl | (rw [hRe, hTe] <;> rfl), below_setRow HM1.out.below (by omega) _⟩
  · have N0 : Hid (¬ n < 8) := c0
    have c0' : (8 : Int) ≤ (n : Int) := by omega
    have n0 : 0 < n := by omega
    rcases HR.out with h0 | ⟨b, off, rfl, hbb, hcell⟩
    · omega
    have HC := Lib.hid hcell
    clear hcell
    go_upto_if 23 with (first
      | (refine wpList_load_roww rfl 23 (.tmp 5) rfl w.heap.size rfl 23 (arr16 s) (0, 0) _ (HM1.out.get 0 rfl) Try.underlying23 rfl (by kernel_rfl) ?_)
      | (refine wpList_load_roww rfl 23 (.tmp 6) rfl (w.heap.size + 1) rfl 23 (arr16 d) (0, 0) _ (HM1.out.get 1 rfl) Try.underlying23 rfl (by kernel_rfl) ?_)
      | (go_at_call 33; refine (HSO.out _ (HM1.out.rd HR.out)).mono ?_; rintro e u2 ⟨rfl, hb2⟩; have HM2 := Lib.hid (HM1.out.step hb2); clear hb2))
    clear HSO HM1
    by_cases c1 : r = 0
    · have c1' : (r != 0) = false := by simp [c1]
      have N1 : Hid (rgt S f n = 0) := Lib.hid (HRR.out.symm.trans c1)
      subst c1
      clear HRR
      have HE0 := Lib.hid (risErr_any v6 (f 0) (HF.out 0) u2)
      obtain ⟨ek, hek⟩ : ∃ ek, ek = errK v6 (f 0) := ⟨_, rfl⟩
      rw [← hek] at HE0
      have HEK := Lib.hid hek
      clear hek
      have x0 := HM2.out.cell hbb (HC.out 0 (by omega))
      replace x0 : u2.cell? ⟨b, off, none⟩ = some (.int .u8 (f 0)) := x0
      go_upto_if 30 with (first
        | (go_at_call 34; refine HE0.out.mono ?_; rintro e u3 ⟨rfl, rfl⟩))
      clear HE0 x0
      cases ek
      · clear c1'
        have hRe : R = 10 := HRE.out.trans (icE_2 N0.out N1.out HEK.out.symm)
        have hTe : TT = repz := HTE.out.trans (rT_no (by rw [← HRE.out, hRe]; decide))
        go_wp2_with (first
          | (refine wpList_load_row rfl 69 (.tmp 10) rfl (w.heap.size + 1 + 1 + 1) rfl 69 repz (0, 0) _ (HM2.out.get 3 rfl) Try.underlying69 rfl (by kernel_rfl) ?_)
          | (refine wpList_store_row rfl 69 (.tmp 8) (.tmp 31) rfl (w.heap.size + 1 + 1) repz rfl rfl 69 repz (HM2.out.get 2 rfl) (by kernel_rfl) rfl repz_one ?_))
        refine bodyPost_ret (v := .tuple #[.agg repz, .int .i64 10]) (results_row1 Try.results23 _ _ (w.heap.size + 1 + 1) 69 repz (0, 0) _ rfl (setRow_heap _ (w.heap.size + 1 + 1) _ repz _ _ (HM2.out.get 2 rfl)) Try.underlying69 rfl (by kernel_rfl)) rfl ?_
        exact ⟨by first | rfl | (rw [hRe, hTe] <;> rfl), below_setRow HM2.out.below (by omega) _⟩
      · obtain ⟨D, hsD, hrD⟩ := slice_any (some ⟨b, off, none⟩) n c 8 (by omega) hcap hc'
        have hsD' : ∀ W, (Instr.sliceAt 22 (.slice (some ⟨b, off, none⟩) n c) (some (.int .i64 8)) none none).run Try.prog W = .ok (.slice D (n - 8) (c - 8)) W := hsD
        obtain ⟨E, hE⟩ : ∃ E, E = winE v6 (fun k => f (8 + k)) (n - 8) := ⟨_, rfl⟩
        obtain ⟨tt, htt⟩ : ∃ tt, tt = wT v6 (fun k => f (8 + k)) (n - 8) := ⟨_, rfl⟩
        have HWI : Hid (Calls Try.prog 35 #[.bool v6, .slice D (n - 8) (c - 8)] u2 fun e w' => e = .returned (.tuple #[.agg tt, .int .i64 E]) ∧ Below u2.heap.size u2 w') := Lib.hid (by
          rw [hE, htt]
          exact rwithin_any v6 D (n - 8) (c - 8) (fun k => f (8 + k)) (fun k => HF.out _) (by omega) (by omega) (by omega) u2 (hrD _ _ _ (HM2.out.rd HR.out)))
        have HEE := Lib.hid hE
        have HTT := Lib.hid htt
        have HSZ : Hid (tt.size = 36) := Lib.hid (by rw [htt]; exact wT_size ..)
        have HO36 : Hid (tt.all (·.oneCell') = true) := Lib.hid (by rw [htt]; exact wT_one ..)
        have HBR : Hid (∀ W, (Instr.build 69 #[(0, .int .u8 (f 0)), (1, .int .u8 (f 1)), (2, .agg tt)]).run Try.prog W = .ok (.agg (repT (f 0) (f 1) tt)) W) := Lib.hid fun W => by
          obtain ⟨v, pr, ss, dd, sp, dp, h⟩ := wT_tup v6 (fun k => f (8 + k)) (n - 8)
          rw [htt, h]
          exact build_rep ..
        have HS38 := Lib.hid (repT_size (f 0) (f 1) HSZ.out)
        have HO38 := Lib.hid (repT_one (f 0) (f 1) HO36.out)
        clear hE htt hsD hrD
        go_wp2_with fail
        go_at_call 35
        refine HWI.out.mono ?_
        rintro e u3 ⟨rfl, hb3⟩
        have HM3 := Lib.hid (HM2.out.step hb3)
        clear hb3 HM2 HWI
        have HQ : Hid ((u3.alloc (.cells tupz 26)).heap[u3.heap.size]? = some (.cells tupz 26 (0, 0))) := heap_alloc_new u3 _
        go_upto_if 40 with (first
          | (refine wpList_store_row rfl 26 (.tmp 11) (.tmp 37) rfl u3.heap.size tt rfl rfl 26 tupz HQ.out (HI36.out.trans (by rw [HSZ.out])) (by rw [HSZ.out]; rfl) HO36.out ?_))
        change Code.wp _ _ _ _ ((u3.alloc (.cells tupz 26)).setRow u3.heap.size tt)
        obtain ⟨q, hq⟩ : ∃ q, q = u3.heap.size := ⟨_, rfl⟩
        have HM4 : Hid (Mem w ((u3.alloc (.cells tupz 26)).setRow q tt) [(w.heap.size, .cells (arr16 s) 23 (0, 0)), (w.heap.size + 1, .cells (arr16 d) 23 (0, 0)), (w.heap.size + 1 + 1, .cells repz 69 (0, 0)), (w.heap.size + 1 + 1 + 1, .cells repz 69 (0, 0)), (q, .cells tt 26 (0, 0))]) := Lib.hid ((HM3.out.new (.cells tupz 26) q hq).row 4 rfl tt)
        rw [← hq]
        clear hq HQ HM3
        generalize (u3.alloc (.cells tupz 26)).setRow q tt = u4 at *
        by_cases c2 : E = 0
        · subst c2
          have hRe : R = 0 := HRE.out.trans ((icE_3 N0.out N1.out HEK.out.symm).trans HEE.out.symm)
          have hTe : TT = repT (f 0) (f 1) tt := by rw [HTT.out]; exact HTE.out.trans (rT_ok (by rw [← HRE.out]; exact hRe))
          go_upto_region 11 with fail
          have hbu : b < u4.heap.size := Nat.lt_of_lt_of_le hbb HM4.out.below.size
          have HXU : Hid (∀ k, k < n → u4.cell? ⟨b, off + k, none⟩ = some (.int .u8 (f k))) := fun k hk => HM4.out.cell hbb (HC.out k hk)
          have HQU := Lib.hid (HM4.out.get 4 rfl)
          have i1 : (1 : Int) < (n : Int) := by omega
          refine wp_region_grow (C := fun W => Below u4.heap.size u4 W) 8 51 [val (.slice (some ⟨b, off, none⟩) n c), val (.pointer (some ⟨b, off, none⟩)), val (.int .u8 (f 0)), val (.slice (some ⟨b, off, none⟩) n c), val (.pointer (some ⟨b, off + 1, none⟩)), val (.int .u8 (f 1)), val (.agg tt), val (.agg (repT (f 0) (f 1) tt))] (by kernel_rfl) rfl (by kernel_rfl) rfl ⟨stb_val _, stb_val _, stb_val _, stb_val _, stb_val _, stb_val _, stb_val _, stb_val _, trivial⟩ (Below.refl _ _).drew ?_ ?_
          · refine each_cons ?_ ?_
            · intro a W hW hd
              have h3 : a.tmps[3]?.getD undef = .slice (some ⟨b, off, none⟩) n c := slot_eq (hd 3 (by decide))
              exact grows_value _ hW (by simp [execOp, Act.eval, h3]) rfl
            refine each_cons ?_ ?_
            · intro a W hW hd
              have h43 : a.tmps[43]?.getD undef = .slice (some ⟨b, off, none⟩) n c := slot_eq (hd 43 (by decide))
              refine grows_value _ hW (?_ : _ = _) rfl
              clear hd
              go_simp
            refine each_cons ?_ ?_
            · intro a W hW hd
              have h44 : a.tmps[44]?.getD undef = .pointer (some ⟨b, off, none⟩) := slot_eq (hd 44 (by decide))
              have hx := (hW.cell (p := ⟨b, off, none⟩) hbu).trans (HXU.out 0 (by omega))
              refine grows_value _ hW (?_ : _ = _) rfl
              clear hd
              go_simp
            refine each_cons ?_ ?_
            · intro a W hW hd
              have h3 : a.tmps[3]?.getD undef = .slice (some ⟨b, off, none⟩) n c := slot_eq (hd 3 (by decide))
              exact grows_value _ hW (by simp [execOp, Act.eval, h3]) rfl
            refine each_cons ?_ ?_
            · intro a W hW hd
              have h46 : a.tmps[46]?.getD undef = .slice (some ⟨b, off, none⟩) n c := slot_eq (hd 46 (by decide))
              refine grows_value _ hW (?_ : _ = _) rfl
              clear hd
              go_simp
            refine each_cons ?_ ?_
            · intro a W hW hd
              have h47 : a.tmps[47]?.getD undef = .pointer (some ⟨b, off + 1, none⟩) := slot_eq (hd 47 (by decide))
              have hx := (hW.cell (p := ⟨b, off + 1, none⟩) hbu).trans (HXU.out 1 (by omega))
              refine grows_value _ hW (?_ : _ = _) rfl
              clear hd
              go_simp
            refine each_cons ?_ ?_
            · intro a W hW hd
              have h11 : a.tmps[11]?.getD undef = .pointer (some ⟨q, 0, none⟩) := slot_eq (hd 11 (by decide))
              refine grows_value (.agg tt) hW (?_ : _ = _) rfl
              clear hd
              simp only [execOp, Act.eval, Array.getD_eq_getD_getElem?, h11, Instr.loadAt, Instr.sureAddr, Sem.run_bind, Sem.run_pure, Result.andThen_ok, run_loadVar_row W q 26 26 tt (0, 0) _ ((hW.block _ (lt_heap HQU.out)).trans HQU.out) Try.underlying26 rfl (HI36.out.trans (by rw [HSZ.out]))]
            refine each_cons ?_ ?_
            · intro a W hW hd
              have h45 : a.tmps[45]?.getD undef = .int .u8 (f 0) := slot_eq (hd 45 (by decide))
              have h48 : a.tmps[48]?.getD undef = .int .u8 (f 1) := slot_eq (hd 48 (by decide))
              have h49 : a.tmps[49]?.getD undef = .agg tt := slot_eq (hd 49 (by decide))
              refine grows_value (.agg (repT (f 0) (f 1) tt)) hW (?_ : _ = _) rfl
              clear hd
              simp only [execOp, Act.eval, Array.getD_eq_getD_getElem?, List.map_toArray, List.map_cons, List.map_nil, h45, h48, h49, Sem.run_bind, Sem.run_pure, Result.andThen_ok, HBR.out W]
            exact each_nil
          · refine behind_val rfl ?_
            refine behind_val rfl ?_
            refine behind_val rfl ?_
            refine behind_val rfl ?_
            refine behind_val rfl ?_
            refine behind_val rfl ?_
            refine behind_val rfl ?_
            refine behind_val rfl ?_
            refine behind_nil fun u5 hC hFF => ?_
            clear hFF
            have HME := Lib.hid (HM4.out.step hC)
            clear hC
            simp only [Act.put, List.setIfInBounds_toArray, List.set_cons_succ, List.set_cons_zero, List.drop_succ_cons, List.drop_zero]
            refine wpList_store_row rfl 69 (.tmp 8) (.tmp 50) rfl (w.heap.size + 1 + 1) (repT (f 0) (f 1) tt) rfl rfl 69 repz (HME.out.get 2 rfl) (HI38.out.trans (by rw [HS38.out])) (by rw [HS38.out]; rfl) HO38.out ?_
            simp only [Act.put]
            go_wp2_with fail
            refine bodyPost_ret (v := .tuple #[.agg (repT (f 0) (f 1) tt), .int .i64 0]) (results_row1 Try.results23 _ _ (w.heap.size + 1 + 1) 69 (repT (f 0) (f 1) tt) (0, 0) _ rfl (setRow_heap _ (w.heap.size + 1 + 1) _ (repT (f 0) (f 1) tt) _ _ (HME.out.get 2 rfl)) Try.underlying69 rfl (HI38.out.trans (by rw [HS38.out]))) rfl ?_
            exact ⟨by first | rfl | (rw [hRe, hTe] <;> rfl), below_setRow HME.out.below (by omega) _⟩
        · have c2' : (E != 0) = true := by simpa using c2
          have hRe : R = E := HRE.out.trans ((icE_3 N0.out N1.out HEK.out.symm).trans HEE.out.symm)
          have hTe : TT = repz := HTE.out.trans (rT_no (by rw [← HRE.out, hRe]; exact c2))
          go_wp2_with (first
            | (refine wpList_load_row rfl 69 (.tmp 10) rfl (w.heap.size + 1 + 1 + 1) rfl 69 repz (0, 0) _ (HM4.out.get 3 rfl) Try.underlying69 rfl (by kernel_rfl) ?_)
            | (refine wpList_store_row rfl 69 (.tmp 8) (.tmp 41) rfl (w.heap.size + 1 + 1) repz rfl rfl 69 repz (HM4.out.get 2 rfl) (by kernel_rfl) rfl repz_one ?_))
          refine bodyPost_ret (v := .tuple #[.agg repz, .int .i64 E]) (results_row1 Try.results23 _ _ (w.heap.size + 1 + 1) 69 repz (0, 0) _ rfl (setRow_heap _ (w.heap.size + 1 + 1) _ repz _ _ (HM4.out.get 2 rfl)) Try.underlying69 rfl (by kernel_rfl)) rfl ?_
          exact ⟨by first | rfl | (rw [hRe, hTe] <;> rfl), below_setRow HM4.out.below (by omega) _⟩
    · have c1' : (r != 0) = true := by simpa using c1
      have hRe : R = 6 := HRE.out.trans (icE_1 N0.out (by rw [← HRR.out]; exact c1))
      have hTe : TT = repz := HTE.out.trans (rT_no (by rw [← HRE.out, hRe]; decide))
      go_wp2_with (first
        | (refine wpList_load_row rfl 69 (.tmp 10) rfl (w.heap.size + 1 + 1 + 1) rfl 69 repz (0, 0) _ (HM2.out.get 3 rfl) Try.underlying69 rfl (by kernel_rfl) ?_)
        | (refine wpList_store_row rfl 69 (.tmp 8) (.tmp 24) rfl (w.heap.size + 1 + 1) repz rfl rfl 69 repz (HM2.out.get 2 rfl) (by kernel_rfl) rfl repz_one ?_))
      refine bodyPost_ret (v := .tuple #[.agg repz, .int .i64 6]) (results_row1 Try.results23 _ _ (w.heap.size + 1 + 1) 69 repz (0, 0) _ rfl (setRow_heap _ (w.heap.size + 1 + 1) _ repz _ _ (HM2.out.get 2 rfl)) Try.underlying69 rfl (by kernel_rfl)) rfl ?_
      exact ⟨by first | rfl | (rw [hRe, hTe] <;> rfl), below_setRow HM2.out.below (by omega) _⟩
end Go.Proofs.Ytlchegibfopglaa
