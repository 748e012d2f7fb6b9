import Derived.Test.YtlchegibfopglaaK32
/- The document's ReadUDP. -/
namespace Go.Proofs.Ytlchegibfopglaa
set_option maxRecDepth 100000
open Go.RowKit
set_option maxRecDepth 100000 in
set_option maxHeartbeats 4000000 in
theorem rreadU_any (v6 : Bool) (s d : Nat → Int) (hs : Byt s) (hd : Byt d) (A : Option Addr) (n c : Nat) (f : Nat → Int) (hf : Byt f) (hn : n ≤ 140737488355328) (hcap : n ≤ c) (hc' : c ≤ 9223372036854775807) (w : World) (hr : Rd w w.heap.size A n f) :
    Calls Try.prog 22 #[.bool v6, .agg (arr16 s), .agg (arr16 d), .slice A n c] w (ReadU 5 (udpE v6 (psq v6 s d 17 n) f n) f n w) := by
  have HR := Lib.hid hr
  have HF := Lib.hid hf
  have HSO := Lib.hid fun W hr => right_any v6 s d hs hd 17 (by omega) (by omega) A n c f hf (by omega) W hr
  clear hr hf hs hd
  generalize psq v6 s d 17 n = S at *
  obtain ⟨R, hR⟩ : ∃ R, R = udpE v6 S f n := ⟨_, rfl⟩
  rw [← hR]
  have HRE := Lib.hid hR
  clear hR
  obtain ⟨r, hr⟩ : ∃ r, r = rgt S f n := ⟨_, rfl⟩
  rw [← hr] at HSO
  have HRR := Lib.hid hr
  clear hr
  have HX0 := Lib.hid (Box4.start w s d udpz 65)
  go_enter Try.func22, Try.ntmps22
  go_upto_if 16 with (first
    | (refine wpList_store_row rfl 65 (.tmp 11) (.tmp 13) rfl (w.heap.size + 1 + 1 + 1) udpz rfl rfl 65 udpz HX0.out.b3 (by kernel_rfl) rfl udpz_one ?_))
  change Code.wp _ _ _ _ (((((w.alloc (.cells (arr16 s) 23)).alloc (.cells (arr16 d) 23)).alloc (.cells udpz 65)).alloc (.cells udpz 65)).setRow (w.heap.size + 1 + 1 + 1) udpz)
  have HX1 := Lib.hid HX0.out.row
  clear HX0
  generalize ((((w.alloc (.cells (arr16 s) 23)).alloc (.cells (arr16 d) 23)).alloc (.cells udpz 65)).alloc (.cells udpz 65)).setRow (w.heap.size + 1 + 1 + 1) udpz = u1 at *
  by_cases c0 : n < 8
  · have c0' : (n : Int) < 8 := by omega
    have hRe : R = 4 := HRE.out.trans (udpE_0 c0)
    go_wp2_with (first
      | (refine wpList_load_row rfl 65 (.tmp 11) rfl (w.heap.size + 1 + 1 + 1) rfl 65 udpz (0, 0) _ HX1.out.b3 Try.underlying65 rfl (by kernel_rfl) ?_)
      | (refine wpList_store_row rfl 65 (.tmp 8) (.tmp 17) rfl (w.heap.size + 1 + 1) udpz rfl rfl 65 udpz HX1.out.box.b2 (by kernel_rfl) rfl udpz_one ?_))
    refine bodyPost_ret (v := .tuple #[.agg udpz, .slice none 0 0, .int .i64 4]) (results_row2 Try.results22 _ _ (w.heap.size + 1 + 1) 65 udpz (0, 0) _ rfl (setRow_heap _ (w.heap.size + 1 + 1) _ udpz _ _ HX1.out.box.b2) Try.underlying65 rfl (by kernel_rfl)) rfl ?_
    have hRne : ¬ R = 0 := by omega
    exact .inl ⟨by first | exact hRne | omega | decide, by first | rfl | (rw [hRe] <;> rfl), below_setRow HX1.out.box.below (by omega) _⟩
  · have N0 : Hid (¬ n < 8) := c0
    have c0' : (8 : Int) ≤ (n : Int) := by omega
    rcases HR.out with h0 | ⟨b, off, rfl, hbb, hcell⟩
    · omega
    have HC := Lib.hid hcell
    clear hcell
    have HN4 : Hid (∀ W B, Rd W B (some ⟨b, off, none⟩) n f → Calls Try.prog 30 #[.slice (some ⟨b, off, none⟩) n c, .int .i64 4, .int .i64 2] W fun e w' => e = .returned (.int .u32 (w2 f 4)) ∧ W = w') := Lib.hid fun W B hr => by
      have h := rnum_any (some ⟨b, off, none⟩) n c 4 2 f HF.out (by omega) (by omega) (by omega) W B hr
      rw [numk_2] at h
      exact h
    have HRd1 := Lib.hid (.inr ⟨b, off, rfl, hbb, fun k hk => (HX1.out.box.below.cell (p := ⟨b, off + k, none⟩) hbb).trans (HC.out k hk)⟩ : Rd u1 w.heap.size (some ⟨b, off, none⟩) n f)
    have b4 := w2_bd HF.out 4
    have hw4 : IntKind.i64.wrap (w2 f 4) = w2 f 4 := by rw [IntKind.wrap_i64]; omega
    clear b4
    go_wp2_with fail
    go_at_call 30
    refine (HN4.out _ _ HRd1.out).mono ?_
    rintro e w' ⟨rfl, rfl⟩
    go_upto_if 23 with fail
    clear HN4 HRd1 hw4
    by_cases c1 : w2 f 4 = (n : Int)
    · have c1' : (w2 f 4 != (n : Int)) = false := by simpa using c1
      have N1 := Lib.hid c1
      clear c1
      go_upto_region 6 with fail
      have HN0 : Hid (∀ W B, Rd W B (some ⟨b, off, none⟩) n f → Calls Try.prog 30 #[.slice (some ⟨b, off, none⟩) n c, .int .i64 0, .int .i64 2] W fun e w' => e = .returned (.int .u32 (w2 f 0)) ∧ W = w') := Lib.hid fun W B hr => by
        have h := rnum_any (some ⟨b, off, none⟩) n c 0 2 f HF.out (by omega) (by omega) (by omega) W B hr
        rw [numk_2] at h
        exact h
      have HN2 : Hid (∀ W B, Rd W B (some ⟨b, off, none⟩) n f → Calls Try.prog 30 #[.slice (some ⟨b, off, none⟩) n c, .int .i64 2, .int .i64 2] W fun e w' => e = .returned (.int .u32 (w2 f 2)) ∧ W = w') := Lib.hid fun W B hr => by
        have h := rnum_any (some ⟨b, off, none⟩) n c 2 2 f HF.out (by omega) (by omega) (by omega) W B hr
        rw [numk_2] at h
        exact h
      have HN6c : Hid (∀ W B, Rd W B (some ⟨b, off, none⟩) n f → Calls Try.prog 30 #[.slice (some ⟨b, off, none⟩) n c, .int .i64 6, .int .i64 2] W fun e w' => e = .returned (.int .u32 (w2 f 6)) ∧ W = w') := Lib.hid fun W B hr => by
        have h := rnum_any (some ⟨b, off, none⟩) n c 6 2 f HF.out (by omega) (by omega) (by omega) W B hr
        rw [numk_2] at h
        exact h
      have HRd4 := Lib.hid (.inr ⟨b, off, rfl, hbb, fun k hk => (HX1.out.box.below.cell (p := ⟨b, off + k, none⟩) hbb).trans (HC.out k hk)⟩ : Rd u1 w.heap.size (some ⟨b, off, none⟩) n f)
      have z0 : IntKind.u16.wrap (w2 f 0) = w2 f 0 := by have := w2_bd HF.out 0; rw [IntKind.wrap_u16]; omega
      have z2 : IntKind.u16.wrap (w2 f 2) = w2 f 2 := by have := w2_bd HF.out 2; rw [IntKind.wrap_u16]; omega
      have HQ : Hid ((u1.alloc (.cells udpz 65)).heap[u1.heap.size]? = some (.cells udpz 65 (0, 0))) := heap_alloc_new u1 _
      go_wp2_with fail
      go_at_call 30
      refine (HN0.out _ _ HRd4.out).mono ?_
      rintro e w' ⟨rfl, rfl⟩
      go_wp2_with fail
      go_at_call 30
      refine (HN2.out _ _ HRd4.out).mono ?_
      rintro e w' ⟨rfl, rfl⟩
      go_upto_region 7 with (first
        | (refine wpList_store_row rfl 65 (.tmp 12) (.tmp 31) rfl u1.heap.size (udpc (w2 f 0) (w2 f 2) false) rfl rfl 65 udpz HQ.out (by kernel_rfl) rfl (udp_one ..) ?_))
      change Code.wp _ _ _ _ ((u1.alloc (.cells udpz 65)).setRow u1.heap.size (udpc (w2 f 0) (w2 f 2) false))
      obtain ⟨y, hy⟩ : ∃ y, y = u1.heap.size := ⟨_, rfl⟩
      have HD5 := Lib.hid (Hd4.new HX1.out udpz (udpc (w2 f 0) (w2 f 2) false) y hy)
      rw [← hy]
      clear hy z0 z2 HQ HRd4 HN0 HN2 HX1
      generalize (u1.alloc (.cells udpz 65)).setRow y (udpc (w2 f 0) (w2 f 2) false) = u5 at *
      have HRd5 := Lib.hid (.inr ⟨b, off, rfl, hbb, fun k hk => (HD5.out.box.box.below.cell (p := ⟨b, off + k, none⟩) hbb).trans (HC.out k hk)⟩ : Rd u5 w.heap.size (some ⟨b, off, none⟩) n f)
      go_wp2_with fail
      go_at_call 30
      refine (HN6c.out _ _ HRd5.out).mono ?_
      rintro e w' ⟨rfl, rfl⟩
      go_upto_if 34 with fail
      clear HRd5 HN6c
      by_cases c2 : w2 f 6 = 0
      · have c2' : (w2 f 6 == 0) = true := by simpa using c2
        have N2 := Lib.hid c2
        clear c2
        have HN6 : Hid (decide (w2 f 6 = 0) = true) := decide_eq_true N2.out
        have x2 : u5.cell? ⟨y, 2, none⟩ = some (.bool false) := blk_cell HD5.out.hd 2
        have y2 := blk_free HD5.out.hd 2
        go_upto_if 36 with fail
        have HD6 : Hid (Hd4 w (u5.setCell ⟨y, 2, none⟩ (.bool true)) s d udpz 65 y (udpc (w2 f 0) (w2 f 2) true)) := HD5.out.set 2 _
        clear x2 y2 HD5 HSO HRR c2'
        generalize u5.setCell ⟨y, 2, none⟩ (.bool true) = u6 at *
        cases v6
        · have hRe : R = 0 := HRE.out.trans (udpE_3 N0.out N1.out N2.out)
          obtain ⟨D8, hsD8, hrD8⟩ := slice_any (some ⟨b, off, none⟩) n c 8 (by omega) hcap hc'
          have hsD8' : ∀ W, (Instr.sliceAt 22 (.slice (some ⟨b, off, none⟩) n c) (some (.int .i64 8)) none none).run Try.prog W = .ok (.slice D8 (n - 8) (c - 8)) W := hsD8
          have HD8 := Lib.hid hrD8
          clear hrD8 hsD8
          obtain ⟨i0, hi0, hz0, hz1, hz2⟩ := info_parts Try.info5
          have HI0 := Lib.hid hi0
          have HI1 := Lib.hid hz0
          have HI2 := Lib.hid hz1
          have HI3 := Lib.hid hz2
          clear hi0 hz0 hz1 hz2
          go_upto_region 13 with fail
          have HD11 := HD6
          clear HD6
          generalize u6 = u11 at *
          have HX11c : Hid (∀ k, k < n → u11.cell? ⟨b, off + k, none⟩ = some (.int .u8 (f k))) := fun k hk => (HD11.out.box.box.below.cell (p := ⟨b, off + k, none⟩) hbb).trans (HC.out k hk)
          have hb11 : b < u11.heap.size := Nat.lt_of_lt_of_le hbb HD11.out.box.box.below.size
          refine wp_region_grow (C := fun W => Below u11.heap.size u11 W) 5 50 [val (.agg (udpc (w2 f 0) (w2 f 2) true)), mkF u11, val (.slice (some ⟨b, off, none⟩) n c), val (.slice D8 (n - 8) (c - 8)), ownF u11 (n - 8) (fun k => f (8 + k))] (by kernel_rfl) rfl (by kernel_rfl) rfl ⟨stb_val _, stb_mk _, stb_val _, stb_val _, stb_own _ _ _, trivial⟩ (Below.refl _ _).drew ?_ ?_
          · refine each_cons ?_ ?_
            · intro a W hW hd
              have h12 : a.tmps[12]?.getD undef = .pointer (some ⟨y, 0, none⟩) := slot_eq (hd 12 (by decide))
              refine grows_value (.agg (udpc (w2 f 0) (w2 f 2) true)) hW (?_ : _ = _) rfl
              clear hd
              simp only [execOp, Act.eval, Array.getD_eq_getD_getElem?, h12, Instr.loadAt, Instr.sureAddr, Sem.run_bind, Sem.run_pure, Result.andThen_ok, run_loadVar_row W y 65 65 (udpc (w2 f 0) (w2 f 2) true) (0, 0) _ ((hW.block _ (lt_heap HD11.out.hd)).trans HD11.out.hd) Try.underlying65 rfl (by kernel_rfl)]
            refine each_cons ?_ ?_
            · intro a W hW hd
              refine grows_new (.slice (some ⟨W.heap.size, 0, none⟩) 0 0) (w' := W.alloc (.cells #[] 5)) (?_ : _ = _) ⟨_, rfl, Own.fresh W _ _ rfl hW.size _ _⟩ (below_alloc _ _) (hW.alloc hW.size _)
              clear hd
              go_simp
            refine each_cons ?_ ?_
            · intro a W hW hd
              have h3 : a.tmps[3]?.getD undef = .slice (some ⟨b, off, none⟩) n c := slot_eq (hd 3 (by decide))
              exact grows_value _ hW (by simp [execOp, Act.eval, h3]) rfl
            refine each_cons ?_ ?_
            · intro a W hW hd
              have h47 : a.tmps[47]?.getD undef = .slice (some ⟨b, off, none⟩) n c := slot_eq (hd 47 (by decide))
              refine grows_value _ hW (?_ : _ = _) rfl
              clear hd
              go_simp
            refine each_cons ?_ ?_
            · intro a W hW hd
              have h48 : a.tmps[48]?.getD undef = .slice D8 (n - 8) (c - 8) := slot_eq (hd 48 (by decide))
              obtain ⟨z, h46, ho⟩ := hd 46 (by decide)
              have h46' : a.tmps[46]?.getD undef = .slice (some ⟨z, 0, none⟩) 0 0 := slot_eq h46
              obtain ⟨A2, c2, w', hrun, hown, hb⟩ := run_append_fresh (P := Try.prog) u11.heap.size 22 22 5 i0 Try.underlying22 HI0.out HI1.out HI2.out HI3.out ⟨z, 0, none⟩ ho (c' := c - 8) (HD8.out W W.heap.size f (.inr ⟨b, off, rfl, Nat.lt_of_lt_of_le hb11 hW.size, fun k hk => (hW.cell (p := ⟨b, off + k, none⟩) hb11).trans (HX11c.out k hk)⟩)) (by omega) hW.size
              refine grows_new (.slice A2 (n - 8) c2) (w' := w') ?_ ⟨A2, c2, rfl, hown⟩ hb (hW.trans (hb.mono hW.size))
              clear hd
              simp only [execOp, resolve, invoke, builtin, Sem.run_bind, Sem.run_pure, Result.andThen_ok, List.map_toArray, List.map_cons, List.map_nil, Act.eval, Array.getD_eq_getD_getElem?, h46', h48, hrun]
            exact each_nil
          · refine behind_val rfl ?_
            refine behind_cons fun v46 => ?_
            refine behind_val rfl ?_
            refine behind_val rfl ?_
            refine behind_cons fun v49 => ?_
            refine behind_nil fun u13 hCu13 hFu13 => ?_
            obtain ⟨⟨_, _⟩, ⟨P, cp, rfl, hP⟩⟩ := hFu13
            have HP := Lib.hid hP
            have HD13 := Lib.hid (HD11.out.step hCu13)
            clear hP hCu13
            simp only [Act.put, List.setIfInBounds_toArray, List.set_cons_succ, List.set_cons_zero, List.drop_succ_cons, List.drop_zero]
            refine wpList_store_row rfl 65 (.tmp 8) (.tmp 45) rfl (w.heap.size + 1 + 1) (udpc (w2 f 0) (w2 f 2) true) rfl rfl 65 udpz HD13.out.box.box.b2 (by kernel_rfl) rfl (udp_one ..) ?_
            simp only [Act.put]
            go_wp2_with fail
            refine bodyPost_ret (v := .tuple #[.agg (udpc (w2 f 0) (w2 f 2) true), .slice P (n - 8) cp, .int .i64 0]) (results_row2 Try.results22 _ _ (w.heap.size + 1 + 1) 65 (udpc (w2 f 0) (w2 f 2) true) (0, 0) _ rfl (setRow_heap _ (w.heap.size + 1 + 1) _ (udpc (w2 f 0) (w2 f 2) true) _ _ HD13.out.box.box.b2) Try.underlying65 rfl (by kernel_rfl)) rfl ?_
            refine .inr ⟨by first | rfl | exact hRe, ?_⟩
            unfold ReadUO
            rw [show decide (w2 f 6 = 0) = true from HN6.out]
            exact ⟨P, cp, rfl, (HP.out.le HD11.out.box.box.below.size).other HD13.out.box.box.b2 (by decide) (fun k hk => setRow_other _ (w.heap.size + 1 + 1) k _ hk), below_setRow HD13.out.box.box.below (by omega) _⟩
        · have hRe : R = 6 := HRE.out.trans (udpE_2 N0.out N1.out N2.out)
          go_wp2_with (first
            | (refine wpList_load_row rfl 65 (.tmp 11) rfl (w.heap.size + 1 + 1 + 1) rfl 65 udpz (0, 0) _ HD6.out.box.b3 Try.underlying65 rfl (by kernel_rfl) ?_)
            | (refine wpList_store_row rfl 65 (.tmp 8) (.tmp 37) rfl (w.heap.size + 1 + 1) udpz rfl rfl 65 udpz HD6.out.box.box.b2 (by kernel_rfl) rfl udpz_one ?_))
          refine bodyPost_ret (v := .tuple #[.agg udpz, .slice none 0 0, .int .i64 6]) (results_row2 Try.results22 _ _ (w.heap.size + 1 + 1) 65 udpz (0, 0) _ rfl (setRow_heap _ (w.heap.size + 1 + 1) _ udpz _ _ HD6.out.box.box.b2) Try.underlying65 rfl (by kernel_rfl)) rfl ?_
          have hRne : ¬ R = 0 := by omega
          exact .inl ⟨by first | exact hRne | omega | decide, by first | rfl | (rw [hRe] <;> rfl), below_setRow HD6.out.box.box.below (by omega) _⟩
      · have c2' : (w2 f 6 == 0) = false := by simpa using c2
        have N2 := Lib.hid c2
        clear c2
        have HN6 : Hid (decide (w2 f 6 = 0) = false) := decide_eq_false N2.out
        go_upto_if 43 with (first
          | (refine wpList_load_roww rfl 23 (.tmp 5) rfl w.heap.size rfl 23 (arr16 s) (0, 0) _ HD5.out.box.box.b0 Try.underlying23 rfl (by kernel_rfl) ?_)
          | (refine wpList_load_roww rfl 23 (.tmp 6) rfl (w.heap.size + 1) rfl 23 (arr16 d) (0, 0) _ HD5.out.box.box.b1 Try.underlying23 rfl (by kernel_rfl) ?_)
          | (go_at_call 32; refine (HSO.out _ ((HR.out.keep HD5.out.box.box.below).more HD5.out.box.box.below.size)).mono ?_; rintro e u6 ⟨rfl, hb6⟩; have HD6 := Lib.hid (HD5.out.step hb6); clear hb6))
        clear HSO HD5 c2'
        by_cases c3 : r = 0
        · have c3' : (r != 0) = false := by simp [c3]
          have hRe : R = 0 := HRE.out.trans (udpE_5 N0.out N1.out N2.out (HRR.out.symm.trans c3))
          subst c3
          clear HRR
          obtain ⟨D8, hsD8, hrD8⟩ := slice_any (some ⟨b, off, none⟩) n c 8 (by omega) hcap hc'
          have hsD8' : ∀ W, (Instr.sliceAt 22 (.slice (some ⟨b, off, none⟩) n c) (some (.int .i64 8)) none none).run Try.prog W = .ok (.slice D8 (n - 8) (c - 8)) W := hsD8
          have HD8 := Lib.hid hrD8
          clear hrD8 hsD8
          obtain ⟨i0, hi0, hz0, hz1, hz2⟩ := info_parts Try.info5
          have HI0 := Lib.hid hi0
          have HI1 := Lib.hid hz0
          have HI2 := Lib.hid hz1
          have HI3 := Lib.hid hz2
          clear hi0 hz0 hz1 hz2
          go_upto_region 13 with fail
          have HD11 := HD6
          clear HD6
          generalize u6 = u11 at *
          have HX11c : Hid (∀ k, k < n → u11.cell? ⟨b, off + k, none⟩ = some (.int .u8 (f k))) := fun k hk => (HD11.out.box.box.below.cell (p := ⟨b, off + k, none⟩) hbb).trans (HC.out k hk)
          have hb11 : b < u11.heap.size := Nat.lt_of_lt_of_le hbb HD11.out.box.box.below.size
          refine wp_region_grow (C := fun W => Below u11.heap.size u11 W) 5 50 [val (.agg (udpc (w2 f 0) (w2 f 2) false)), mkF u11, val (.slice (some ⟨b, off, none⟩) n c), val (.slice D8 (n - 8) (c - 8)), ownF u11 (n - 8) (fun k => f (8 + k))] (by kernel_rfl) rfl (by kernel_rfl) rfl ⟨stb_val _, stb_mk _, stb_val _, stb_val _, stb_own _ _ _, trivial⟩ (Below.refl _ _).drew ?_ ?_
          · refine each_cons ?_ ?_
            · intro a W hW hd
              have h12 : a.tmps[12]?.getD undef = .pointer (some ⟨y, 0, none⟩) := slot_eq (hd 12 (by decide))
              refine grows_value (.agg (udpc (w2 f 0) (w2 f 2) false)) hW (?_ : _ = _) rfl
              clear hd
              simp only [execOp, Act.eval, Array.getD_eq_getD_getElem?, h12, Instr.loadAt, Instr.sureAddr, Sem.run_bind, Sem.run_pure, Result.andThen_ok, run_loadVar_row W y 65 65 (udpc (w2 f 0) (w2 f 2) false) (0, 0) _ ((hW.block _ (lt_heap HD11.out.hd)).trans HD11.out.hd) Try.underlying65 rfl (by kernel_rfl)]
            refine each_cons ?_ ?_
            · intro a W hW hd
              refine grows_new (.slice (some ⟨W.heap.size, 0, none⟩) 0 0) (w' := W.alloc (.cells #[] 5)) (?_ : _ = _) ⟨_, rfl, Own.fresh W _ _ rfl hW.size _ _⟩ (below_alloc _ _) (hW.alloc hW.size _)
              clear hd
              go_simp
            refine each_cons ?_ ?_
            · intro a W hW hd
              have h3 : a.tmps[3]?.getD undef = .slice (some ⟨b, off, none⟩) n c := slot_eq (hd 3 (by decide))
              exact grows_value _ hW (by simp [execOp, Act.eval, h3]) rfl
            refine each_cons ?_ ?_
            · intro a W hW hd
              have h47 : a.tmps[47]?.getD undef = .slice (some ⟨b, off, none⟩) n c := slot_eq (hd 47 (by decide))
              refine grows_value _ hW (?_ : _ = _) rfl
              clear hd
              go_simp
            refine each_cons ?_ ?_
            · intro a W hW hd
              have h48 : a.tmps[48]?.getD undef = .slice D8 (n - 8) (c - 8) := slot_eq (hd 48 (by decide))
              obtain ⟨z, h46, ho⟩ := hd 46 (by decide)
              have h46' : a.tmps[46]?.getD undef = .slice (some ⟨z, 0, none⟩) 0 0 := slot_eq h46
              obtain ⟨A2, c2, w', hrun, hown, hb⟩ := run_append_fresh (P := Try.prog) u11.heap.size 22 22 5 i0 Try.underlying22 HI0.out HI1.out HI2.out HI3.out ⟨z, 0, none⟩ ho (c' := c - 8) (HD8.out W W.heap.size f (.inr ⟨b, off, rfl, Nat.lt_of_lt_of_le hb11 hW.size, fun k hk => (hW.cell (p := ⟨b, off + k, none⟩) hb11).trans (HX11c.out k hk)⟩)) (by omega) hW.size
              refine grows_new (.slice A2 (n - 8) c2) (w' := w') ?_ ⟨A2, c2, rfl, hown⟩ hb (hW.trans (hb.mono hW.size))
              clear hd
              simp only [execOp, resolve, invoke, builtin, Sem.run_bind, Sem.run_pure, Result.andThen_ok, List.map_toArray, List.map_cons, List.map_nil, Act.eval, Array.getD_eq_getD_getElem?, h46', h48, hrun]
            exact each_nil
          · refine behind_val rfl ?_
            refine behind_cons fun v46 => ?_
            refine behind_val rfl ?_
            refine behind_val rfl ?_
            refine behind_cons fun v49 => ?_
            refine behind_nil fun u13 hCu13 hFu13 => ?_
            obtain ⟨⟨_, _⟩, ⟨P, cp, rfl, hP⟩⟩ := hFu13
            have HP := Lib.hid hP
            have HD13 := Lib.hid (HD11.out.step hCu13)
            clear hP hCu13
            simp only [Act.put, List.setIfInBounds_toArray, List.set_cons_succ, List.set_cons_zero, List.drop_succ_cons, List.drop_zero]
            refine wpList_store_row rfl 65 (.tmp 8) (.tmp 45) rfl (w.heap.size + 1 + 1) (udpc (w2 f 0) (w2 f 2) false) rfl rfl 65 udpz HD13.out.box.box.b2 (by kernel_rfl) rfl (udp_one ..) ?_
            simp only [Act.put]
            go_wp2_with fail
            refine bodyPost_ret (v := .tuple #[.agg (udpc (w2 f 0) (w2 f 2) false), .slice P (n - 8) cp, .int .i64 0]) (results_row2 Try.results22 _ _ (w.heap.size + 1 + 1) 65 (udpc (w2 f 0) (w2 f 2) false) (0, 0) _ rfl (setRow_heap _ (w.heap.size + 1 + 1) _ (udpc (w2 f 0) (w2 f 2) false) _ _ HD13.out.box.box.b2) Try.underlying65 rfl (by kernel_rfl)) rfl ?_
            refine .inr ⟨by first | rfl | exact hRe, ?_⟩
            unfold ReadUO
            rw [show decide (w2 f 6 = 0) = false from HN6.out]
            exact ⟨P, cp, rfl, (HP.out.le HD11.out.box.box.below.size).other HD13.out.box.box.b2 (by decide) (fun k hk => setRow_other _ (w.heap.size + 1 + 1) k _ hk), below_setRow HD13.out.box.box.below (by omega) _⟩
        · have c3' : (r != 0) = true := by simpa using c3
          have hRe : R = 6 := HRE.out.trans (udpE_4 N0.out N1.out N2.out (by rw [← HRR.out]; exact c3))
          go_wp2_with (first
            | (refine wpList_load_row rfl 65 (.tmp 11) rfl (w.heap.size + 1 + 1 + 1) rfl 65 udpz (0, 0) _ HD6.out.box.b3 Try.underlying65 rfl (by kernel_rfl) ?_)
            | (refine wpList_store_row rfl 65 (.tmp 8) (.tmp 44) rfl (w.heap.size + 1 + 1) udpz rfl rfl 65 udpz HD6.out.box.box.b2 (by kernel_rfl) rfl udpz_one ?_))
          refine bodyPost_ret (v := .tuple #[.agg udpz, .slice none 0 0, .int .i64 6]) (results_row2 Try.results22 _ _ (w.heap.size + 1 + 1) 65 udpz (0, 0) _ rfl (setRow_heap _ (w.heap.size + 1 + 1) _ udpz _ _ HD6.out.box.box.b2) Try.underlying65 rfl (by kernel_rfl)) rfl ?_
          have hRne : ¬ R = 0 := by omega
          exact .inl ⟨by first | exact hRne | omega | decide, by first | rfl | (rw [hRe] <;> rfl), below_setRow HD6.out.box.box.below (by omega) _⟩
    · have c1' : (w2 f 4 != (n : Int)) = true := by simpa using c1
      have hRe : R = 5 := HRE.out.trans (udpE_1 N0.out c1)
      go_wp2_with (first
        | (refine wpList_load_row rfl 65 (.tmp 11) rfl (w.heap.size + 1 + 1 + 1) rfl 65 udpz (0, 0) _ HX1.out.b3 Try.underlying65 rfl (by kernel_rfl) ?_)
        | (refine wpList_store_row rfl 65 (.tmp 8) (.tmp 24) rfl (w.heap.size + 1 + 1) udpz rfl rfl 65 udpz HX1.out.box.b2 (by kernel_rfl) rfl udpz_one ?_))
      refine bodyPost_ret (v := .tuple #[.agg udpz, .slice none 0 0, .int .i64 5]) (results_row2 Try.results22 _ _ (w.heap.size + 1 + 1) 65 udpz (0, 0) _ rfl (setRow_heap _ (w.heap.size + 1 + 1) _ udpz _ _ HX1.out.box.b2) Try.underlying65 rfl (by kernel_rfl)) rfl ?_
      have hRne : ¬ R = 0 := by omega
      exact .inl ⟨by first | exact hRne | omega | decide, by first | rfl | (rw [hRe] <;> rfl), below_setRow HX1.out.box.below (by omega) _⟩
end Go.Proofs.Ytlchegibfopglaa
