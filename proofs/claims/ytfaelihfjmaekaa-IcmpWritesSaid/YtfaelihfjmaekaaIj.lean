/- Layer 6: Write, the document's. -/
import Derived.Test.YtfaelihfjmaekaaIi
import Derived.Test.YtfaelihfjmaekaaIh
namespace Go.Proofs.Ytfaelihfjmaekaa
open Go.RowKit
set_option maxRecDepth 100000 in
set_option maxHeartbeats 4000000 in
theorem riwrite_any (v6 : Bool) (s d : Nat → Int) (hs : Byt s) (hd : Byt d) (kind code : Int) (hk : 0 ≤ kind ∧ kind ≤ 255) (hco : 0 ≤ code ∧ code ≤ 255) (r : Nat → Int) (hrb : Byt r) (A : Option Addr) (n c : Nat) (f : Nat → Int) (hf : Byt f) (hn : n ≤ 140737488355) (w : World) (hr : Rd w w.heap.size A n f) :
    Calls Try.prog 14 #[.bool v6, .agg (arr16 s), .agg (arr16 d), .int .u8 kind, .int .u8 code, .agg (arr4 r), .slice A n c] w (WrIO (icM v6 kind n) (icX v6 kind n) (icB kind code (rgt (mS v6 s d (8 + n)) (icB kind code 0 r f) (8 + n)) r f) w) := by
  have HR := Lib.hid hr
  have HF := Lib.hid hf
  have HRB := Lib.hid hrb
  have HS := Lib.hid hs
  have HD := Lib.hid hd
  have HK := Lib.hid hk
  have HCO := Lib.hid hco
  clear hr hf hrb hs hd
  obtain ⟨X, hX⟩ : ∃ X, X = icX v6 kind n := ⟨_, rfl⟩
  obtain ⟨M, hM⟩ : ∃ M, M = icM v6 kind n := ⟨_, rfl⟩
  rw [← hX, ← hM]
  have HXE := Lib.hid hX
  have HME := Lib.hid hM
  clear hX hM
  obtain ⟨i0, hi0, hz0, hz1, hz2⟩ := info_parts Try.info5
  have HI0 := Lib.hid hi0
  have HZ0 := Lib.hid hz0
  have HZ1 := Lib.hid hz1
  have HZ2 := Lib.hid hz2
  clear hi0 hz0 hz1 hz2
  have e1 : (w.alloc (.cells (arr16 s) 22)).heap.size = w.heap.size + 1 := by simp
  have e2 : ((w.alloc (.cells (arr16 s) 22)).alloc (.cells (arr16 d) 22)).heap.size = w.heap.size + 1 + 1 := by simp
  have HM1 : Hid (Mem w (((w.alloc (.cells (arr16 s) 22)).alloc (.cells (arr16 d) 22)).alloc (.cells (arr4 r) 37)) [(w.heap.size, .cells (arr16 s) 22 (0, 0)), (w.heap.size + 1, .cells (arr16 d) 22 (0, 0)), (w.heap.size + 1 + 1, .cells (arr4 r) 37 (0, 0))]) := Lib.hid ((((Mem.nil w).alloc (.cells (arr16 s) 22)).new (.cells (arr16 d) 22) (w.heap.size + 1) e1.symm).new (.cells (arr4 r) 37) (w.heap.size + 1 + 1) e2.symm)
  clear e1 e2
  obtain ⟨ek, hek⟩ : ∃ ek, ek = errK v6 kind := ⟨_, rfl⟩
  have HEK := Lib.hid hek
  have HE0 : Hid (∀ W, Calls Try.prog 12 #[.bool v6, .int .u8 kind] W fun e w' => e = .returned (.bool ek) ∧ W = w') := Lib.hid fun W => by
    rw [hek]
    exact risErr_any v6 kind hk W
  clear hek hk hco
  go_enter Try.func14, Try.ntmps14
  go_upto_region 1 with fail
  change Code.wp _ _ _ _ (((w.alloc (.cells (arr16 s) 22)).alloc (.cells (arr16 d) 22)).alloc (.cells (arr4 r) 37))
  generalize ((w.alloc (.cells (arr16 s) 22)).alloc (.cells (arr16 d) 22)).alloc (.cells (arr4 r) 37) = u1 at *
  go_upto_if 21 with (first
    | (go_at_call 12; refine (HE0.out _).mono ?_; rintro e u2 ⟨rfl, rfl⟩))
  clear HE0
  cases ek
  · have hXe : X = 10 := HXE.out.trans (icX_0 HEK.out.symm)
    have hMe : M = 0 := HME.out.trans (by unfold icM; rw [← HXE.out, hXe]; rfl)
    go_wp2_with fail
    go_ret2
    exact ⟨none, 0, by first | rfl | (rw [hXe, hMe] <;> rfl), by first | exact Own.nil_ _ _ _ _ | (rw [hMe]; exact Own.nil_ _ _ _ _), HM1.out.below⟩
  · by_cases c1 : 1652 < n
    · have c1' : (n : Int) > 1652 := by omega
      have hXe : X = 3 := HXE.out.trans (icX_1 HEK.out.symm c1)
      have hMe : M = 0 := HME.out.trans (by unfold icM; rw [← HXE.out, hXe]; rfl)
      go_wp2_with fail
      go_ret2
      exact ⟨none, 0, by first | rfl | (rw [hXe, hMe] <;> rfl), by first | exact Own.nil_ _ _ _ _ | (rw [hMe]; exact Own.nil_ _ _ _ _), HM1.out.below⟩
    · have c1' : (n : Int) ≤ 1652 := by omega
      have hn2 : n ≤ 1652 := by omega
      have hXe : X = 0 := HXE.out.trans (icX_2 HEK.out.symm c1)
      have hMe : M = 8 + n := HME.out.trans (by unfold icM; rw [← HXE.out, hXe]; rfl)
      clear HXE HME HEK c1
      have b0 : u1.cell? ⟨w.heap.size + 1 + 1, 0, none⟩ = some (.int .u8 (r 0)) := blk_cell (HM1.out.get 2 rfl) 0
      have b1 : u1.cell? ⟨w.heap.size + 1 + 1, 1, none⟩ = some (.int .u8 (r 1)) := blk_cell (HM1.out.get 2 rfl) 1
      have b2 : u1.cell? ⟨w.heap.size + 1 + 1, 2, none⟩ = some (.int .u8 (r 2)) := blk_cell (HM1.out.get 2 rfl) 2
      have b3 : u1.cell? ⟨w.heap.size + 1 + 1, 3, none⟩ = some (.int .u8 (r 3)) := blk_cell (HM1.out.get 2 rfl) 3
      have HO2 : Hid (MO w (u1.alloc (.cells #[.int .u8 (r 0), .int .u8 (r 1), .int .u8 (r 2), .int .u8 (r 3)] 5)) [(w.heap.size, .cells (arr16 s) 22 (0, 0)), (w.heap.size + 1, .cells (arr16 d) 22 (0, 0)), (w.heap.size + 1 + 1, .cells (arr4 r) 37 (0, 0))] u1.heap.size (some ⟨u1.heap.size, 0, none⟩) 4 4 r) :=
        Lib.hid (MO.start HM1.out (below_alloc u1 _) (own_new 4 r (Nat.le_refl _) (by omega) rfl _ rfl))
      go_upto_region 6 with (first
        | (at_builtin
           refine wpList_append_rd rfl (.tmp 33) (.tmp 34) _ rfl u1.heap.size 5 i0 Try.underlying23 HI0.out HZ0.out HZ1.out HZ2.out rfl HO2.out.own rfl (HR.out.keep HO2.out.below) (by omega) (alloc_le u1 _) ?_
           intro A3 c3 u3 hown3 hg3 _
           have HO3 := Lib.hid (HO2.out.app hown3 hg3)
           clear hown3 hg3))
      clear HO2 HM1 b0 b1 b2 b3
      obtain ⟨B, hB⟩ : ∃ B, B = u1.heap.size := ⟨_, rfl⟩
      rw [← hB] at HO3
      clear hB
      have HIB : Hid (Byt (icB kind code 0 r f)) := icB_byt HK.out HCO.out ⟨by omega, by omega⟩ HRB.out HF.out
      have HSO : Hid (∀ A5 c5 W, Rd W W.heap.size A5 (8 + n) (icB kind code 0 r f) → Calls Try.prog 22 #[.bool v6, .agg (arr16 s), .agg (arr16 d), .slice A5 (8 + n) c5] W fun e w' => e = .returned (.int .u16 (rgt (mS v6 s d (8 + n)) (icB kind code 0 r f) (8 + n))) ∧ Below W.heap.size W w') := Lib.hid fun A5 c5 W hr => iright_any v6 s d HS.out HD.out A5 (8 + n) c5 _ HIB.out (by omega) W hr
      have hCb := rgt_bd HIB.out (mS_bd v6 HS.out HD.out (8 + n)) (8 + n)
      have HT0 : Hid (∀ k, icB kind code 0 r f k = cat 4 (four kind code 0 0) (cat 4 r f) k) := Lib.hid fun k => icB_tail kind code 0 r f k
      generalize rgt (mS v6 s d (8 + n)) (icB kind code 0 r f) (8 + n) = C at *
      have HTC : Hid (∀ k, icB kind code C r f k = cat 4 (four kind code (C / 256) (C % 256)) (cat 4 r f) k) := Lib.hid fun k => icB_tail kind code C r f k
      generalize icB kind code 0 r f = G at *
      generalize icB kind code C r f = G2 at *
      have e48 : 4 + (4 + n) = 8 + n := by omega
      have HT3 : Hid (Rd u3 u3.heap.size A3 (4 + n) (cat 4 r f)) := HO3.out.own.rd
      go_upto_region 6 with fail
      refine wp_region_grow (C := fun W => Below u3.heap.size u3 W) 9 56 [val (.bool v6), val (.agg (arr16 s)), val (.agg (arr16 d)), val (.int .u8 kind), val (.int .u8 code), fun v W => ∃ z, v = .slice (some ⟨z, 0, none⟩) 4 4 ∧ Own W u3.heap.size 5 (some ⟨z, 0, none⟩) 4 4 (four kind code 0 0), val (.slice A3 (4 + n) c3), ownF u3 (8 + n) G, val (.int .u16 C)] (by kernel_rfl) rfl (by kernel_rfl) rfl ⟨stb_val _, stb_val _, stb_val _, stb_val _, stb_val _, (fun _ _ _ ⟨z, h, ho⟩ hb => ⟨z, h, ho.below hb⟩), stb_val _, stb_own _ _ _, stb_val _, trivial⟩ (Below.refl _ _).drew ?_ ?_
      · refine each_cons ?_ ?_
        · intro a W hW hd
          have h0 : a.tmps[0]?.getD undef = .bool v6 := slot_eq (hd 0 (by decide))
          exact grows_value _ hW (by simp [execOp, Act.eval, h0]) rfl
        refine each_cons ?_ ?_
        · intro a W hW hd
          have h8 : a.tmps[8]?.getD undef = .pointer (some ⟨w.heap.size, 0, none⟩) := slot_eq (hd 8 (by decide))
          refine grows_value (.agg (arr16 s)) hW (?_ : _ = _) rfl
          clear hd
          simp only [execOp, Act.eval, Array.getD_eq_getD_getElem?, h8, Instr.loadAt, Instr.sureAddr, Sem.run_bind, Sem.run_pure, Result.andThen_ok, run_loadVar_row W w.heap.size 22 22 (arr16 s) (0, 0) _ ((hW.block _ (lt_heap (HO3.out.mem.get 0 rfl))).trans (HO3.out.mem.get 0 rfl)) Try.underlying22 rfl (by kernel_rfl)]
        refine each_cons ?_ ?_
        · intro a W hW hd
          have h9 : a.tmps[9]?.getD undef = .pointer (some ⟨w.heap.size + 1, 0, none⟩) := slot_eq (hd 9 (by decide))
          refine grows_value (.agg (arr16 d)) hW (?_ : _ = _) rfl
          clear hd
          simp only [execOp, Act.eval, Array.getD_eq_getD_getElem?, h9, Instr.loadAt, Instr.sureAddr, Sem.run_bind, Sem.run_pure, Result.andThen_ok, run_loadVar_row W (w.heap.size + 1) 22 22 (arr16 d) (0, 0) _ ((hW.block _ (lt_heap (HO3.out.mem.get 1 rfl))).trans (HO3.out.mem.get 1 rfl)) Try.underlying22 rfl (by kernel_rfl)]
        refine each_cons ?_ ?_
        · intro a W hW hd
          have h3 : a.tmps[3]?.getD undef = .int .u8 kind := slot_eq (hd 3 (by decide))
          exact grows_value _ hW (by simp [execOp, Act.eval, h3]) rfl
        refine each_cons ?_ ?_
        · intro a W hW hd
          have h4 : a.tmps[4]?.getD undef = .int .u8 code := slot_eq (hd 4 (by decide))
          exact grows_value _ hW (by simp [execOp, Act.eval, h4]) rfl
        refine each_cons ?_ ?_
        · intro a W hW hd
          have h39 : a.tmps[39]?.getD undef = .int .u8 kind := slot_eq (hd 39 (by decide))
          have h40 : a.tmps[40]?.getD undef = .int .u8 code := slot_eq (hd 40 (by decide))
          refine grows_new (.slice (some ⟨W.heap.size, 0, none⟩) 4 4) (w' := W.alloc (.cells #[.int .u8 kind, .int .u8 code, .int .u8 0, .int .u8 0] 5)) (?_ : _ = _) ⟨_, rfl, own_new 4 (four kind code 0 0) hW.size (by omega) rfl _ rfl⟩ (below_alloc _ _) (hW.alloc hW.size _)
          clear hd
          go_simp
        refine each_cons ?_ ?_
        · intro a W hW hd
          have h16 : a.tmps[16]?.getD undef = .slice A3 (4 + n) c3 := slot_eq (hd 16 (by decide))
          exact grows_value _ hW (by simp [execOp, Act.eval, h16]) rfl
        refine each_cons ?_ ?_
        · intro a W hW hd
          have h42 : a.tmps[42]?.getD undef = .slice A3 (4 + n) c3 := slot_eq (hd 42 (by decide))
          obtain ⟨z, h41, ho⟩ := hd 41 (by decide)
          have h41' : a.tmps[41]?.getD undef = .slice (some ⟨z, 0, none⟩) 4 4 := slot_eq h41
          obtain ⟨A2, c2, w', hrun, hown, hb⟩ := run_append_full (P := Try.prog) u3.heap.size 23 23 5 i0 Try.underlying23 HI0.out HZ0.out HZ1.out HZ2.out ho (by omega) (c' := c3) ((HT3.out.keep hW).more hW.size) (by omega) hW.size
          rw [e48] at hrun hown
          refine grows_new (.slice A2 (8 + n) c2) (w' := w') ?_ ⟨A2, c2, rfl, hown.same fun k _ => HT0.out k⟩ hb (hW.trans (hb.mono hW.size))
          clear hd
          simp only [execOp, resolve, invoke, builtin, Sem.run_bind, Sem.run_pure, Result.andThen_ok, List.map_toArray, List.map_cons, List.map_nil, Act.eval, Array.getD_eq_getD_getElem?, h41', h42, hrun]
        refine each_cons ?_ ?_
        · intro a W hW hd
          have h36 : a.tmps[36]?.getD undef = .bool v6 := slot_eq (hd 36 (by decide))
          have h37 : a.tmps[37]?.getD undef = .agg (arr16 s) := slot_eq (hd 37 (by decide))
          have h38 : a.tmps[38]?.getD undef = .agg (arr16 d) := slot_eq (hd 38 (by decide))
          obtain ⟨A5, c5, h43, ho⟩ := hd 43 (by decide)
          have h43' : a.tmps[43]?.getD undef = .slice A5 (8 + n) c5 := slot_eq h43
          refine grows_call (fn := 22) (args := #[.bool v6, .agg (arr16 s), .agg (arr16 d), .slice A5 (8 + n) c5]) ?_ ?_
          · clear hd
            go_simp
          · refine (HSO.out A5 c5 W ho.rd).mono ?_
            rintro e w' ⟨he, hb⟩
            exact ⟨_, he, rfl, hb, hW.trans (hb.mono hW.size)⟩
        exact each_nil
      · refine behind_val rfl ?_
        refine behind_val rfl ?_
        refine behind_val rfl ?_
        refine behind_val rfl ?_
        refine behind_val rfl ?_
        refine behind_cons fun v41 => ?_
        refine behind_val rfl ?_
        refine behind_cons fun v43 => ?_
        refine behind_val rfl ?_
        refine behind_nil fun u4 hC hFF => ?_
        clear hFF
        have HO4 := Lib.hid (HO3.out.step hC)
        clear hC HO3 HSO HT3
        simp only [Act.put, List.setIfInBounds_toArray, List.set_cons_succ, List.set_cons_zero, List.drop_succ_cons, List.drop_zero]
        have t1 : C.tdiv 256 = C / 256 := Int.tdiv_eq_ediv_of_nonneg hCb.1
        have t2 : C.tmod 256 = C % 256 := Int.tmod_eq_emod_of_nonneg hCb.1
        have z1 : IntKind.u8.wrap (C / 256) = C / 256 := by rw [IntKind.wrap_u8']; omega
        have z2 : IntKind.u8.wrap (C % 256) = C % 256 := by rw [IntKind.wrap_u8']; omega
        have z3 : IntKind.u16.wrap (C / 256) = C / 256 := by rw [IntKind.wrap_u16]; omega
        have z4 : IntKind.u16.wrap (C % 256) = C % 256 := by rw [IntKind.wrap_u16]; omega
        have hwl := HO4.out.below.size
        have HO5 : Hid (Own (u4.alloc (.cells #[.int .u8 kind, .int .u8 code, .int .u8 (C / 256), .int .u8 (C % 256)] 5)) w.heap.size 5 (some ⟨u4.heap.size, 0, none⟩) 4 4 (four kind code (C / 256) (C % 256))) := Lib.hid (own_new 4 _ hwl (by omega) rfl _ rfl)
        have HB5 : Hid (Below w.heap.size w (u4.alloc (.cells #[.int .u8 kind, .int .u8 code, .int .u8 (C / 256), .int .u8 (C % 256)] 5))) := HO4.out.below.alloc hwl _
        go_wp2_with (first
          | (at_builtin
             refine wpList_append_rd rfl (.tmp 53) (.tmp 54) _ rfl w.heap.size 5 i0 Try.underlying23 HI0.out HZ0.out HZ1.out HZ2.out rfl HO5.out rfl (HO4.out.alloc (.cells #[.int .u8 kind, .int .u8 code, .int .u8 (C / 256), .int .u8 (C % 256)] 5)).own.rd (by omega) HB5.out.size ?_
             intro A6 c6 u6 hown6 hg6 _
             have HB6 : Hid (Below w.heap.size w u6) := HB5.out.grown hg6 HB5.out.size (fun k hk => HO5.out.at_ k hk)
             have HO6 := Lib.hid hown6
             clear hown6 hg6))
        go_ret2
        have HO7 := HO6.out
        rw [e48] at HO7
        refine ⟨A6, c6, by first | rfl | (rw [e48]; rfl) | (rw [hXe, hMe] <;> rfl), ?_, HB6.out⟩
        first
          | exact HO7.same fun k _ => HTC.out k
          | (rw [hMe]; exact HO7.same fun k _ => HTC.out k)
end Go.Proofs.Ytfaelihfjmaekaa
