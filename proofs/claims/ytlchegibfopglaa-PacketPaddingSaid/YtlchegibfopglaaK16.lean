import Derived.Test.YtlchegibfopglaaK15
import Derived.Test.YtlchegibfopglaaK0
import Derived.Test.YtlchegibfopglaaK6
/- Layer 6: Read, the program's. -/
namespace Go.Proofs.Ytlchegibfopglaa
set_option maxRecDepth 100000
open Go.RowKit
theorem within_any (v6 : Bool) (A : Option Addr) (n c : Nat) (f : Nat → Int) (hf : Byt f) (hn : n ≤ 140737488355328) (hcap : n ≤ c) (hc' : c ≤ 9223372036854775807) (w : World) (hr : Rd w w.heap.size A n f) :
    Calls Try.prog 63 #[.bool v6, .slice A n c] w (WiOut v6 f n w) := by
  cases v6
  · exact within_false A n c f hf hn hcap hc' w hr
  · exact within_true A n c f hf hn hcap hc' w hr
theorem rwithin_any (v6 : Bool) (A : Option Addr) (n c : Nat) (f : Nat → Int) (hf : Byt f) (hn : n ≤ 140737488355328) (hcap : n ≤ c) (hc' : c ≤ 9223372036854775807) (w : World) (hr : Rd w w.heap.size A n f) :
    Calls Try.prog 35 #[.bool v6, .slice A n c] w (WiOut v6 f n w) := by
  cases v6
  · exact rwithin_false A n c f hf hn hcap hc' w hr
  · exact rwithin_true A n c f hf hn hcap hc' w hr
/-- A report's cells: a type, a code, a flow's. -/
def repT (ty co : Int) (t : Array Value) : Array Value := #[.int .u8 ty, .int .u8 co] ++ t
theorem repT_size (ty co : Int) {t : Array Value} (h : t.size = 36) : (repT ty co t).size = 38 := by unfold repT; simp [h]
theorem repT_one (ty co : Int) {t : Array Value} (h : t.all (·.oneCell') = true) : (repT ty co t).all (·.oneCell') = true := by
  unfold repT
  rw [Array.all_append, h]
  simp [Value.oneCell']
/-- The report that Read tells. -/
def rT (v6 : Bool) (S : Int) (f : Nat → Int) (n : Nat) : Array Value :=
  if icE v6 S f n = 0 then repT (f 0) (f 1) (wT v6 (fun k => f (8 + k)) (n - 8)) else repz
theorem rT_size (v6 : Bool) (S : Int) (f : Nat → Int) (n : Nat) : (rT v6 S f n).size = 38 := by
  unfold rT
  split
  · exact repT_size _ _ (wT_size ..)
  · rfl
theorem rT_one (v6 : Bool) (S : Int) (f : Nat → Int) (n : Nat) : (rT v6 S f n).all (·.oneCell') = true := by
  unfold rT
  split
  · exact repT_one _ _ (wT_one ..)
  · exact repz_one
theorem rT_no {v6 : Bool} {S : Int} {f : Nat → Int} {n : Nat} (h : icE v6 S f n ≠ 0) : rT v6 S f n = repz := by unfold rT; rw [if_neg h]
theorem rT_ok {v6 : Bool} {S : Int} {f : Nat → Int} {n : Nat} (h : icE v6 S f n = 0) : rT v6 S f n = repT (f 0) (f 1) (wT v6 (fun k => f (8 + k)) (n - 8)) := by unfold rT; rw [if_pos h]
theorem icE_0 {v6 : Bool} {S : Int} {f : Nat → Int} {n : Nat} (h : n < 8) : icE v6 S f n = 4 := by unfold icE; rw [if_pos h]
theorem icE_1 {v6 : Bool} {S : Int} {f : Nat → Int} {n : Nat} (h0 : ¬ n < 8) (h : rgt S f n ≠ 0) : icE v6 S f n = 6 := by unfold icE; rw [if_neg h0, if_pos h]
theorem icE_2 {v6 : Bool} {S : Int} {f : Nat → Int} {n : Nat} (h0 : ¬ n < 8) (h1 : rgt S f n = 0) (h : errK v6 (f 0) = false) : icE v6 S f n = 10 := by unfold icE; rw [if_neg h0, if_neg (fun q => q h1), if_pos h]
theorem icE_3 {v6 : Bool} {S : Int} {f : Nat → Int} {n : Nat} (h0 : ¬ n < 8) (h1 : rgt S f n = 0) (h : errK v6 (f 0) = true) : icE v6 S f n = winE v6 (fun k => f (8 + k)) (n - 8) := by unfold icE; rw [if_neg h0, if_neg (fun q => q h1), if_neg (by rw [h]; decide)]
/-- What Read tells. -/
def RdOut (v6 : Bool) (S : Int) (f : Nat → Int) (n : Nat) (w : World) (e : Ending) (w' : World) : Prop := e = .returned (.tuple #[.agg (rT v6 S f n), .int .i64 (icE v6 S f n)]) ∧ Below w.heap.size w w'
theorem wT_tup (v6 : Bool) (f : Nat → Int) (n : Nat) : ∃ v pr ss dd sp dp, wT v6 f n = tupc v pr ss dd sp dp := by
  unfold wT
  split
  · exact ⟨_, _, _, _, _, _, rfl⟩
  · exact ⟨_, _, _, _, _, _, rfl⟩
theorem build_rep (a b : Int) (v : Bool) (pr : Int) (ss dd : Nat → Int) (sp dp : Int) (W : World) : (Instr.build 69 #[(0, .int .u8 a), (1, .int .u8 b), (2, .agg (tupc v pr ss dd sp dp))]).run Try.prog W = .ok (.agg (repT a b (tupc v pr ss dd sp dp))) W := by kernel_rfl
set_option maxRecDepth 100000 in
set_option maxHeartbeats 4000000 in
theorem iread_any (v6 : Bool) (s d : Nat → Int) (hs : Byt s) (hd : Byt d) (A : Option Addr) (n c : Nat) (f : Nat → Int) (hf : Byt f) (hn : n ≤ 140737488355328) (hcap : n ≤ c) (hc' : c ≤ 9223372036854775807) (w : World) (hr : Rd w w.heap.size A n f) :
    Calls Try.prog 43 #[.bool v6, .agg (arr16 s), .agg (arr16 d), .slice A n c] w (RdOut v6 (mS v6 s d n) f n w) := by
  have HR := Lib.hid hr
  have HF := Lib.hid hf
  have HSO : Hid (∀ W, Rd W W.heap.size A n f → Calls Try.prog 61 #[.bool v6, .agg (arr16 s), .agg (arr16 d), .slice A n c] W fun e w' => e = .returned (.int .u16 (rgt (mS v6 s d n) f n)) ∧ Below W.heap.size W w') := Lib.hid fun W hr => isum_any v6 s d hs hd A n c f hf (by omega) hcap W hr
  clear hr hf hs hd
  generalize mS v6 s d n = S at *
  unfold RdOut
  obtain ⟨R, hR⟩ : ∃ R, R = icE v6 S f n := ⟨_, rfl⟩
  obtain ⟨TT, hT⟩ : ∃ TT, TT = rT v6 S f n := ⟨_, rfl⟩
  rw [← hR, ← hT]
  have HRE := Lib.hid hR
  have HTE := Lib.hid hT
  obtain ⟨r, hr⟩ : ∃ r, r = rgt S f n := ⟨_, rfl⟩
  rw [← hr] at HSO
  have HRR := Lib.hid hr
  clear hR hT hr
  have HI36 := Lib.hid (show (Try.prog.info? 26).map (·.size) = some 36 by kernel_rfl)
  have HI38 := Lib.hid (show (Try.prog.info? 69).map (·.size) = some 38 by kernel_rfl)
  have e1 : (w.alloc (.cells (arr16 s) 23)).heap.size = w.heap.size + 1 := by simp
  have e2 : ((w.alloc (.cells (arr16 s) 23)).alloc (.cells (arr16 d) 23)).heap.size = w.heap.size + 1 + 1 := by simp
  have HM1 : Hid (Mem w (((w.alloc (.cells (arr16 s) 23)).alloc (.cells (arr16 d) 23)).alloc (.cells repz 69)) [(w.heap.size, .cells (arr16 s) 23 (0, 0)), (w.heap.size + 1, .cells (arr16 d) 23 (0, 0)), (w.heap.size + 1 + 1, .cells repz 69 (0, 0))]) := Lib.hid ((((Mem.nil w).alloc (.cells (arr16 s) 23)).new (.cells (arr16 d) 23) (w.heap.size + 1) e1.symm).new (.cells repz 69) (w.heap.size + 1 + 1) e2.symm)
  clear e1 e2
  go_enter Try.func43, Try.ntmps43
  go_upto_if 14 with fail
  change Code.wp _ _ _ _ (((w.alloc (.cells (arr16 s) 23)).alloc (.cells (arr16 d) 23)).alloc (.cells repz 69))
  generalize ((w.alloc (.cells (arr16 s) 23)).alloc (.cells (arr16 d) 23)).alloc (.cells repz 69) = u1 at *
  by_cases c0 : n < 8
  · have c0' : (n : Int) < 8 := by omega
    have hRe : R = 4 := HRE.out.trans (icE_0 c0)
    have hTe : TT = repz := HTE.out.trans (rT_no (by rw [← HRE.out, hRe]; decide))
    go_wp2_with (first
      | (refine wpList_store_row rfl 69 (.tmp 8) (.tmp 15) rfl (w.heap.size + 1 + 1) repz rfl rfl 69 repz (HM1.out.get 2 rfl) (by kernel_rfl) rfl repz_one ?_))
    refine bodyPost_ret (v := .tuple #[.agg repz, .int .i64 4]) (results_row1 Try.results43 _ _ (w.heap.size + 1 + 1) 69 repz (0, 0) _ rfl (setRow_heap _ (w.heap.size + 1 + 1) _ repz _ _ (HM1.out.get 2 rfl)) Try.underlying69 rfl (by kernel_rfl)) rfl ?_
    exact ⟨by first | rfl | (rw [hRe, hTe] <;> rfl), below_setRow HM1.out.below (by omega) _⟩
  · have N0 : Hid (¬ n < 8) := c0
    have c0' : (8 : Int) ≤ (n : Int) := by omega
    have n0 : 0 < n := by omega
    rcases HR.out with h0 | ⟨b, off, rfl, hbb, hcell⟩
    · omega
    have HC := Lib.hid hcell
    clear hcell
    go_upto_if 21 with (first
      | (refine wpList_load_roww rfl 23 (.tmp 5) rfl w.heap.size rfl 23 (arr16 s) (0, 0) _ (HM1.out.get 0 rfl) Try.underlying23 rfl (by kernel_rfl) ?_)
      | (refine wpList_load_roww rfl 23 (.tmp 6) rfl (w.heap.size + 1) rfl 23 (arr16 d) (0, 0) _ (HM1.out.get 1 rfl) Try.underlying23 rfl (by kernel_rfl) ?_)
      | (go_at_call 61; refine (HSO.out _ (HM1.out.rd HR.out)).mono ?_; rintro e u2 ⟨rfl, hb2⟩; have HM2 := Lib.hid (HM1.out.step hb2); clear hb2))
    clear HSO HM1
    by_cases c1 : r = 0
    · have c1' : (r != 0) = false := by simp [c1]
      have N1 : Hid (rgt S f n = 0) := Lib.hid (HRR.out.symm.trans c1)
      subst c1
      clear HRR
      have HE0 := Lib.hid (isErr_any v6 (f 0) (HF.out 0) u2)
      obtain ⟨ek, hek⟩ : ∃ ek, ek = errK v6 (f 0) := ⟨_, rfl⟩
      rw [← hek] at HE0
      have HEK := Lib.hid hek
      clear hek
      have x0 := HM2.out.cell hbb (HC.out 0 (by omega))
      replace x0 : u2.cell? ⟨b, off, none⟩ = some (.int .u8 (f 0)) := x0
      go_upto_if 28 with (first
        | (go_at_call 62; refine HE0.out.mono ?_; rintro e u3 ⟨rfl, rfl⟩))
      clear HE0 x0
      cases ek
      · clear c1'
        have hRe : R = 10 := HRE.out.trans (icE_2 N0.out N1.out HEK.out.symm)
        have hTe : TT = repz := HTE.out.trans (rT_no (by rw [← HRE.out, hRe]; decide))
        go_wp2_with (first
          | (refine wpList_store_row rfl 69 (.tmp 8) (.tmp 29) rfl (w.heap.size + 1 + 1) repz rfl rfl 69 repz (HM2.out.get 2 rfl) (by kernel_rfl) rfl repz_one ?_))
        refine bodyPost_ret (v := .tuple #[.agg repz, .int .i64 10]) (results_row1 Try.results43 _ _ (w.heap.size + 1 + 1) 69 repz (0, 0) _ rfl (setRow_heap _ (w.heap.size + 1 + 1) _ repz _ _ (HM2.out.get 2 rfl)) Try.underlying69 rfl (by kernel_rfl)) rfl ?_
        exact ⟨by first | rfl | (rw [hRe, hTe] <;> rfl), below_setRow HM2.out.below (by omega) _⟩
      · obtain ⟨D, hsD, hrD⟩ := slice_any (some ⟨b, off, none⟩) n c 8 (by omega) hcap hc'
        have hsD' : ∀ W, (Instr.sliceAt 22 (.slice (some ⟨b, off, none⟩) n c) (some (.int .i64 8)) none none).run Try.prog W = .ok (.slice D (n - 8) (c - 8)) W := hsD
        obtain ⟨E, hE⟩ : ∃ E, E = winE v6 (fun k => f (8 + k)) (n - 8) := ⟨_, rfl⟩
        obtain ⟨tt, htt⟩ : ∃ tt, tt = wT v6 (fun k => f (8 + k)) (n - 8) := ⟨_, rfl⟩
        have HWI : Hid (Calls Try.prog 63 #[.bool v6, .slice D (n - 8) (c - 8)] u2 fun e w' => e = .returned (.tuple #[.agg tt, .int .i64 E]) ∧ Below u2.heap.size u2 w') := Lib.hid (by
          rw [hE, htt]
          exact within_any v6 D (n - 8) (c - 8) (fun k => f (8 + k)) (fun k => HF.out _) (by omega) (by omega) (by omega) u2 (hrD _ _ _ (HM2.out.rd HR.out)))
        have HEE := Lib.hid hE
        have HTT := Lib.hid htt
        have HSZ : Hid (tt.size = 36) := Lib.hid (by rw [htt]; exact wT_size ..)
        have HO36 : Hid (tt.all (·.oneCell') = true) := Lib.hid (by rw [htt]; exact wT_one ..)
        have HBR : Hid (∀ W, (Instr.build 69 #[(0, .int .u8 (f 0)), (1, .int .u8 (f 1)), (2, .agg tt)]).run Try.prog W = .ok (.agg (repT (f 0) (f 1) tt)) W) := Lib.hid fun W => by
          obtain ⟨v, pr, ss, dd, sp, dp, h⟩ := wT_tup v6 (fun k => f (8 + k)) (n - 8)
          rw [htt, h]
          exact build_rep ..
        have HS38 := Lib.hid (repT_size (f 0) (f 1) HSZ.out)
        have HO38 := Lib.hid (repT_one (f 0) (f 1) HO36.out)
        clear hE htt hsD hrD
        go_wp2_with fail
        go_at_call 63
        refine HWI.out.mono ?_
        rintro e u3 ⟨rfl, hb3⟩
        have HM3 := Lib.hid (HM2.out.step hb3)
        clear hb3 HM2 HWI
        have HQ : Hid ((u3.alloc (.cells tupz 26)).heap[u3.heap.size]? = some (.cells tupz 26 (0, 0))) := heap_alloc_new u3 _
        go_upto_if 38 with (first
          | (refine wpList_store_row rfl 26 (.tmp 10) (.tmp 35) rfl u3.heap.size tt rfl rfl 26 tupz HQ.out (HI36.out.trans (by rw [HSZ.out])) (by rw [HSZ.out]; rfl) HO36.out ?_))
        change Code.wp _ _ _ _ ((u3.alloc (.cells tupz 26)).setRow u3.heap.size tt)
        obtain ⟨q, hq⟩ : ∃ q, q = u3.heap.size := ⟨_, rfl⟩
        have HM4 : Hid (Mem w ((u3.alloc (.cells tupz 26)).setRow q tt) [(w.heap.size, .cells (arr16 s) 23 (0, 0)), (w.heap.size + 1, .cells (arr16 d) 23 (0, 0)), (w.heap.size + 1 + 1, .cells repz 69 (0, 0)), (q, .cells tt 26 (0, 0))]) := Lib.hid ((HM3.out.new (.cells tupz 26) q hq).row 3 rfl tt)
        rw [← hq]
        clear hq HQ HM3
        generalize (u3.alloc (.cells tupz 26)).setRow q tt = u4 at *
        by_cases c2 : E = 0
        · subst c2
          have hRe : R = 0 := HRE.out.trans ((icE_3 N0.out N1.out HEK.out.symm).trans HEE.out.symm)
          have hTe : TT = repT (f 0) (f 1) tt := by rw [HTT.out]; exact HTE.out.trans (rT_ok (by rw [← HRE.out]; exact hRe))
          go_upto_region 10 with fail
          have hbu : b < u4.heap.size := Nat.lt_of_lt_of_le hbb HM4.out.below.size
          have HXU : Hid (∀ k, k < n → u4.cell? ⟨b, off + k, none⟩ = some (.int .u8 (f k))) := fun k hk => HM4.out.cell hbb (HC.out k hk)
          have HQU := Lib.hid (HM4.out.get 3 rfl)
          have i1 : (1 : Int) < (n : Int) := by omega
          refine wp_region_grow (C := fun W => Below u4.heap.size u4 W) 8 49 [val (.slice (some ⟨b, off, none⟩) n c), val (.pointer (some ⟨b, off, none⟩)), val (.int .u8 (f 0)), val (.slice (some ⟨b, off, none⟩) n c), val (.pointer (some ⟨b, off + 1, none⟩)), val (.int .u8 (f 1)), val (.agg tt), val (.agg (repT (f 0) (f 1) tt))] (by kernel_rfl) rfl (by kernel_rfl) rfl ⟨stb_val _, stb_val _, stb_val _, stb_val _, stb_val _, stb_val _, stb_val _, stb_val _, trivial⟩ (Below.refl _ _).drew ?_ ?_
          · refine each_cons ?_ ?_
            · intro a W hW hd
              have h3 : a.tmps[3]?.getD undef = .slice (some ⟨b, off, none⟩) n c := slot_eq (hd 3 (by decide))
              exact grows_value _ hW (by simp [execOp, Act.eval, h3]) rfl
            refine each_cons ?_ ?_
            · intro a W hW hd
              have h41 : a.tmps[41]?.getD undef = .slice (some ⟨b, off, none⟩) n c := slot_eq (hd 41 (by decide))
              refine grows_value _ hW (?_ : _ = _) rfl
              clear hd
              go_simp
            refine each_cons ?_ ?_
            · intro a W hW hd
              have h42 : a.tmps[42]?.getD undef = .pointer (some ⟨b, off, none⟩) := slot_eq (hd 42 (by decide))
              have hx := (hW.cell (p := ⟨b, off, none⟩) hbu).trans (HXU.out 0 (by omega))
              refine grows_value _ hW (?_ : _ = _) rfl
              clear hd
              go_simp
            refine each_cons ?_ ?_
            · intro a W hW hd
              have h3 : a.tmps[3]?.getD undef = .slice (some ⟨b, off, none⟩) n c := slot_eq (hd 3 (by decide))
              exact grows_value _ hW (by simp [execOp, Act.eval, h3]) rfl
            refine each_cons ?_ ?_
            · intro a W hW hd
              have h44 : a.tmps[44]?.getD undef = .slice (some ⟨b, off, none⟩) n c := slot_eq (hd 44 (by decide))
              refine grows_value _ hW (?_ : _ = _) rfl
              clear hd
              go_simp
            refine each_cons ?_ ?_
            · intro a W hW hd
              have h45 : a.tmps[45]?.getD undef = .pointer (some ⟨b, off + 1, none⟩) := slot_eq (hd 45 (by decide))
              have hx := (hW.cell (p := ⟨b, off + 1, none⟩) hbu).trans (HXU.out 1 (by omega))
              refine grows_value _ hW (?_ : _ = _) rfl
              clear hd
              go_simp
            refine each_cons ?_ ?_
            · intro a W hW hd
              have h10 : a.tmps[10]?.getD undef = .pointer (some ⟨q, 0, none⟩) := slot_eq (hd 10 (by decide))
              refine grows_value (.agg tt) hW (?_ : _ = _) rfl
              clear hd
              simp only [execOp, Act.eval, Array.getD_eq_getD_getElem?, h10, Instr.loadAt, Instr.sureAddr, Sem.run_bind, Sem.run_pure, Result.andThen_ok, run_loadVar_row W q 26 26 tt (0, 0) _ ((hW.block _ (lt_heap HQU.out)).trans HQU.out) Try.underlying26 rfl (HI36.out.trans (by rw [HSZ.out]))]
            refine each_cons ?_ ?_
            · intro a W hW hd
              have h43 : a.tmps[43]?.getD undef = .int .u8 (f 0) := slot_eq (hd 43 (by decide))
              have h46 : a.tmps[46]?.getD undef = .int .u8 (f 1) := slot_eq (hd 46 (by decide))
              have h47 : a.tmps[47]?.getD undef = .agg tt := slot_eq (hd 47 (by decide))
              refine grows_value (.agg (repT (f 0) (f 1) tt)) hW (?_ : _ = _) rfl
              clear hd
              simp only [execOp, Act.eval, Array.getD_eq_getD_getElem?, List.map_toArray, List.map_cons, List.map_nil, h43, h46, h47, Sem.run_bind, Sem.run_pure, Result.andThen_ok, HBR.out W]
            exact each_nil
          · refine behind_val rfl ?_
            refine behind_val rfl ?_
            refine behind_val rfl ?_
            refine behind_val rfl ?_
            refine behind_val rfl ?_
            refine behind_val rfl ?_
            refine behind_val rfl ?_
            refine behind_val rfl ?_
            refine behind_nil fun u5 hC hFF => ?_
            clear hFF
            have HME := Lib.hid (HM4.out.step hC)
            clear hC
            simp only [Act.put, List.setIfInBounds_toArray, List.set_cons_succ, List.set_cons_zero, List.drop_succ_cons, List.drop_zero]
            refine wpList_store_row rfl 69 (.tmp 8) (.tmp 48) rfl (w.heap.size + 1 + 1) (repT (f 0) (f 1) tt) rfl rfl 69 repz (HME.out.get 2 rfl) (HI38.out.trans (by rw [HS38.out])) (by rw [HS38.out]; rfl) HO38.out ?_
            simp only [Act.put]
            go_wp2_with fail
            refine bodyPost_ret (v := .tuple #[.agg (repT (f 0) (f 1) tt), .int .i64 0]) (results_row1 Try.results43 _ _ (w.heap.size + 1 + 1) 69 (repT (f 0) (f 1) tt) (0, 0) _ rfl (setRow_heap _ (w.heap.size + 1 + 1) _ (repT (f 0) (f 1) tt) _ _ (HME.out.get 2 rfl)) Try.underlying69 rfl (HI38.out.trans (by rw [HS38.out]))) rfl ?_
            exact ⟨by first | rfl | (rw [hRe, hTe] <;> rfl), below_setRow HME.out.below (by omega) _⟩
        · have c2' : (E != 0) = true := by simpa using c2
          have hRe : R = E := HRE.out.trans ((icE_3 N0.out N1.out HEK.out.symm).trans HEE.out.symm)
          have hTe : TT = repz := HTE.out.trans (rT_no (by rw [← HRE.out, hRe]; exact c2))
          go_wp2_with (first
            | (refine wpList_store_row rfl 69 (.tmp 8) (.tmp 39) rfl (w.heap.size + 1 + 1) repz rfl rfl 69 repz (HM4.out.get 2 rfl) (by kernel_rfl) rfl repz_one ?_))
          refine bodyPost_ret (v := .tuple #[.agg repz, .int .i64 E]) (results_row1 Try.results43 _ _ (w.heap.size + 1 + 1) 69 repz (0, 0) _ rfl (setRow_heap _ (w.heap.size + 1 + 1) _ repz _ _ (HM4.out.get 2 rfl)) Try.underlying69 rfl (by kernel_rfl)) rfl ?_
          exact ⟨by first | rfl | (rw [hRe, hTe] <;> rfl), below_setRow HM4.out.below (by omega) _⟩
    · have c1' : (r != 0) = true := by simpa using c1
      have hRe : R = 6 := HRE.out.trans (icE_1 N0.out (by rw [← HRR.out]; exact c1))
      have hTe : TT = repz := HTE.out.trans (rT_no (by rw [← HRE.out, hRe]; decide))
      go_wp2_with (first
        | (refine wpList_store_row rfl 69 (.tmp 8) (.tmp 22) rfl (w.heap.size + 1 + 1) repz rfl rfl 69 repz (HM2.out.get 2 rfl) (by kernel_rfl) rfl repz_one ?_))
      refine bodyPost_ret (v := .tuple #[.agg repz, .int .i64 6]) (results_row1 Try.results43 _ _ (w.heap.size + 1 + 1) 69 repz (0, 0) _ rfl (setRow_heap _ (w.heap.size + 1 + 1) _ repz _ _ (HM2.out.get 2 rfl)) Try.underlying69 rfl (by kernel_rfl)) rfl ?_
      exact ⟨by first | rfl | (rw [hRe, hTe] <;> rfl), below_setRow HM2.out.below (by omega) _⟩
end Go.Proofs.Ytlchegibfopglaa
/- Layer 3's words: what options are, a header's bytes. -/
namespace Go.Proofs.Ytlchegibfopglaa
open Go.RowKit
--CUT
/-- The kinds of the options of n bytes, from a place on; none: they are not of the form. -/
def optK (f : Nat → Int) (n at_ : Nat) : Option (List Int) :=
  if h : n ≤ at_ ∨ f at_ = 0 then some []
  else if f at_ = 1 then (optK f n (at_ + 1)).map (1 :: ·)
  else if h2 : at_ + 1 = n ∨ f (at_ + 1) < 2 then none
  else if n < at_ + (f (at_ + 1)).toNat then none
  else (optK f n (at_ + (f (at_ + 1)).toNat)).map (f at_ :: ·)
termination_by n - at_
decreasing_by
  · omega
  · omega
/-- Is it a route? -/
def route (x : Int) : Bool := x == 131 || x == 137
/-- What Options tells. -/
def optE (f : Nat → Int) (n : Nat) : Int :=
  if 40 < n ∨ n % 4 ≠ 0 then 5 else match optK f n 0 with
    | none => 5
    | some ks => if ks.any route then 12 else 0
theorem optK_end {f : Nat → Int} {n a : Nat} (h : n ≤ a ∨ f a = 0) : optK f n a = some [] := by
  unfold optK
  rw [dif_pos h]
theorem optK_one {f : Nat → Int} {n a : Nat} (h : a < n) (h1 : f a = 1) : optK f n a = (optK f n (a + 1)).map (1 :: ·) := by
  rw [optK, dif_neg (by omega), if_pos h1]
theorem optK_bad {f : Nat → Int} {n a : Nat} (h : a < n) (h0 : f a ≠ 0) (h1 : f a ≠ 1) (h2 : a + 1 = n ∨ f (a + 1) < 2) : optK f n a = none := by
  rw [optK, dif_neg (by omega), if_neg h1, dif_pos h2]
theorem optK_over {f : Nat → Int} {n a : Nat} (h : a < n) (h0 : f a ≠ 0) (h1 : f a ≠ 1) (h2 : ¬ (a + 1 = n ∨ f (a + 1) < 2)) (h3 : n < a + (f (a + 1)).toNat) : optK f n a = none := by
  rw [optK, dif_neg (by omega), if_neg h1, dif_neg h2, if_pos h3]
theorem optK_more {f : Nat → Int} {n a : Nat} (h : a < n) (h0 : f a ≠ 0) (h1 : f a ≠ 1) (h2 : ¬ (a + 1 = n ∨ f (a + 1) < 2)) (h3 : ¬ n < a + (f (a + 1)).toNat) : optK f n a = (optK f n (a + (f (a + 1)).toNat)).map (f a :: ·) := by
  rw [optK, dif_neg (by omega), if_neg h1, dif_neg h2, if_neg h3]
/-- Options hang on their bytes alone. -/
theorem optK_congr {f g : Nat → Int} {n : Nat} (h : ∀ k, k < n → g k = f k) : ∀ m a, n - a ≤ m → optK g n a = optK f n a := by
  intro m
  induction m with
  | zero =>
    intro a ha
    rw [optK_end (.inl (by omega)), optK_end (.inl (by omega))]
  | succ m ih =>
    intro a ha
    by_cases hn : n ≤ a
    · rw [optK_end (.inl hn), optK_end (.inl hn)]
    · have e := h a (by omega)
      by_cases h0 : f a = 0
      · rw [optK_end (.inr (by rw [e]; exact h0)), optK_end (.inr h0)]
      · by_cases h1 : f a = 1
        · rw [optK_one (by omega) (by rw [e]; exact h1), optK_one (by omega) h1, ih (a + 1) (by omega)]
        · by_cases h2 : a + 1 = n
          · rw [optK_bad (by omega) (by rw [e]; exact h0) (by rw [e]; exact h1) (.inl h2), optK_bad (by omega) h0 h1 (.inl h2)]
          · have e2 := h (a + 1) (by omega)
            by_cases h3 : f (a + 1) < 2
            · rw [optK_bad (by omega) (by rw [e]; exact h0) (by rw [e]; exact h1) (.inr (by rw [e2]; exact h3)), optK_bad (by omega) h0 h1 (.inr h3)]
            · by_cases h4 : n < a + (f (a + 1)).toNat
              · rw [optK_over (by omega) (by rw [e]; exact h0) (by rw [e]; exact h1) (by rw [e2]; omega) (by rw [e2]; exact h4), optK_over (by omega) h0 h1 (by omega) h4]
              · rw [optK_more (by omega) (by rw [e]; exact h0) (by rw [e]; exact h1) (by rw [e2]; omega) (by rw [e2]; exact h4), optK_more (by omega) h0 h1 (by omega) h4, e, e2, ih _ (by omega)]
theorem optE_congr {f g : Nat → Int} {n : Nat} (h : ∀ k, k < n → g k = f k) : optE g n = optE f n := by
  unfold optE
  rw [optK_congr h n 0 (by omega)]
theorem optE_cases (f : Nat → Int) (n : Nat) : optE f n = 0 ∨ optE f n = 5 ∨ optE f n = 12 := by
  unfold optE
  split
  · exact .inr (.inl rfl)
  · split
    · exact .inr (.inl rfl)
    · split
      · exact .inr (.inr rfl)
      · exact .inl rfl
theorem optE_ok {f : Nat → Int} {n : Nat} (h : optE f n = 0) : n ≤ 40 ∧ n % 4 = 0 := by
  unfold optE at h
  split at h
  · omega
  · omega
end Go.Proofs.Ytlchegibfopglaa
/- Layer 3's words: a packet's bytes, what Read and Write tell; what is written is read, what is read is written, one bit turned. -/
namespace Go.Proofs.Ytlchegibfopglaa
open Go.RowKit
--CUT
/-- A header's length, a packet's. -/
def hl4 (f : Nat → Int) : Nat := (f 0 % 16 * 4).toNat
def tl4 (f : Nat → Int) : Nat := (f 2 * 256 + f 3).toNat
/-- What Read tells. -/
def rd4E (f : Nat → Int) (n : Nat) : Int :=
  if n < 20 then 4
  else if f 0 / 16 ≠ 4 ∨ hl4 f < 20 then 5
  else if n < hl4 f then 4
  else if ofv f (hl4 f) ≠ 0 then 6
  else if tl4 f < hl4 f then 5
  else if n < tl4 f then 4
  else if 32768 ≤ f 6 * 256 + f 7 then 5
  else if optE (fun k => f (20 + k)) (hl4 f - 20) ≠ 0 then optE (fun k => f (20 + k)) (hl4 f - 20)
  else if 0 < (f 6 * 256 + f 7) % 16384 then 11
  else 0
/-- An address of four4 bytes. -/
def four4 (s : Nat → Int) : Prop := ∀ k, 4 ≤ k → k < 16 → s k = 0
/-- A header's bytes, but for its sum. -/
def hdr0 (tos id : Int) (df : Bool) (ttl proto : Int) (s d : Nat → Int) (on : Nat) (o : Nat → Int) (total : Nat) (k : Nat) : Int :=
  if k = 0 then 64 + (20 + (on : Int)) / 4 else if k = 1 then tos else if k = 2 then (total : Int) / 256 else if k = 3 then (total : Int) % 256
  else if k = 4 then id / 256 else if k = 5 then id % 256 else if k = 6 then (if df then 64 else 0) else if k = 7 then 0 else if k = 8 then ttl else if k = 9 then proto
  else if k = 10 then 0 else if k = 11 then 0 else if k < 16 then s (k - 12) else if k < 20 then d (k - 16) else if k < 20 + on then o (k - 20) else 0
/-- .. with its sum. -/
def hdr4 (tos id : Int) (df : Bool) (ttl proto : Int) (s d : Nat → Int) (on : Nat) (o : Nat → Int) (total : Nat) : Nat → Int :=
  upd (upd (hdr0 tos id df ttl proto s d on o total) 10 (ofv (hdr0 tos id df ttl proto s d on o total) (20 + on) / 256)) 11 (ofv (hdr0 tos id df ttl proto s d on o total) (20 + on) % 256)
theorem hdr0_byt {tos id : Int} {df : Bool} {ttl proto : Int} {s d : Nat → Int} {on : Nat} {o : Nat → Int} {total : Nat} (h1 : 0 ≤ tos ∧ tos ≤ 255) (h2 : 0 ≤ id ∧ id ≤ 65535) (h3 : 0 ≤ ttl ∧ ttl ≤ 255) (h4 : 0 ≤ proto ∧ proto ≤ 255) (hs : Byt s) (hd : Byt d) (ho : Byt o) (hon : on ≤ 40) (ht : total ≤ 65535) :
    Byt (hdr0 tos id df ttl proto s d on o total) := fun k => by
  have a := hs (k - 12)
  have b := hd (k - 16)
  have c := ho (k - 20)
  unfold hdr0
  repeat' split
  all_goals omega
theorem hdr0_pos {tos id : Int} {df : Bool} {ttl proto : Int} {s d : Nat → Int} {on : Nat} {o : Nat → Int} {total : Nat} : 0 < hdr0 tos id df ttl proto s d on o total 0 := by
  unfold hdr0
  rw [if_pos rfl]
  omega
theorem hdr4_at {tos id : Int} {df : Bool} {ttl proto : Int} {s d : Nat → Int} {on : Nat} {o : Nat → Int} {total : Nat} (k : Nat) (h10 : k ≠ 10) (h11 : k ≠ 11) : hdr4 tos id df ttl proto s d on o total k = hdr0 tos id df ttl proto s d on o total k := by
  unfold hdr4 upd
  rw [if_neg h11, if_neg h10]
theorem hdr4_ofv {tos id : Int} {df : Bool} {ttl proto : Int} {s d : Nat → Int} {on : Nat} {o : Nat → Int} {total : Nat} (hb : Byt (hdr0 tos id df ttl proto s d on o total)) : ofv (hdr4 tos id df ttl proto s d on o total) (20 + on) = 0 :=
  ofv_laid hb 10 (20 + on) (by omega) (by omega) (by unfold hdr0; simp) (by unfold hdr0; simp) (tot_pos hb hdr0_pos _ (by omega))
theorem ofv_same' {f g : Nat → Int} (hf : Byt f) (hg : Byt g) (n : Nat) (h : ∀ k, k < n → g k = f k) : ofv g n = ofv f n := by
  rw [ofv_tot hg, ofv_tot hf, tot_same n h]
/-- What stands in bytes that begin with a written header. -/
theorem hdr4_read {tos id : Int} {df : Bool} {ttl proto : Int} {s d : Nat → Int} {on : Nat} {o : Nat → Int} {total : Nat} (h1 : 0 ≤ tos ∧ tos ≤ 255) (h2 : 0 ≤ id ∧ id ≤ 65535) (h3 : 0 ≤ ttl ∧ ttl ≤ 255) (h4 : 0 ≤ proto ∧ proto ≤ 255) (hs : Byt s) (hd : Byt d) (ho : Byt o)
    (hopt : optE o on = 0) (ht : total ≤ 65535) (htl : 20 + on ≤ total) {f : Nat → Int} (hf : Byt f) (n : Nat) (hn : total ≤ n) (h : ∀ k, k < 20 + on → f k = hdr4 tos id df ttl proto s d on o total k) :
    rd4E f n = 0 ∧ hl4 f = 20 + on ∧ tl4 f = total ∧ f 1 = tos ∧ f 4 * 256 + f 5 = id ∧ (decide (16384 ≤ f 6 * 256 + f 7) = df) ∧ f 8 = ttl ∧ f 9 = proto ∧ (∀ k, k < 4 → f (12 + k) = s k) ∧ (∀ k, k < 4 → f (16 + k) = d k) ∧ (∀ k, k < on → f (20 + k) = o k) := by
  obtain ⟨hon, hon4⟩ := optE_ok hopt
  have hb := hdr0_byt (df := df) h1 h2 h3 h4 hs hd ho hon ht
  have at_ : ∀ k, k < 20 + on → k ≠ 10 → k ≠ 11 → f k = hdr0 tos id df ttl proto s d on o total k := fun k hk a b => by rw [h k hk, hdr4_at k a b]
  have e0 : f 0 = 64 + (20 + (on : Int)) / 4 := by rw [at_ 0 (by omega) (by omega) (by omega)]; simp [hdr0]
  have e1 : f 1 = tos := by rw [at_ 1 (by omega) (by omega) (by omega)]; simp [hdr0]
  have e2 : f 2 = (total : Int) / 256 := by rw [at_ 2 (by omega) (by omega) (by omega)]; simp [hdr0]
  have e3 : f 3 = (total : Int) % 256 := by rw [at_ 3 (by omega) (by omega) (by omega)]; simp [hdr0]
  have e4 : f 4 = id / 256 := by rw [at_ 4 (by omega) (by omega) (by omega)]; simp [hdr0]
  have e5 : f 5 = id % 256 := by rw [at_ 5 (by omega) (by omega) (by omega)]; simp [hdr0]
  have e6 : f 6 = if df then 64 else 0 := by rw [at_ 6 (by omega) (by omega) (by omega)]; simp [hdr0]
  have e7 : f 7 = 0 := by rw [at_ 7 (by omega) (by omega) (by omega)]; simp [hdr0]
  have e8 : f 8 = ttl := by rw [at_ 8 (by omega) (by omega) (by omega)]; simp [hdr0]
  have e9 : f 9 = proto := by rw [at_ 9 (by omega) (by omega) (by omega)]; simp [hdr0]
  have es : ∀ k, k < 4 → f (12 + k) = s k := fun k hk => by
    rw [at_ (12 + k) (by omega) (by omega) (by omega)]
    obtain rfl | rfl | rfl | rfl : k = 0 ∨ k = 1 ∨ k = 2 ∨ k = 3 := by omega
    all_goals simp [hdr0]
  have ed : ∀ k, k < 4 → f (16 + k) = d k := fun k hk => by
    rw [at_ (16 + k) (by omega) (by omega) (by omega)]
    obtain rfl | rfl | rfl | rfl : k = 0 ∨ k = 1 ∨ k = 2 ∨ k = 3 := by omega
    all_goals simp [hdr0]
  have eo : ∀ k, k < on → f (20 + k) = o k := fun k hk => by
    rw [at_ (20 + k) (by omega) (by omega) (by omega)]
    unfold hdr0
    rw [if_neg (by omega), if_neg (by omega), if_neg (by omega), if_neg (by omega), if_neg (by omega), if_neg (by omega), if_neg (by omega), if_neg (by omega), if_neg (by omega), if_neg (by omega), if_neg (by omega), if_neg (by omega), if_neg (by omega), if_neg (by omega), if_pos (by omega)]
    congr 1
    omega
  have eh : hl4 f = 20 + on := by unfold hl4; rw [e0]; omega
  have et : tl4 f = total := by unfold tl4; rw [e2, e3]; omega
  have eopt : optE (fun k => f (20 + k)) on = 0 := by rw [← hopt]; exact optE_congr eo
  have e67 : 0 ≤ f 6 * 256 + f 7 ∧ f 6 * 256 + f 7 < 32768 ∧ (f 6 * 256 + f 7) % 16384 = 0 ∧ decide (16384 ≤ f 6 * 256 + f 7) = df := by
    rw [e6, e7]
    cases df <;> simp
  have b4 : Byt (hdr4 tos id df ttl proto s d on o total) := by
    have q := ofv_bd hb (20 + on)
    exact upd_byt (upd_byt hb 10 (by omega)) 11 (by omega)
  have eofv : ofv f (20 + on) = 0 := by rw [ofv_same' b4 hf _ h]; exact hdr4_ofv hb
  refine ⟨?_, eh, et, e1, by rw [e4, e5]; omega, e67.2.2.2, e8, e9, es, ed, eo⟩
  unfold rd4E
  rw [eh, et, show 20 + on - 20 = on by omega, eopt, eofv, if_neg (by omega), if_neg (by rw [e0]; omega), if_neg (by omega), if_neg (by simp), if_neg (by omega), if_neg (by omega), if_neg (by omega), if_neg (by simp), if_neg (by omega)]
/-- What is known of a packet that was read. -/
theorem rd4_ok {f : Nat → Int} (hf : Byt f) {n : Nat} (h : rd4E f n = 0) : 20 ≤ hl4 f ∧ hl4 f ≤ 60 ∧ hl4 f ≤ tl4 f ∧ tl4 f ≤ n ∧ tl4 f ≤ 65535 ∧ f 0 = 64 + (hl4 f : Int) / 4 ∧ hl4 f % 4 = 0 ∧ ofv f (hl4 f) = 0 ∧ optE (fun k => f (20 + k)) (hl4 f - 20) = 0 ∧ f 7 = 0 ∧ f 6 = (if decide (16384 ≤ f 6 * 256 + f 7) then 64 else 0) := by
  unfold rd4E at h
  have b0 := hf 0
  have b2 := hf 2
  have b3 := hf 3
  have b6 := hf 6
  have b7 := hf 7
  split at h
  · omega
  split at h
  · omega
  split at h
  · omega
  split at h
  · omega
  split at h
  · omega
  split at h
  · omega
  split at h
  · omega
  split at h
  · rename_i q1 q2 q3 q4 q5 q6 q7 q8
    exact absurd h q8
  split at h
  · omega
  rename_i q1 q2 q3 q4 q5 q6 q7 q8 q9
  have e : hl4 f = (f 0 % 16 * 4).toNat := rfl
  have e2 : tl4 f = (f 2 * 256 + f 3).toNat := rfl
  refine ⟨by omega, by omega, by omega, by omega, by omega, by omega, by omega, by omega, Classical.byContradiction q8, by omega, ?_⟩
  by_cases hc : 16384 ≤ f 6 * 256 + f 7
  · rw [if_pos (by simpa using hc)]
    omega
  · rw [if_neg (by simpa using hc)]
    omega
/-- What was read is written as it was, but for a sum of 65535. -/
theorem rd4_write {f : Nat → Int} (hf : Byt f) {n : Nat} (h : rd4E f n = 0) (s d : Nat → Int) (o : Nat → Int) (hs : ∀ k, k < 4 → s k = f (12 + k)) (hd : ∀ k, k < 4 → d k = f (16 + k)) (ho : ∀ k, k < hl4 f - 20 → o k = f (20 + k)) (k : Nat) (hk : k < hl4 f) :
    hdr4 (f 1) (f 4 * 256 + f 5) (decide (16384 ≤ f 6 * 256 + f 7)) (f 8) (f 9) s d (hl4 f - 20) o (tl4 f) k = if f 10 = 255 ∧ f 11 = 255 ∧ (k = 10 ∨ k = 11) then 0 else f k := by
  obtain ⟨a1, a2, a3, a4, a5, a6, a7, a8, _, a10, a11⟩ := rd4_ok hf h
  have e2 : tl4 f = (f 2 * 256 + f 3).toNat := rfl
  have b2 := hf 2
  have b3 := hf 3
  have b4 := hf 4
  have b5 := hf 5
  have base : ∀ k, k < hl4 f → hdr0 (f 1) (f 4 * 256 + f 5) (decide (16384 ≤ f 6 * 256 + f 7)) (f 8) (f 9) s d (hl4 f - 20) o (tl4 f) k = upd (upd f 10 0) 11 0 k := by
    intro k hk
    unfold upd
    by_cases h0 : k < 12
    · obtain rfl | rfl | rfl | rfl | rfl | rfl | rfl | rfl | rfl | rfl | rfl | rfl : k = 0 ∨ k = 1 ∨ k = 2 ∨ k = 3 ∨ k = 4 ∨ k = 5 ∨ k = 6 ∨ k = 7 ∨ k = 8 ∨ k = 9 ∨ k = 10 ∨ k = 11 := by omega
      · simp [hdr0]; omega
      · simp [hdr0]
      · simp [hdr0]; omega
      · simp [hdr0]; omega
      · simp [hdr0]; omega
      · simp [hdr0]; omega
      · rw [if_neg (by omega), if_neg (by omega)]
        exact a11.symm
      · simp [hdr0]; omega
      · simp [hdr0]
      · simp [hdr0]
      · simp [hdr0]
      · simp [hdr0]
    · rw [if_neg (by omega), if_neg (by omega)]
      unfold hdr0
      rw [if_neg (by omega), if_neg (by omega), if_neg (by omega), if_neg (by omega), if_neg (by omega), if_neg (by omega), if_neg (by omega), if_neg (by omega), if_neg (by omega), if_neg (by omega), if_neg (by omega), if_neg (by omega)]
      by_cases h1 : k < 16
      · rw [if_pos h1, hs _ (by omega)]
        congr 1
        omega
      · rw [if_neg h1]
        by_cases h2 : k < 20
        · rw [if_pos h2, hd _ (by omega)]
          congr 1
          omega
        · rw [if_neg h2, if_pos (by omega), ho _ (by omega)]
          congr 1
          omega
  have hz : Byt (upd (upd f 10 0) 11 0) := upd_byt (upd_byt hf 10 (by omega)) 11 (by omega)
  have z0 : upd (upd f 10 0) 11 0 0 = f 0 := by unfold upd; simp
  have hpos : 0 < tot (upd (upd f 10 0) 11 0) (hl4 f) := tot_pos hz (by rw [z0]; omega) _ (by omega)
  have hread := ofv_read hf 10 (hl4 f) (by omega) (by omega) hpos a8
  unfold hdr4
  rw [show 20 + (hl4 f - 20) = hl4 f by omega]
  have hsame : ofv (hdr0 (f 1) (f 4 * 256 + f 5) (decide (16384 ≤ f 6 * 256 + f 7)) (f 8) (f 9) s d (hl4 f - 20) o (tl4 f)) (hl4 f) = ofv (upd (upd f 10 0) 11 0) (hl4 f) := by
    unfold ofv
    rw [fld_same (0, false) (hl4 f) base]
  rw [show (10 + 1 : Nat) = 11 from rfl] at hread
  rw [hsame, hread]
  have b10 := hf 10
  have b11 := hf 11
  by_cases e11 : k = 11
  · subst e11
    show (if (11 : Nat) = 11 then _ else _) = _
    rw [if_pos rfl]
    by_cases hq : f 10 = 255 ∧ f 11 = 255
    · rw [if_pos hq, if_pos ⟨hq.1, hq.2, .inr rfl⟩]
      rfl
    · rw [if_neg hq, if_neg (fun q => hq ⟨q.1, q.2.1⟩)]
      omega
  · by_cases e10 : k = 10
    · subst e10
      show (if (10 : Nat) = 11 then _ else if (10 : Nat) = 10 then _ else _) = _
      rw [if_neg (by omega), if_pos rfl]
      by_cases hq : f 10 = 255 ∧ f 11 = 255
      · rw [if_pos hq, if_pos ⟨hq.1, hq.2, .inl rfl⟩]
        rfl
      · rw [if_neg hq, if_neg (fun q => hq ⟨q.1, q.2.1⟩)]
        omega
    · show (if k = 11 then _ else if k = 10 then _ else _) = _
      rw [if_neg e11, if_neg e10, base k hk, if_neg (fun q => by omega)]
      unfold upd
      rw [if_neg e11, if_neg e10]
end Go.Proofs.Ytlchegibfopglaa
