import Derived.Test.YtimcdnbfdkpffaaGreatGm36
import Derived.Test.YtimcdnbfdkpffaaGreatGm38
/- Stage 16: the landed flows: New. -/
namespace Go.Proofs.YtimcdnbfdkpffaaGreat
set_option maxRecDepth 100000
open Go.RowKit Go.Shelf
theorem Tryz.infoPN : (Tryz.prog.info? 97).map (fun i => (i.zero, i.size, i.bytes)) = some (some (.agg pz), 42, 104) := by kernel_rfl
set_option maxHeartbeats 1000000 in
theorem fnew_no (c m : Int) (o1 o2 o3 o4 : Nat) (w : World) (h : Fl.mayF c m o1 o2 o3 o4 = false) : Calls Tryz.prog 8 #[.int .i64 c, .int .i64 m, tmoc o1 o2 o3 o4] w (ret (.tuple #[.pointer none, .int .i64 2]) w) := by
  unfold Fl.mayF at h
  show Calls Tryz.prog 8 #[.int .i64 c, .int .i64 m, .agg #[.int .u32 (o1 : Int), .int .u32 (o2 : Int), .int .u32 (o3 : Int), .int .u32 (o4 : Int)]] w _
  have HB0 : Hid (Below w.heap.size w (w.alloc (.cells #[.int .u32 (o1 : Int), .int .u32 (o2 : Int), .int .u32 (o3 : Int), .int .u32 (o4 : Int)] 24))) := Lib.hid (below_alloc w _)
  have HM0 : Hid ((w.alloc (.cells #[.int .u32 (o1 : Int), .int .u32 (o2 : Int), .int .u32 (o3 : Int), .int .u32 (o4 : Int)] 24)).heap[w.heap.size]? = some (.cells #[.int .u32 (o1 : Int), .int .u32 (o2 : Int), .int .u32 (o3 : Int), .int .u32 (o4 : Int)] 24 (0, 0))) := Lib.hid (heap_alloc_new w _)
  have HMT := Lib.hid (mayT_st o1 o2 o3 o4)
  obtain ⟨r, hr⟩ : ∃ r, r = w.heap.size := ⟨_, rfl⟩
  rw [← hr] at HM0
  by_cases h1 : fsT o1 o2 o3 o4 = true
  · rw [h1, Bool.and_true] at h
    rw [h1] at HMT
    by_cases h2 : growI m = true
    · rw [h2, Bool.and_true] at h
      have hc : c < 1 ∨ 65536 < c := by
        simp at h
        omega
      obtain ⟨m', rfl⟩ : ∃ m' : Nat, m = (m' : Int) := Int.eq_ofNat_of_zero_le (by unfold growI at h2; simp at h2; omega)
      have HRY := Lib.hid fun V => gnew_yes h2 V
      have HWN := Lib.hid fun V => pwnew_bad V c hc
      clear h h1 h2 hc
      go_enter Tryz.func8, Tryz.ntmps8
      go_upto_region 1 with fail
      change Code.wp _ _ _ _ (w.alloc (.cells #[.int .u32 (o1 : Int), .int .u32 (o2 : Int), .int .u32 (o3 : Int), .int .u32 (o4 : Int)] 24))
      rw [← hr]
      clear hr
      generalize w.alloc (.cells #[.int .u32 (o1 : Int), .int .u32 (o2 : Int), .int .u32 (o3 : Int), .int .u32 (o4 : Int)] 24) = u0 at *
      go_wp2_with (first
        | (refine wpList_load_row rfl 24 (.tmp 5) rfl r rfl 24 #[.int .u32 (o1 : Int), .int .u32 (o2 : Int), .int .u32 (o3 : Int), .int .u32 (o4 : Int)] (0, 0) _ HM0.out Tryz.underlying24 rfl (by kernel_rfl) ?_)
        | (go_at_call 28
           refine (HMT.out _).mono ?_
           rintro e u1 ⟨rfl, hb⟩
           have HB1 := Lib.hid (HB0.out.trans (hb.mono HB0.out.size))
           clear hb)
        | (go_at_call 29
           refine (HRY.out _).mono ?_
           rintro e u2 ⟨pg, B, rfl, hg, hn, hb⟩
           have HB2 := Lib.hid (HB1.out.trans (hb.mono HB1.out.size))
           clear hb hg hn)
        | (go_at_call 30
           refine (HWN.out _).mono ?_
           rintro e u3 ⟨rfl, hb⟩
           have HB3 := Lib.hid (HB2.out.trans (hb.mono HB2.out.size))
           clear hb))
      go_ret2
      exact ⟨rfl, HB3.out⟩
    · have HRN := Lib.hid fun V => gnew_no (by simpa using h2) V
      clear h h1 h2
      go_enter Tryz.func8, Tryz.ntmps8
      go_upto_region 1 with fail
      change Code.wp _ _ _ _ (w.alloc (.cells #[.int .u32 (o1 : Int), .int .u32 (o2 : Int), .int .u32 (o3 : Int), .int .u32 (o4 : Int)] 24))
      rw [← hr]
      clear hr
      generalize w.alloc (.cells #[.int .u32 (o1 : Int), .int .u32 (o2 : Int), .int .u32 (o3 : Int), .int .u32 (o4 : Int)] 24) = u0 at *
      go_wp2_with (first
        | (refine wpList_load_row rfl 24 (.tmp 5) rfl r rfl 24 #[.int .u32 (o1 : Int), .int .u32 (o2 : Int), .int .u32 (o3 : Int), .int .u32 (o4 : Int)] (0, 0) _ HM0.out Tryz.underlying24 rfl (by kernel_rfl) ?_)
        | (go_at_call 28
           refine (HMT.out _).mono ?_
           rintro e u1 ⟨rfl, hb⟩
           have HB1 := Lib.hid (HB0.out.trans (hb.mono HB0.out.size))
           clear hb)
        | (go_at_call 29
           refine (HRN.out _).mono ?_
           rintro e u2 ⟨rfl, hb⟩
           have HB2 := Lib.hid (HB1.out.trans (hb.mono HB1.out.size))
           clear hb))
      go_ret2
      exact ⟨rfl, HB2.out⟩
  · rw [show fsT o1 o2 o3 o4 = false by simpa using h1] at HMT
    clear h h1
    go_enter Tryz.func8, Tryz.ntmps8
    go_upto_region 1 with fail
    change Code.wp _ _ _ _ (w.alloc (.cells #[.int .u32 (o1 : Int), .int .u32 (o2 : Int), .int .u32 (o3 : Int), .int .u32 (o4 : Int)] 24))
    rw [← hr]
    clear hr
    generalize w.alloc (.cells #[.int .u32 (o1 : Int), .int .u32 (o2 : Int), .int .u32 (o3 : Int), .int .u32 (o4 : Int)] 24) = u0 at *
    go_wp2_with (first
      | (refine wpList_load_row rfl 24 (.tmp 5) rfl r rfl 24 #[.int .u32 (o1 : Int), .int .u32 (o2 : Int), .int .u32 (o3 : Int), .int .u32 (o4 : Int)] (0, 0) _ HM0.out Tryz.underlying24 rfl (by kernel_rfl) ?_)
      | (go_at_call 28
         refine (HMT.out _).mono ?_
         rintro e u1 ⟨rfl, hb⟩
         have HB1 := Lib.hid (HB0.out.trans (hb.mono HB0.out.size))
         clear hb))
    go_ret2
    exact ⟨rfl, HB1.out⟩
set_option maxHeartbeats 2000000 in
theorem fnew_yes (n m o1 o2 o3 o4 : Nat) (w : World) (h : Fl.mayF (n : Int) (m : Int) o1 o2 o3 o4 = true) : Calls Tryz.prog 8 #[.int .i64 (n : Int), .int .i64 (m : Int), tmoc o1 o2 o3 o4] w fun e w' => ∃ p F, e = .returned (.tuple #[.pointer (some ⟨p, 0, none⟩), .int .i64 0]) ∧ PF0 w' p (Fl.new n m o1 o2 o3 o4) F ∧ (∀ k, F k → w.heap.size ≤ k) ∧ Below w.heap.size w w' := by
  unfold Fl.mayF at h
  simp only [Bool.and_eq_true, decide_eq_true_eq] at h
  obtain ⟨⟨⟨hc1, hc2⟩, hg⟩, ho⟩ := h
  obtain ⟨i0, hi0, hz0, hz1, hz2⟩ := info_parts Tryz.infoPN
  have hmk : ∀ W : World, ∃ w', (Instr.makeSlice 66 (.int .i64 (n : Int)) (.int .i64 (n : Int))).run Tryz.prog W = .ok (.slice (some ⟨W.heap.size, 0, none⟩) n n) w' ∧ OwnC w' W.heap.size 97 42 (some ⟨W.heap.size, 0, none⟩) n n (fcell []) ∧ W.grownBy w' none := fun W => by
    obtain ⟨w', h1, h2, h3⟩ := run_make_full (P := Tryz.prog) (w := W) W.heap.size 66 97 i0 (.agg pz) 42 Tryz.underlying66 hi0 hz0 hz1 .i64 .i64 n (by rw [hz2]; omega) (by unfold maxLen; omega) (Nat.le_refl _)
    refine ⟨w', h1, ?_, h3⟩
    unfold OwnC
    have e1 : (madeCells (Value.agg pz).cells (n * 42)).toList = vals (n * 42) (fcell []) := by
      refine vals_eq (by simp [size_madeCells]) fun k hk => ?_
      show (madeCells pz (n * 42)).toList[k]? = some ((prow [] (k / 42)).getD (k % 42) undef)
      have hp : prow [] (k / 42) = pz := rfl
      rw [hp]
      unfold madeCells
      simp [pz_size]
      have hk2 : k % 42 < pz.size := by rw [pz_size]; omega
      exact ⟨k, List.getElem?_range hk, by rw [getElem!_pos pz _ hk2, Array.getElem?_eq_getElem hk2]; rfl⟩
    rw [← e1]
    exact h2
  show Calls Tryz.prog 8 #[.int .i64 (n : Int), .int .i64 (m : Int), .agg #[.int .u32 (o1 : Int), .int .u32 (o2 : Int), .int .u32 (o3 : Int), .int .u32 (o4 : Int)]] w _
  have HB0 : Hid (Below w.heap.size w (w.alloc (.cells #[.int .u32 (o1 : Int), .int .u32 (o2 : Int), .int .u32 (o3 : Int), .int .u32 (o4 : Int)] 24))) := Lib.hid (below_alloc w _)
  have HM0 : Hid ((w.alloc (.cells #[.int .u32 (o1 : Int), .int .u32 (o2 : Int), .int .u32 (o3 : Int), .int .u32 (o4 : Int)] 24)).heap[w.heap.size]? = some (.cells #[.int .u32 (o1 : Int), .int .u32 (o2 : Int), .int .u32 (o3 : Int), .int .u32 (o4 : Int)] 24 (0, 0))) := Lib.hid (heap_alloc_new w _)
  have HMT := Lib.hid (mayT_st o1 o2 o3 o4)
  obtain ⟨r, hr⟩ : ∃ r, r = w.heap.size := ⟨_, rfl⟩
  rw [← hr] at HM0
  rw [ho] at HMT
  have HRY := Lib.hid fun V => gnew_yes hg V
  have HWY := Lib.hid fun V => pw_new V n (by omega) (by omega)
  have HC1 : Hid (1 ≤ n) := Lib.hid (by omega)
  clear hc1 hc2 hg ho hi0 hz0 hz1 hz2
  go_enter Tryz.func8, Tryz.ntmps8
  go_upto_region 1 with fail
  change Code.wp _ _ _ _ (w.alloc (.cells #[.int .u32 (o1 : Int), .int .u32 (o2 : Int), .int .u32 (o3 : Int), .int .u32 (o4 : Int)] 24))
  rw [← hr]
  clear hr
  generalize w.alloc (.cells #[.int .u32 (o1 : Int), .int .u32 (o2 : Int), .int .u32 (o3 : Int), .int .u32 (o4 : Int)] 24) = u0 at *
  go_upto_region 9 with (first
    | (refine wpList_load_row rfl 24 (.tmp 5) rfl r rfl 24 #[.int .u32 (o1 : Int), .int .u32 (o2 : Int), .int .u32 (o3 : Int), .int .u32 (o4 : Int)] (0, 0) _ HM0.out Tryz.underlying24 rfl (by kernel_rfl) ?_)
    | (go_at_call 28
       refine (HMT.out _).mono ?_
       rintro e u1 ⟨rfl, hb⟩
       have HB1 := Lib.hid (HB0.out.trans (hb.mono HB0.out.size))
       have HM1 := Lib.hid ((hb.block r (lt_heap HM0.out)).trans HM0.out)
       clear hb)
    | (go_at_call 29
       refine (HRY.out _).mono ?_
       rintro e u2 ⟨pg, B, rfl, hg, hn, hb⟩
       have HB2 := Lib.hid (HB1.out.trans (hb.mono HB1.out.size))
       have HM2 := Lib.hid ((hb.block r (lt_heap HM1.out)).trans HM1.out)
       have HG2 := Lib.hid hg
       have HGN : Hid (∀ k, B k → w.heap.size ≤ k) := Lib.hid fun k hk => Nat.le_trans HB1.out.size (hn k hk)
       have HGO2 : Hid (∀ k, B k → k < u2.heap.size) := Lib.hid (footPG0.old hg)
       clear hb hg hn)
    | (go_at_call 30
       refine (HWY.out _).mono ?_
       rintro e u3 ⟨pw, A, rfl, hg, hn, hb⟩
       have HB3 := Lib.hid (HB2.out.trans (hb.mono HB2.out.size))
       have HM3 := Lib.hid ((hb.block r (lt_heap HM2.out)).trans HM2.out)
       have HWH := Lib.hid hg
       have HGR := Lib.hid (footPG0.keep HG2.out (Kept.of_below hb fun _ => False) fun _ _ q => q)
       have HWN2 : Hid (∀ k, A k → u2.heap.size ≤ k) := Lib.hid hn
       have HWN3 : Hid (∀ k, A k → w.heap.size ≤ k) := Lib.hid fun k hk => Nat.le_trans HB2.out.size (hn k hk)
       clear hb hg hn HG2))
  clear HM0 HM1 HM2 HMT HRY HWY HB0 HB1 HB2
  refine wp_region_grow (C := fun W => Below u3.heap.size u3 W) 5 37 [val (.pointer (some ⟨pw, 0, none⟩)), val (.pointer (some ⟨pg, 0, none⟩)), val (.agg #[.int .u32 (o1 : Int), .int .u32 (o2 : Int), .int .u32 (o3 : Int), .int .u32 (o4 : Int)]), val (.int .i64 (n : Int)), fun v W => ∃ g, v = .slice (some ⟨g, 0, none⟩) n n ∧ u3.heap.size ≤ g ∧ OwnC W u3.heap.size 97 42 (some ⟨g, 0, none⟩) n n (fcell [])] (by kernel_rfl) rfl (by kernel_rfl) rfl ⟨stb_val _, stb_val _, stb_val _, stb_val _, (fun v W W' h hb => by obtain ⟨g, h1, h2, h3⟩ := h; exact ⟨g, h1, h2, h3.below hb⟩), trivial⟩ (Below.refl _ _).drew ?_ ?_
  · refine each_cons ?_ ?_
    · intro a W hW hd
      have h10 : a.tmps[10]?.getD undef = .pointer (some ⟨pw, 0, none⟩) := slot_eq (hd 10 (by decide))
      exact grows_value _ hW (by simp [execOp, Act.eval, h10]) rfl
    refine each_cons ?_ ?_
    · intro a W hW hd
      have h8 : a.tmps[8]?.getD undef = .pointer (some ⟨pg, 0, none⟩) := slot_eq (hd 8 (by decide))
      exact grows_value _ hW (by simp [execOp, Act.eval, h8]) rfl
    refine each_cons ?_ ?_
    · intro a W hW hd
      have h5 : a.tmps[5]?.getD undef = .pointer (some ⟨r, 0, none⟩) := slot_eq (hd 5 (by decide))
      have hld := run_loadVar_row (P := Tryz.prog) W r 24 24 #[.int .u32 (o1 : Int), .int .u32 (o2 : Int), .int .u32 (o3 : Int), .int .u32 (o4 : Int)] (0, 0) _ ((hW.block r (lt_heap HM3.out)).trans HM3.out) Tryz.underlying24 rfl (by kernel_rfl)
      refine grows_value _ hW (?_ : _ = _) rfl
      clear hd
      simp only [execOp, Act.eval, Array.getD_eq_getD_getElem?, h5, Instr.loadAt, Instr.sureAddr, Sem.run_bind, Sem.run_pure, Result.andThen_ok, hld]
    refine each_cons ?_ ?_
    · intro a W hW hd
      have h0 : a.tmps[0]?.getD undef = .int .i64 (n : Int) := slot_eq (hd 0 (by decide))
      exact grows_value _ hW (by simp [execOp, Act.eval, h0]) rfl
    refine each_cons ?_ ?_
    · intro a W hW hd
      have h33 : a.tmps[33]?.getD undef = .int .i64 (n : Int) := slot_eq (hd 33 (by decide))
      obtain ⟨W', h1, h2, h3⟩ := hmk W
      have hb : Below W.heap.size W W' := (Below.refl _ _).grown h3 (Nat.le_refl _) fun _ h => (by cases h)
      refine grows_new _ (w' := W') (?_ : _ = _) ⟨W.heap.size, rfl, hW.size, h2.le hW.size⟩ hb (hW.trans (hb.mono hW.size))
      clear hd hmk
      go_simp
    exact each_nil
  · refine behind_val rfl ?_
    refine behind_val rfl ?_
    refine behind_val rfl ?_
    refine behind_val rfl ?_
    refine behind_cons fun v34 => ?_
    refine behind_nil fun W4 hCW4 hFW4 => ?_
    simp only [Act.put, List.setIfInBounds_toArray, List.set_cons_succ, List.set_cons_zero, List.drop_succ_cons, List.drop_zero]
    obtain ⟨_, g, rfl, hgz, hgo⟩ := hFW4
    clear hmk
    have HB4 : Hid (Below w.heap.size w W4) := Lib.hid (HB3.out.trans (hCW4.mono HB3.out.size))
    have HW4 := Lib.hid (footPW.keep HWH.out (Kept.of_below hCW4 fun _ => False) fun _ _ q => q)
    have HG4 := Lib.hid (footPG0.keep HGR.out (Kept.of_below hCW4 fun _ => False) fun _ _ q => q)
    have HWO := Lib.hid (footPW.old HWH.out)
    have HGO := Lib.hid (footPG0.old HGR.out)
    have HO4 := Lib.hid hgo
    have HGZ := Lib.hid hgz
    have HS4 := Lib.hid hCW4.size
    clear hCW4 hgz hgo HWH HGR HM3
    have hbd : ∀ V : World, (Instr.build 68 #[(0, .pointer (some ⟨pw, 0, none⟩)), (1, .pointer (some ⟨pg, 0, none⟩)), (2, .agg #[.int .u32 (o1 : Int), .int .u32 (o2 : Int), .int .u32 (o3 : Int), .int .u32 (o4 : Int)]), (3, .slice (some ⟨g, 0, none⟩) n n)]).run Tryz.prog V = .ok (.agg #[.pointer (some ⟨pw, 0, none⟩), .pointer (some ⟨pg, 0, none⟩), .int .u32 (o1 : Int), .int .u32 (o2 : Int), .int .u32 (o3 : Int), .int .u32 (o4 : Int), .slice (some ⟨g, 0, none⟩) n n]) V := fun V => by kernel_rfl
    go_wp2_with fail
    go_ret2
    refine ⟨W4.heap.size, _, rfl, ⟨pw, pg, g, n, A, B, ?_, rfl⟩, ?_, HB4.out.alloc HB4.out.size _⟩
    · have hl : (Wh.new n).a.has.length = n := List.length_replicate
      have ho := HO4.out.lies (show 0 < n by have := HC1.out; omega)
      obtain ⟨g', e, h1, h2, _, _⟩ := ho
      injection e with e
      injection e with e
      subst e
      have hbl := below_alloc W4 (.cells #[.pointer (some ⟨pw, 0, none⟩), .pointer (some ⟨pg, 0, none⟩), .int .u32 (o1 : Int), .int .u32 (o2 : Int), .int .u32 (o3 : Int), .int .u32 (o4 : Int), .slice (some ⟨g, 0, none⟩) n n] 68)
      have hsz : (W4.alloc (.cells #[.pointer (some ⟨pw, 0, none⟩), .pointer (some ⟨pg, 0, none⟩), .int .u32 (o1 : Int), .int .u32 (o2 : Int), .int .u32 (o3 : Int), .int .u32 (o4 : Int), .slice (some ⟨g, 0, none⟩) n n] 68)).heap.size = W4.heap.size + 1 := by simp
      refine ⟨?_, ?_, ⟨footPW.keep HW4.out (Kept.of_below hbl fun _ => False) fun _ _ q => q, footPG0.keep HG4.out (Kept.of_below hbl fun _ => False) fun _ _ q => q, fun k hk => ⟨fun hk2 => ?_, fun hk2 => ?_⟩, fun k hk hk2 => ?_, fun k hk => ?_⟩⟩
      · show (W4.alloc _).heap[W4.heap.size]? = some (.cells (fxc pw pg g (Wh.new n).a.has.length n o1 o2 o3 o4) 68 (0, 0))
        rw [hl]
        exact heap_alloc_new W4 _
      · show OwnC _ 0 97 42 (some ⟨g, 0, none⟩) (Wh.new n).a.has.length n (fcell [])
        rw [hl]
        exact (HO4.out.alloc _).le (Nat.zero_le _)
      · have q1 := HWN2.out k hk
        have q2 := HGO2.out k hk2
        omega
      · have q1 := HWO.out k hk
        have q2 := HS4.out
        have q3 := HGZ.out
        rcases hk2 with rfl | rfl <;> omega
      · have q1 := HGO.out k hk
        have q2 := HS4.out
        have q3 := HGZ.out
        rcases hk2 with rfl | rfl <;> omega
      · rcases hk with rfl | rfl <;> omega
    · intro k hk
      have q2 := HS4.out
      have q3 := HGZ.out
      have q4 := HB3.out.size
      have q5 := HB4.out.size
      rcases hk with (rfl | rfl) | hk | hk
      · omega
      · omega
      · exact HWN3.out k hk
      · exact HGN.out k hk
end Go.Proofs.YtimcdnbfdkpffaaGreat
/- Stage 16: the landed flows: Pin. -/
namespace Go.Proofs.YtimcdnbfdkpffaaGreat
set_option maxRecDepth 100000
open Go.RowKit Go.Shelf
section
variable {w : World} {p pw pg b n c o1 o2 o3 o4 : Nat} {l lr : List Fr} {W Wr : Wh} {G Gr : Gr} {A B : Nat → Prop}
set_option maxHeartbeats 1000000 in
theorem fpin_bad (h : FX w p pw pg b n c o1 o2 o3 o4 l W G A B) {T Q : Array Value} {st : Nat} (hs : st < 256) (hm : fsM st = false) :
    Calls Tryz.prog 16 #[.pointer (some ⟨p, 0, none⟩), .agg T, .agg Q, .int .u8 (st : Int)] w (ret (.int .i64 2) w) := by
  have HA := Lib.hid (alloc_2 w (.cells T 38) (.cells Q 41))
  have HMY := Lib.hid fun V => may_st st V hs
  rw [hm] at HMY
  have HX0 := Lib.hid (h.step HA.out.1)
  clear h hs hm
  go_enter Tryz.func16, Tryz.ntmps16
  go_upto_region 1 with fail
  change Code.wp _ _ _ _ ((w.alloc (.cells T 38)).alloc (.cells Q 41))
  generalize ((w.alloc (.cells T 38)).alloc (.cells Q 41)) = u0 at *
  have HB0 := Lib.hid HA.out.1
  have HM0 := Lib.hid HA.out.2.1
  have HQ0 := Lib.hid HA.out.2.2
  clear HA
  generalize w.heap.size + 1 = r2 at *
  obtain ⟨r, hr⟩ : ∃ r, r = w.heap.size := ⟨_, rfl⟩
  rw [← hr] at HM0 ⊢
  clear hr
  go_wp2_with (first
    | (go_at_call 39
       refine (fmade_c (blk_cell HX0.out.blk 0)).mono ?_
       rintro e u1 ⟨rfl, hb⟩
       have HB1 := Lib.hid (HB0.out.trans (hb.mono HB0.out.size))
       clear hb)
    | (go_at_call 51
       refine (HMY.out _).mono ?_
       rintro e u2 ⟨rfl, hb⟩
       have HB2 := Lib.hid (HB1.out.trans (hb.mono HB1.out.size))
       clear hb))
  go_ret
  exact ⟨rfl, HB2.out⟩
set_option maxHeartbeats 1000000 in
theorem fpin_twice (h : FX w p pw pg b n c o1 o2 o3 o4 l W G A B) {T Q : Array Value} {H x st : Nat} (hT : T.size = 36) (hs : st < 256) (hm : fsM st = true) (hf : ∀ V, FX V p pw pg b n c o1 o2 o3 o4 l W G A B → Calls Tryz.prog 43 #[.pointer (some ⟨p, 0, none⟩), .agg T] V (ret (.tuple #[.agg #[.int .u64 (H : Int), .int .u32 (x : Int)], .bool true]) V)) :
    Calls Tryz.prog 16 #[.pointer (some ⟨p, 0, none⟩), .agg T, .agg Q, .int .u8 (st : Int)] w (ret (.int .i64 8) w) := by
  have HA := Lib.hid (alloc_2 w (.cells T 38) (.cells Q 41))
  have HMY := Lib.hid fun V => may_st st V hs
  rw [hm] at HMY
  have HX0 := Lib.hid (h.step HA.out.1)
  have HF := Lib.hid hf
  have HS := Lib.hid hT
  have HI36 : Hid ((Tryz.prog.info? 38).map (·.size) = some 36) := Lib.hid (by kernel_rfl)
  clear h hf hT hs hm
  go_enter Tryz.func16, Tryz.ntmps16
  go_upto_region 1 with fail
  change Code.wp _ _ _ _ ((w.alloc (.cells T 38)).alloc (.cells Q 41))
  generalize ((w.alloc (.cells T 38)).alloc (.cells Q 41)) = u0 at *
  have HB0 := Lib.hid HA.out.1
  have HM0 := Lib.hid HA.out.2.1
  have HQ0 := Lib.hid HA.out.2.2
  clear HA
  generalize w.heap.size + 1 = r2 at *
  obtain ⟨r, hr⟩ : ∃ r, r = w.heap.size := ⟨_, rfl⟩
  rw [← hr] at HM0 ⊢
  clear hr
  go_upto_region 5 with (first
    | (go_at_call 39
       refine (fmade_c (blk_cell HX0.out.blk 0)).mono ?_
       rintro e u1 ⟨rfl, hb⟩
       have HB1 := Lib.hid (HB0.out.trans (hb.mono HB0.out.size))
       have HX1 := Lib.hid (HX0.out.step hb)
       have HM1 := Lib.hid ((hb.block r (lt_heap HM0.out)).trans HM0.out)
       have HQ1 := Lib.hid ((hb.block r2 (lt_heap HQ0.out)).trans HQ0.out)
       clear hb)
    | (go_at_call 51
       refine (HMY.out _).mono ?_
       rintro e u2 ⟨rfl, hb⟩
       have HB2 := Lib.hid (HB1.out.trans (hb.mono HB1.out.size))
       have HX2 := Lib.hid (HX1.out.step hb)
       have HM2 := Lib.hid ((hb.block r (lt_heap HM1.out)).trans HM1.out)
       have HQ2 := Lib.hid ((hb.block r2 (lt_heap HQ1.out)).trans HQ1.out)
       clear hb))
  clear HX0 HX1 HM0 HM1 HQ0 HQ1 HB0 HB1
  go_upto_region 6 with (first
    | (refine wpList_load_roww rfl 38 (.tmp 5) rfl r rfl 38 T (0, 0) _ HM2.out Tryz.underlying38 rfl (HI36.out.trans (by rw [HS.out])) ?_)
    | (go_at_call 43
       refine (HF.out _ HX2.out).mono ?_
       rintro e u3 ⟨rfl, hb⟩
       have HB3 := Lib.hid (HB2.out.trans (hb.mono HB2.out.size))
       have HX3 := Lib.hid (HX2.out.step hb)
       have HM3 := Lib.hid ((hb.block r (lt_heap HM2.out)).trans HM2.out)
       have HQ3 := Lib.hid ((hb.block r2 (lt_heap HQ2.out)).trans HQ2.out)
       have HN3 : Hid ((u3.alloc (.cells #[.int .u64 0, .int .u32 0] 99)).heap[u3.heap.size]? = some (.cells #[.int .u64 0, .int .u32 0] 99 (0, 0))) := Lib.hid (heap_alloc_new u3 _)
       clear hb))
  change Code.wp _ _ _ _ (u3.alloc (.cells #[.int .u64 (H : Int), .int .u32 (x : Int)] 99))
  have HE4 : Hid ((u3.alloc (.cells #[.int .u64 (H : Int), .int .u32 (x : Int)] 99)).heap[u3.heap.size]? = some (.cells #[.int .u64 (H : Int), .int .u32 (x : Int)] 99 (0, 0))) := Lib.hid (heap_alloc_new u3 _)
  have HB4 : Hid (Below w.heap.size w (u3.alloc (.cells #[.int .u64 (H : Int), .int .u32 (x : Int)] 99))) := Lib.hid (HB3.out.alloc HB3.out.size _)
  have HX4 := Lib.hid (HX3.out.step (below_alloc u3 (.cells #[.int .u64 (H : Int), .int .u32 (x : Int)] 99)))
  have HM4 : Hid ((u3.alloc (.cells #[.int .u64 (H : Int), .int .u32 (x : Int)] 99)).heap[r]? = some (.cells T 38 (0, 0))) := Lib.hid (blk_old HM3.out _)
  have HQ4 : Hid ((u3.alloc (.cells #[.int .u64 (H : Int), .int .u32 (x : Int)] 99)).heap[r2]? = some (.cells Q 41 (0, 0))) := Lib.hid (blk_old HQ3.out _)
  clear HX2 HM2 HQ2 HB2 HX3 HM3 HQ3 HB3 HN3
  generalize u3.alloc (.cells #[.int .u64 (H : Int), .int .u32 (x : Int)] 99) = u4 at *
  generalize u3.heap.size = e9 at *
  go_wp2_with fail
  go_ret
  exact ⟨rfl, HB4.out⟩
set_option maxHeartbeats 2000000 in
theorem fpin_on (h : FX w p pw pg b n c o1 o2 o3 o4 l W G A B) {T Q C : Array Value} {H x st : Nat} {res : Int} (hT : T.size = 36) (hQ : Q.size = 3) (hs : st < 256) (hm : fsM st = true) (hf : ∀ V, FX V p pw pg b n c o1 o2 o3 o4 l W G A B → Calls Tryz.prog 43 #[.pointer (some ⟨p, 0, none⟩), .agg T] V (ret (.tuple #[.agg #[.int .u64 (H : Int), .int .u32 (x : Int)], .bool false]) V))
    (hbd : ∀ V : World, (Instr.build 97 #[(1, .agg T), (2, .agg Q), (3, .int .u8 (st : Int))]).run Tryz.prog V = .ok (.agg C) V)
    (hb : ∀ V, FX V p pw pg b n c o1 o2 o3 o4 l W G A B → Calls Tryz.prog 52 #[.pointer (some ⟨p, 0, none⟩), .int .u64 (H : Int), .agg C] V fun e V' => e = .returned (.int .i64 res) ∧ ∃ A' B', FX V' p pw pg b n c o1 o2 o3 o4 lr Wr Gr A' B' ∧ ExtG (FF p b A B) (FF p b A' B') V V') :
    Calls Tryz.prog 16 #[.pointer (some ⟨p, 0, none⟩), .agg T, .agg Q, .int .u8 (st : Int)] w fun e w' => e = .returned (.int .i64 res) ∧ ∃ A' B', FX w' p pw pg b n c o1 o2 o3 o4 lr Wr Gr A' B' ∧ ExtG (FF p b A B) (FF p b A' B') w w' := by
  have HA := Lib.hid (alloc_2 w (.cells T 38) (.cells Q 41))
  have HMY := Lib.hid fun V => may_st st V hs
  rw [hm] at HMY
  have HX0 := Lib.hid (h.step HA.out.1)
  have HF := Lib.hid hf
  have HS := Lib.hid hT
  have HI36 : Hid ((Tryz.prog.info? 38).map (·.size) = some 36) := Lib.hid (by kernel_rfl)
  have HBG := Lib.hid hb
  have HQS := Lib.hid hQ
  have HI3 : Hid ((Tryz.prog.info? 41).map (·.size) = some 3) := Lib.hid (by kernel_rfl)
  clear h hf hT hs hm hQ hb
  go_enter Tryz.func16, Tryz.ntmps16
  go_upto_region 1 with fail
  change Code.wp _ _ _ _ ((w.alloc (.cells T 38)).alloc (.cells Q 41))
  generalize ((w.alloc (.cells T 38)).alloc (.cells Q 41)) = u0 at *
  have HB0 := Lib.hid HA.out.1
  have HM0 := Lib.hid HA.out.2.1
  have HQ0 := Lib.hid HA.out.2.2
  clear HA
  generalize w.heap.size + 1 = r2 at *
  obtain ⟨r, hr⟩ : ∃ r, r = w.heap.size := ⟨_, rfl⟩
  rw [← hr] at HM0 ⊢
  clear hr
  go_upto_region 5 with (first
    | (go_at_call 39
       refine (fmade_c (blk_cell HX0.out.blk 0)).mono ?_
       rintro e u1 ⟨rfl, hb⟩
       have HB1 := Lib.hid (HB0.out.trans (hb.mono HB0.out.size))
       have HX1 := Lib.hid (HX0.out.step hb)
       have HM1 := Lib.hid ((hb.block r (lt_heap HM0.out)).trans HM0.out)
       have HQ1 := Lib.hid ((hb.block r2 (lt_heap HQ0.out)).trans HQ0.out)
       clear hb)
    | (go_at_call 51
       refine (HMY.out _).mono ?_
       rintro e u2 ⟨rfl, hb⟩
       have HB2 := Lib.hid (HB1.out.trans (hb.mono HB1.out.size))
       have HX2 := Lib.hid (HX1.out.step hb)
       have HM2 := Lib.hid ((hb.block r (lt_heap HM1.out)).trans HM1.out)
       have HQ2 := Lib.hid ((hb.block r2 (lt_heap HQ1.out)).trans HQ1.out)
       clear hb))
  clear HX0 HX1 HM0 HM1 HQ0 HQ1 HB0 HB1
  go_upto_region 6 with (first
    | (refine wpList_load_roww rfl 38 (.tmp 5) rfl r rfl 38 T (0, 0) _ HM2.out Tryz.underlying38 rfl (HI36.out.trans (by rw [HS.out])) ?_)
    | (go_at_call 43
       refine (HF.out _ HX2.out).mono ?_
       rintro e u3 ⟨rfl, hb⟩
       have HB3 := Lib.hid (HB2.out.trans (hb.mono HB2.out.size))
       have HX3 := Lib.hid (HX2.out.step hb)
       have HM3 := Lib.hid ((hb.block r (lt_heap HM2.out)).trans HM2.out)
       have HQ3 := Lib.hid ((hb.block r2 (lt_heap HQ2.out)).trans HQ2.out)
       have HN3 : Hid ((u3.alloc (.cells #[.int .u64 0, .int .u32 0] 99)).heap[u3.heap.size]? = some (.cells #[.int .u64 0, .int .u32 0] 99 (0, 0))) := Lib.hid (heap_alloc_new u3 _)
       clear hb))
  change Code.wp _ _ _ _ (u3.alloc (.cells #[.int .u64 (H : Int), .int .u32 (x : Int)] 99))
  have HE4 : Hid ((u3.alloc (.cells #[.int .u64 (H : Int), .int .u32 (x : Int)] 99)).heap[u3.heap.size]? = some (.cells #[.int .u64 (H : Int), .int .u32 (x : Int)] 99 (0, 0))) := Lib.hid (heap_alloc_new u3 _)
  have HB4 : Hid (Below w.heap.size w (u3.alloc (.cells #[.int .u64 (H : Int), .int .u32 (x : Int)] 99))) := Lib.hid (HB3.out.alloc HB3.out.size _)
  have HX4 := Lib.hid (HX3.out.step (below_alloc u3 (.cells #[.int .u64 (H : Int), .int .u32 (x : Int)] 99)))
  have HM4 : Hid ((u3.alloc (.cells #[.int .u64 (H : Int), .int .u32 (x : Int)] 99)).heap[r]? = some (.cells T 38 (0, 0))) := Lib.hid (blk_old HM3.out _)
  have HQ4 : Hid ((u3.alloc (.cells #[.int .u64 (H : Int), .int .u32 (x : Int)] 99)).heap[r2]? = some (.cells Q 41 (0, 0))) := Lib.hid (blk_old HQ3.out _)
  clear HX2 HM2 HQ2 HB2 HX3 HM3 HQ3 HB3 HN3
  generalize u3.alloc (.cells #[.int .u64 (H : Int), .int .u32 (x : Int)] 99) = u4 at *
  generalize u3.heap.size = e9 at *
  have x0 : u4.cell? ⟨e9, 0, none⟩ = some (.int .u64 (H : Int)) := blk_cell HE4.out 0
  go_wp2_with (first
    | (refine wpList_load_roww rfl 38 (.tmp 5) rfl r rfl 38 T (0, 0) _ HM4.out Tryz.underlying38 rfl (HI36.out.trans (by rw [HS.out])) ?_)
    | (refine wpList_load_roww rfl 41 (.tmp 6) rfl r2 rfl 41 Q (0, 0) _ HQ4.out Tryz.underlying41 rfl (HI3.out.trans (by rw [HQS.out])) ?_)
    | (refine wpList_bw (.agg C) 97 [(1, .tmp 27), (2, .tmp 28), (3, .tmp 29)] [(1, .agg T), (2, .agg Q), (3, .int .u8 (st : Int))] hbd (by with_reducible_and_instances rfl) rfl rfl ?_)
    | (go_at_call 52
       refine (HBG.out _ HX4.out).mono ?_
       rintro e u5 ⟨rfl, A', B', hx, he⟩
       have HX5 := Lib.hid hx
       have HE5 : Hid (ExtG (FF p b A B) (FF p b A' B') w u5) := Lib.hid ((ExtG.of_below HB4.out).trans he)
       clear hx he))
  go_ret
  exact ⟨rfl, A', B', HX5.out, HE5.out⟩
end
end Go.Proofs.YtimcdnbfdkpffaaGreat
