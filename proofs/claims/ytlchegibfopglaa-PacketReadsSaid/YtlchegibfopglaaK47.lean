import Derived.Test.YtlchegibfopglaaK46
/- Layer 7: the law on reads, walked. -/
namespace Go.Proofs.Ytlchegibfopglaa
set_option maxRecDepth 100000
open Go.RowKit
set_option maxHeartbeats 1000000 in
theorem preads_long (A : Option Addr) (n c : Nat) (h : 1700 < n) (tv : Bool) (tp : Int) (ts td : Nat → Int) (tsp tdp : Int) (x : Int) (w : World) :
    Calls Try.prog 3 #[.slice A n c, .agg (tupc tv tp ts td tsp tdp), .int .u8 x] w fun e w' => e = .returned (.bool true) ∧ Below w.heap.size w w' := by
  have KN := Lib.hid known_any
  have h' : (n : Int) > 1700 := by omega
  have HM1 : Hid (Below w.heap.size w (w.alloc (.cells (tupc tv tp ts td tsp tdp) 26))) := Lib.hid (below_alloc w _)
  go_enter Try.func3, Try.ntmps3
  go_upto_if 15 with fail
  change Code.wp _ _ _ _ (w.alloc (.cells (tupc tv tp ts td tsp tdp) 26))
  generalize w.alloc (.cells (tupc tv tp ts td tsp tdp) 26) = u1 at *
  go_wp2_with (first
    | (go_at_call 5; refine (KN.out _).mono ?_; rintro e u2 ⟨rfl, hb2⟩))
  go_ret
  exact ⟨rfl, HM1.out.trans (hb2.mono HM1.out.size)⟩
set_option maxHeartbeats 8000000 in
theorem preads_any (A : Option Addr) (n c : Nat) (f : Nat → Int) (hf : Byt f) (hn : n ≤ 1700) (hcap : n ≤ c) (hc9 : c ≤ 9223372036854775807) (tv : Bool) (tp : Int) (ts td : Nat → Int) (tsp tdp : Int) (x : Int) (hx : 0 ≤ x ∧ x ≤ 255) (w : World) (hr : Rd w w.heap.size A n f) :
    Calls Try.prog 3 #[.slice A n c, .agg (tupc tv tp ts td tsp tdp), .int .u8 x] w fun e w' => e = .returned (.bool true) ∧ Below w.heap.size w w' := by
  obtain ⟨i0, hi0, hz0, hz1, hz2⟩ := info_parts Try.info5
  have HI0 := Lib.hid hi0
  have HZ0 := Lib.hid hz0
  have HZ1 := Lib.hid hz1
  have HZ2 := Lib.hid hz2
  clear hi0 hz0 hz1 hz2
  have KN := Lib.hid known_any
  obtain ⟨mb, hmb⟩ : ∃ mb, mb = mayF x := ⟨_, rfl⟩
  have HY1 : Hid (∀ W, Calls Try.prog 9 #[.int .u8 x] W fun e w' => e = .returned (.bool mb) ∧ Below W.heap.size W w') := Lib.hid fun W => by
    refine (may_any x hx W).mono ?_
    rintro e w' ⟨rfl, rfl⟩
    rw [hmb]
    exact ⟨rfl, Below.refl _ _⟩
  have HY2 : Hid (∀ W, Calls Try.prog 10 #[.int .u8 x] W fun e w' => e = .returned (.bool mb) ∧ Below W.heap.size W w') := Lib.hid fun W => by
    refine (rmay_any x hx W).mono ?_
    rintro e w' ⟨rfl, rfl⟩
    rw [hmb]
    exact ⟨rfl, Below.refl _ _⟩
  have HT1 := Lib.hid (turn_any tv tp ts td tsp tdp)
  have HT2 := Lib.hid (rturn_any tv tp ts td tsp tdp)
  obtain ⟨a, b, ty, v, pr, s, d, sp, dp, fl, rp, NI, _, _, hP, hR⟩ := pk_common f hf n (by omega)
  obtain ⟨E, hE⟩ : ∃ E, E = pkE f n := ⟨_, rfl⟩
  rw [← hE] at hP hR
  have HP := Lib.hid hP
  have HRR := Lib.hid hR
  have HR := Lib.hid hr
  have HGB : Hid (Byt (pkG f)) := Lib.hid fun k => hf _
  clear hP hR hE hr hmb hx hf
  have g1 : ¬ (1700 : Int) < (n : Int) := by omega
  have HM1 : Hid (Mem w (w.alloc (.cells (tupc tv tp ts td tsp tdp) 26)) [(w.heap.size, .cells (tupc tv tp ts td tsp tdp) 26 (0, 0))]) := Lib.hid ((Mem.nil w).alloc (.cells (tupc tv tp ts td tsp tdp) 26))
  go_enter Try.func3, Try.ntmps3
  go_upto_if 15 with fail
  change Code.wp _ _ _ _ (w.alloc (.cells (tupc tv tp ts td tsp tdp) 26))
  generalize w.alloc (.cells (tupc tv tp ts td tsp tdp) 26) = u1 at *
  have HO0 : Hid (Own (u1.alloc (.cells #[] 5)) u1.heap.size 5 (some ⟨u1.heap.size, 0, none⟩) 0 0 (fun _ => 0)) := Own.fresh u1 _ _ rfl (Nat.le_refl _) _ _
  have B10 : Hid (Below u1.heap.size u1 (u1.alloc (.cells #[] 5))) := below_alloc u1 _
  go_upto_region 4 with (first
    | (at_builtin
       refine wpList_append_rd rfl (.tmp 17) (.tmp 18) _ rfl u1.heap.size 5 i0 Try.underlying22 HI0.out HZ0.out HZ1.out HZ2.out rfl HO0.out rfl (HR.out.keep (HM1.out.below.trans (B10.out.mono HM1.out.below.size))) (by omega) (alloc_le u1 _) ?_
       intro A2 c2 u2 hown2 hg2 _
       rw [Nat.zero_add] at hown2
       have HO2 : Hid (Own u2 u1.heap.size 5 A2 n c2 f) := hown2.same fun k _ => by simp [cat]
       have B12 : Hid (Below u1.heap.size u1 u2) := B10.out.grown hg2 B10.out.size (fun k hk => HO0.out.at_ k hk)
       rw [Nat.zero_add]
       clear hown2 hg2))
  have HM2 := Lib.hid (HM1.out.step B12.out)
  have HIN : Hid (Rd u2 u2.heap.size A2 n f) := HO2.out.rd
  have HRN : Hid (Rd u2 u2.heap.size A n f) := HM2.out.rd HR.out
  have hc2 := HO2.out.cap
  have hc29 := HO2.out.cap_le
  clear HO0 B10 B12 HM1 HO2 g1 HR
  have HB2 := Lib.hid HM2.out.below
  have HX2 := Lib.hid (HM2.out.get 0 rfl)
  clear HM2
  have HN2 := Lib.hid (Mem.nil u2)
  go_wp2_with fail
  go_at_call 6
  refine (HP.out A2 c2 u2 hc2 hc29 HIN.out).mono ?_
  rintro e u3 ⟨I1, ic1, rfl, hi1, hi19, hin1, hb⟩
  have HI1 := Lib.hid hin1
  have HM3 := Lib.hid (HN2.out.step hb)
  clear hb HN2 hin1 HP
  have HN : Hid ((u3.alloc (.cells pkz 32)).heap[u3.heap.size]? = some (.cells pkz 32 (0, 0))) := heap_alloc_new u3 _
  go_upto_region 5 with (first
    | (refine wpList_store_row rfl 32 (.tmp 8) (.tmp 23) rfl u3.heap.size (pkc a b ty v pr s d sp dp fl rp (.slice I1 NI ic1)) rfl rfl 32 pkz HN.out (by kernel_rfl) rfl (pk_one ..) ?_))
  change Code.wp _ _ _ _ ((u3.alloc (.cells pkz 32)).setRow u3.heap.size (pkc a b ty v pr s d sp dp fl rp (.slice I1 NI ic1)))
  obtain ⟨q8, hq⟩ : ∃ q, q = u3.heap.size := ⟨_, rfl⟩
  have HM4 : Hid (Mem u2 ((u3.alloc (.cells pkz 32)).setRow q8 (pkc a b ty v pr s d sp dp fl rp (.slice I1 NI ic1))) [(q8, .cells (pkc a b ty v pr s d sp dp fl rp (.slice I1 NI ic1)) 32 (0, 0))]) := Lib.hid (HM3.out.newrow pkz (pkc a b ty v pr s d sp dp fl rp (.slice I1 NI ic1)) 32 q8 hq)
  have HI4 : Hid (InB ((u3.alloc (.cells pkz 32)).setRow q8 (pkc a b ty v pr s d sp dp fl rp (.slice I1 NI ic1))) u2.heap.size I1 NI (pkG f)) := Lib.hid (HI1.out.below (by rw [hq]; exact below_setRow (below_alloc u3 _) (Nat.le_refl _) _))
  rw [← hq]
  clear hq HN HM3 HI1
  generalize (u3.alloc (.cells pkz 32)).setRow q8 (pkc a b ty v pr s d sp dp fl rp (.slice I1 NI ic1)) = u4 at *
  go_wp2_with fail
  go_at_call 7
  refine (HRR.out A c u4 hcap hc9 (HM4.out.rd HRN.out)).mono ?_
  rintro e u5 ⟨I2, ic2, rfl, hi2, hi29, hin2, hb⟩
  have HI2 := Lib.hid hin2
  have HM5 := Lib.hid (HM4.out.step hb)
  have HI5 := Lib.hid (HI4.out.below hb)
  clear hb HM4 HI4 hin2 HRR
  have HN : Hid ((u5.alloc (.cells pkz 32)).heap[u5.heap.size]? = some (.cells pkz 32 (0, 0))) := heap_alloc_new u5 _
  go_upto_region 6 with (first
    | (refine wpList_store_row rfl 32 (.tmp 10) (.tmp 28) rfl u5.heap.size (pkc a b ty v pr s d sp dp fl rp (.slice I2 NI ic2)) rfl rfl 32 pkz HN.out (by kernel_rfl) rfl (pk_one ..) ?_))
  change Code.wp _ _ _ _ ((u5.alloc (.cells pkz 32)).setRow u5.heap.size (pkc a b ty v pr s d sp dp fl rp (.slice I2 NI ic2)))
  obtain ⟨q10, hq⟩ : ∃ q, q = u5.heap.size := ⟨_, rfl⟩
  have HM6 : Hid (Mem u2 ((u5.alloc (.cells pkz 32)).setRow q10 (pkc a b ty v pr s d sp dp fl rp (.slice I2 NI ic2))) [(q8, .cells (pkc a b ty v pr s d sp dp fl rp (.slice I1 NI ic1)) 32 (0, 0)), (q10, .cells (pkc a b ty v pr s d sp dp fl rp (.slice I2 NI ic2)) 32 (0, 0))]) := Lib.hid (HM5.out.newrow pkz (pkc a b ty v pr s d sp dp fl rp (.slice I2 NI ic2)) 32 q10 hq)
  have B56 : Hid (Below u5.heap.size u5 ((u5.alloc (.cells pkz 32)).setRow q10 (pkc a b ty v pr s d sp dp fl rp (.slice I2 NI ic2)))) := Lib.hid (by rw [hq]; exact below_setRow (below_alloc u5 _) (Nat.le_refl _) _)
  have HI6 := Lib.hid (HI5.out.below B56.out)
  have HJ6 := Lib.hid (HI2.out.below B56.out)
  rw [← hq]
  clear hq HN HM5 HI5 HI2 B56
  generalize (u5.alloc (.cells pkz 32)).setRow q10 (pkc a b ty v pr s d sp dp fl rp (.slice I2 NI ic2)) = u6 at *
  have HC8 := Lib.hid (stay_heap (HM6.out.get 0 rfl))
  have HC10 := Lib.hid (stay_heap (HM6.out.get 1 rfl))
  have HC4 := Lib.hid (stay_heap (HM6.out.old HX2.out))
  have HSM : Hid (∀ W : Stay u6, Calls Try.prog 8 #[.agg (pkc a b ty v pr s d sp dp fl rp (.slice I1 NI ic1)), .agg (pkc a b ty v pr s d sp dp fl rp (.slice I2 NI ic2))] W.w fun e w' => e = .returned (.bool true) ∧ Below W.w.heap.size W.w w') := Lib.hid fun W => same_any a b ty v pr s d sp dp fl rp NI I1 I2 ic1 ic2 (pkG f) W.w (Stay.rd HI6.out.rd W) (Stay.rd HJ6.out.rd W)
  have heT := eqT tv tp td ts tdp tsp
  refine wp_region_stay (by kernel_rfl) (by kernel_rfl) ?_
  repeat (first
    | (refine qload_row rfl 32 (.tmp 8) rfl q8 rfl 32 (pkc a b ty v pr s d sp dp fl rp (.slice I1 NI ic1)) (0, 0) _ HC8.out Try.underlying32 rfl (by kernel_rfl) ?_
       simp only [Act.put, List.setIfInBounds_toArray, List.set_cons_zero, List.set_cons_succ])
    | (refine qload_row rfl 32 (.tmp 10) rfl q10 rfl 32 (pkc a b ty v pr s d sp dp fl rp (.slice I2 NI ic2)) (0, 0) _ HC10.out Try.underlying32 rfl (by kernel_rfl) ?_
       simp only [Act.put, List.setIfInBounds_toArray, List.set_cons_zero, List.set_cons_succ])
    | (refine qload_row rfl 26 (.tmp 4) rfl w.heap.size rfl 26 (tupc tv tp ts td tsp tdp) (0, 0) _ HC4.out Try.underlying26 rfl (by kernel_rfl) ?_
       simp only [Act.put, List.setIfInBounds_toArray, List.set_cons_zero, List.set_cons_succ])
    | go_big_quiet_step (first
      | (go_at_call 8; with_reducible exact Calls.stay _ (HSM.out _))
      | (go_at_call 9; with_reducible exact Calls.stay _ (HY1.out _))
      | (go_at_call 10; with_reducible exact Calls.stay _ (HY2.out _))
      | (go_at_call 11; with_reducible exact Calls.stay _ (HT1.out _))
      | (go_at_call 12; with_reducible exact Calls.stay _ (HT2.out _))))
  refine wpQuiet_nil ?_
  intro w' hw'
  obtain ⟨W, rfl⟩ := hw'
  have hbW := W.below
  have HQ7 := Lib.hid ((hbW.block _ (lt_heap (HM6.out.get 0 rfl))).trans (HM6.out.get 0 rfl))
  have HB7 := Lib.hid (HM6.out.below.trans (hbW.mono HM6.out.below.size))
  have HI7 := Lib.hid (HI6.out.below hbW)
  have HK7 : Hid (NI = 0 ∨ ∃ g1 N c, I1 = some ⟨g1, 0, none⟩ ∧ NI ≤ N ∧ Kp W.w u2.heap.size (some ⟨g1, 0, none⟩) N c) := Lib.hid (by
    rcases HI7.out with h | ⟨g1, N, c, e, h1, h2⟩
    · exact .inl h
    · exact .inr ⟨g1, N, c, e, h1, pkG f, HGB.out, h2⟩)
  have H51 : Hid ((pkc a b ty v pr s d sp dp fl rp (.slice I1 NI ic1))[51]? = some (.slice I1 NI ic1)) := Lib.hid rfl
  obtain ⟨CC, hCC⟩ : ∃ CC, CC = (pkc a b ty v pr s d sp dp fl rp (.slice I1 NI ic1)) := ⟨_, rfl⟩
  rw [← hCC] at HQ7 H51
  have x51 := (blk_cell HQ7.out 51).trans H51.out
  clear heT HC8 HC10 HC4 HSM HM6 HI6 HJ6 HI7 hbW HY1 HY2 HT1 HT2 hCC
  generalize W.w = u7 at *
  go_wp2
  clear x51
  go_loopw [56] (fun i wr => ∃ j : Nat, j ≤ NI ∧ i = .int .i64 j ∧ (NI = 0 ∨ ∃ g1 N c, I1 = some ⟨g1, 0, none⟩ ∧ NI ≤ N ∧ Kp wr u2.heap.size (some ⟨g1, 0, none⟩) N c) ∧ wr.heap[q8]? = some (.cells CC 32 (0, 0)) ∧ Below u2.heap.size u2 wr) (fun i _ => NI - (intOf i).toNat)
  case atStart => exact ⟨0, by omega, rfl, HK7.out, HQ7.out, HB7.out⟩
  case round =>
    clear HK7 HQ7 HB7
    obtain ⟨j, hj, rfl, hk, hq8, hbl⟩ := hrel
    have HK := Lib.hid hk
    have HQR := Lib.hid hq8
    have HBR := Lib.hid hbl
    clear hk hq8 hbl
    by_cases hlj : j < NI
    · rcases HK.out with h0 | ⟨gx, N, cx, rfl, hNN, fx, hfx, hox⟩
      · omega
      obtain ⟨gy, hye, hgb, _, hcell, hfree⟩ := hox.lies (by omega)
      obtain rfl : gx = gy := by simpa using hye
      have hne := hox.ne HQR.out (by decide)
      have hx := hcell j (by omega)
      have hfz := hfree j
      obtain ⟨x0, x1⟩ := hfx j
      generalize fx j = y at *
      have x51 := (blk_cell HQR.out 51).trans H51.out
      have hvb : 0 ≤ (y + 1) % 256 ∧ (y + 1) % 256 ≤ 255 := by omega
      have hkp : Kp wr u2.heap.size (some ⟨gx, 0, none⟩) N cx := by
        rcases HK.out with h0 | ⟨g', N', c', e1, h2, h3⟩
        · omega
        · exact ⟨_, hfx, hox⟩
      have H1' := Lib.hid (hkp.set gx j ((y + 1) % 256) hvb)
      have H4' := Lib.hid (blk_far HQR.out (p := ⟨gx, j, none⟩) hne (.int .u8 ((y + 1) % 256)))
      have H5' := Lib.hid (HBR.out.setCell (p := ⟨gx, j, none⟩) hgb (.int .u8 ((y + 1) % 256)))
      clear hcell hfree hox hfx hvb HK HQR HBR hkp hye
      go_wp2
      go_roundw
      case rel => exact ⟨j + 1, by omega, by go_num, .inr ⟨gx, N, cx, rfl, hNN, H1'.out⟩, H4'.out, H5'.out⟩
      case measure => simp [intOf]; omega
    · obtain rfl : NI = j := by omega
      have hcA := run_convert_rd (P := Try.prog) (HRN.out.keep HBR.out) 22 5 9 c Try.underlying22 Try.underlying5 Try.underlying9
      have hcB := run_convert_rd (P := Try.prog) (HIN.out.keep HBR.out) 22 5 9 c2 Try.underlying22 Try.underlying5 Try.underlying9
      generalize strOfNums (nums n f) = S3 at hcA hcB
      have x51 := (blk_cell HQR.out 51).trans H51.out
      clear HK hlj
      go_wp2_with (first
        | (go_at_call 5; refine (KN.out _).mono ?_; rintro e u11 ⟨rfl, hb11⟩))
      go_ret
      exact ⟨rfl, HB2.out.trans ((HBR.out.trans (hb11.mono HBR.out.size)).mono HB2.out.size)⟩
end Go.Proofs.Ytlchegibfopglaa
