/- SegReads, walked. -/
import Derived.Test.YtmcapemlicjfjaaSk
namespace Go.Proofs.Ytmcapemlicjfjaa
open Go.RowKit
set_option maxRecDepth 100000 in
set_option maxHeartbeats 4000000 in
theorem reads_any (v6 : Bool) (s d : Nat → Int) (hs : Byt s) (hd : Byt d) (A : Option Addr) (n c : Nat) (f : Nat → Int) (hf : Byt f) (hn : n ≤ 1700) (hcap : n ≤ c) (hc9 : c ≤ 9223372036854775807) (w : World) (hr : Rd w w.heap.size A n f) :
    Calls Try.prog 3 #[.bool v6, .agg (arr16 s), .agg (arr16 d), .slice A n c] w fun e w' => e = .returned (.bool true) ∧ Below w.heap.size w w' := by
  obtain ⟨i0, hi0, hz0, hz1, hz2⟩ := info_parts Try.info5
  have HI0 := Lib.hid hi0
  have HZ0 := Lib.hid hz0
  have HZ1 := Lib.hid hz1
  have HZ2 := Lib.hid hz2
  clear hi0 hz0 hz1 hz2
  have KN := Lib.hid known_any
  obtain ⟨sp, dp, sq, ak, re, fl, wi, ur, on, fo, pn, fp, hfo, hfp, hpn, hon, hrc⟩ := readT_common hf (psq v6 s d 6 n) n
  obtain ⟨xp, yp, ns, rn, fr, hfr, hrn, hru⟩ := readU_common hf v6 (psq v6 s d 17 n) n
  obtain ⟨E, hE⟩ : ∃ E, E = tcpE (psq v6 s d 6 n) f n := ⟨_, rfl⟩
  obtain ⟨F, hF⟩ : ∃ F, F = udpE v6 (psq v6 s d 17 n) f n := ⟨_, rfl⟩
  have HRT : Hid (∀ A' c' W, n ≤ c' → c' ≤ 9223372036854775807 → Rd W W.heap.size A' n f → Calls Try.prog 7 #[.bool v6, .agg (arr16 s), .agg (arr16 d), .slice A' n c'] W fun e w' => ∃ O co P cp, e = .returned (.tuple #[.agg (tcpc sp dp sq ak re fl wi ur (.slice O on co)), .slice P pn cp, .int .i64 E]) ∧ Own w' W.heap.size 5 O on co fo ∧ Own w' W.heap.size 5 P pn cp fp ∧ Below W.heap.size W w') := Lib.hid fun A' c' W hc hc9 hr => by
    rw [hE]
    exact (readT_any v6 s d hs hd A' n c' f hf (by omega) hc hc9 W hr).mono fun e w' hq => hrc _ _ _ hq
  have HRRT : Hid (∀ A' c' W, n ≤ c' → c' ≤ 9223372036854775807 → Rd W W.heap.size A' n f → Calls Try.prog 8 #[.bool v6, .agg (arr16 s), .agg (arr16 d), .slice A' n c'] W fun e w' => ∃ O co P cp, e = .returned (.tuple #[.agg (tcpc sp dp sq ak re fl wi ur (.slice O on co)), .slice P pn cp, .int .i64 E]) ∧ Own w' W.heap.size 5 O on co fo ∧ Own w' W.heap.size 5 P pn cp fp ∧ Below W.heap.size W w') := Lib.hid fun A' c' W hc hc9 hr => by
    rw [hE]
    exact (rreadT_any v6 s d hs hd A' n c' f hf (by omega) hc hc9 W hr).mono fun e w' hq => hrc _ _ _ hq
  have HRU : Hid (∀ A' c' W, n ≤ c' → c' ≤ 9223372036854775807 → Rd W W.heap.size A' n f → Calls Try.prog 10 #[.bool v6, .agg (arr16 s), .agg (arr16 d), .slice A' n c'] W fun e w' => ∃ P cp, e = .returned (.tuple #[.agg (udpc xp yp ns), .slice P rn cp, .int .i64 F]) ∧ Own w' W.heap.size 5 P rn cp fr ∧ Below W.heap.size W w') := Lib.hid fun A' c' W hc hc9 hr => by
    rw [hF]
    exact (readU_any v6 s d hs hd A' n c' f hf (by omega) hc hc9 W hr).mono fun e w' hq => hru _ _ _ hq
  have HRRU : Hid (∀ A' c' W, n ≤ c' → c' ≤ 9223372036854775807 → Rd W W.heap.size A' n f → Calls Try.prog 11 #[.bool v6, .agg (arr16 s), .agg (arr16 d), .slice A' n c'] W fun e w' => ∃ P cp, e = .returned (.tuple #[.agg (udpc xp yp ns), .slice P rn cp, .int .i64 F]) ∧ Own w' W.heap.size 5 P rn cp fr ∧ Below W.heap.size W w') := Lib.hid fun A' c' W hc hc9 hr => by
    rw [hF]
    exact (rreadU_any v6 s d hs hd A' n c' f hf (by omega) hc hc9 W hr).mono fun e w' hq => hru _ _ _ hq
  have HSM : Hid (∀ O1 O2 c1 c2 W, Rd W W.heap.size O1 on fo → Rd W W.heap.size O2 on fo → Calls Try.prog 9 #[.agg (tcpc sp dp sq ak re fl wi ur (.slice O1 on c1)), .agg (tcpc sp dp sq ak re fl wi ur (.slice O2 on c2))] W fun e w' => e = .returned (.bool true) ∧ Below W.heap.size W w') := Lib.hid fun O1 O2 c1 c2 W ha hb => rsame_any sp dp sq ak re fl wi ur O1 O2 on c1 c2 fo W ha hb
  have HPT : Hid (∀ A' c' W, Rd W W.heap.size A' n f → Calls Try.prog 12 #[.slice A' n c'] W fun e w' => e = .returned (.tuple #[.int .u16 (if n < 4 then 0 else w2 f 0), .int .u16 (if n < 4 then 0 else w2 f 2), .int .i64 (PortsE n)]) ∧ Below W.heap.size W w') := Lib.hid fun A' c' W hr => ports_any A' n c' f hf (by omega) W hr
  have HNM : Hid (∀ (a : Nat) W, a + 2 ≤ n → Rd W W.heap.size A n f → Calls Try.prog 13 #[.slice A n c, .int .i64 (a : Int), .int .i64 2] W fun e w' => e = .returned (.int .u32 (w2 f a)) ∧ W = w') := Lib.hid fun a W ha hr => by
    have h := rnum_any A n c a 2 f hf (by omega) ha (by omega) W _ hr
    rw [numk_2] at h
    exact h
  have HW2 := Lib.hid (w2_bd hf)
  have HR := Lib.hid hr
  have HFP := Lib.hid hfp
  have HFO := Lib.hid hfo
  have HFR := Lib.hid hfr
  clear hs hd hf hr hrc hru hE hF hfp hfo hfr
  have g1 : ¬ (1700 : Int) < (n : Int) := by omega
  have HX0 := Lib.hid (Box2.start w s d)
  go_enter Try.func3, Try.ntmps3
  go_upto_if 30 with fail
  change Code.wp _ _ _ _ ((w.alloc (.cells (arr16 s) 22)).alloc (.cells (arr16 d) 22))
  generalize (w.alloc (.cells (arr16 s) 22)).alloc (.cells (arr16 d) 22) = u1 at *
  have HO0 : Hid (Own (u1.alloc (.cells #[] 5)) u1.heap.size 5 (some ⟨u1.heap.size, 0, none⟩) 0 0 (fun _ => 0)) := Own.fresh u1 _ _ rfl (Nat.le_refl _) _ _
  have B10 : Hid (Below u1.heap.size u1 (u1.alloc (.cells #[] 5))) := below_alloc u1 _
  go_upto_region 4 with (first
    | (at_builtin
       refine wpList_append_rd rfl (.tmp 32) (.tmp 33) _ rfl u1.heap.size 5 i0 Try.underlying23 HI0.out HZ0.out HZ1.out HZ2.out rfl HO0.out rfl (HR.out.keep (HX0.out.below.trans (B10.out.mono HX0.out.below.size))) (by omega) (alloc_le u1 _) ?_
       intro A2 c2 u2 hown2 hg2 _
       rw [Nat.zero_add] at hown2
       have HO2 : Hid (Own u2 u1.heap.size 5 A2 n c2 f) := hown2.same fun k _ => by simp [cat]
       have B12 : Hid (Below u1.heap.size u1 u2) := B10.out.grown hg2 B10.out.size (fun k hk => HO0.out.at_ k hk)
       rw [Nat.zero_add]
       clear hown2 hg2))
  have HX2 := Lib.hid (HX0.out.step B12.out)
  have HIN : Hid (Rd u2 u2.heap.size A2 n f) := HO2.out.rd
  have hc2 := HO2.out.cap
  have hc29 := HO2.out.cap_le
  clear HO0 B10 B12 HX0 HO2 g1
  go_wp2_with (first
    | (refine wpList_load_roww rfl 22 (.tmp 5) rfl w.heap.size rfl 22 (arr16 s) (0, 0) _ HX2.out.b0 Try.underlying22 rfl (by kernel_rfl) ?_)
    | (refine wpList_load_roww rfl 22 (.tmp 6) rfl (w.heap.size + 1) rfl 22 (arr16 d) (0, 0) _ HX2.out.b1 Try.underlying22 rfl (by kernel_rfl) ?_))
  go_at_call 7
  refine (HRT.out A2 c2 u2 hc2 hc29 HIN.out).mono ?_
  rintro e u3 ⟨O1, co1, P1, cp1, rfl, ho1, hp1, hb3⟩
  obtain ⟨CS, hCS⟩ : ∃ CS, CS = tcpc sp dp sq ak re fl wi ur (.slice O1 on co1) := ⟨_, rfl⟩
  have HCS := Lib.hid hCS
  have H1 : Hid (CS.all (·.oneCell') = true) := Lib.hid (by rw [hCS]; exact tcp_one ..)
  have HSZ : Hid (CS.size = 9) := Lib.hid (by rw [hCS]; rfl)
  have H8 : Hid (CS[8]? = some (.slice O1 on co1)) := Lib.hid (by rw [hCS]; rfl)
  have hi9 := Lib.hid (show (Try.prog.info? 28).map (·.size) = some 9 by kernel_rfl)
  rw [← hCS]
  clear hCS
  have HN : Hid ((u3.alloc (.cells tcpz 28)).heap[u3.heap.size]? = some (.cells tcpz 28 (0, 0))) := heap_alloc_new u3 _
  have HB_s : Hid (Below u3.heap.size u3 ((u3.alloc (.cells tcpz 28)).setRow u3.heap.size CS)) := below_setRow (below_alloc u3 _) (Nat.le_refl _) CS
  have HT_s : Hid (((u3.alloc (.cells tcpz 28)).setRow u3.heap.size CS).heap[u3.heap.size]? = some (.cells CS 28 (0, 0))) := setRow_heap _ _ _ CS _ _ HN.out
  go_upto_region 5 with (first
    | (refine wpList_store_row rfl 28 (.tmp 10) (.tmp 41) rfl u3.heap.size CS rfl rfl 28 tcpz HN.out (hi9.out.trans (by rw [HSZ.out])) (by rw [HSZ.out]; rfl) H1.out ?_))
  change Code.wp _ _ _ _ ((u3.alloc (.cells tcpz 28)).setRow u3.heap.size CS)
  clear HN
  generalize (u3.alloc (.cells tcpz 28)).setRow u3.heap.size CS = u4 at *
  have HT4 := HT_s
  have B24 : Hid (Below u2.heap.size u2 u4) := hb3.trans (HB_s.out.mono hb3.size)
  have HO1 := Lib.hid (ho1.below HB_s.out)
  have HP1 := Lib.hid (hp1.below HB_s.out)
  obtain ⟨Q4, hQ4⟩ : ∃ q, q = u3.heap.size := ⟨_, rfl⟩
  rw [← hQ4] at HT4 ⊢
  clear HT_s HB_s ho1 hp1 hb3 hQ4 HRT
  have HX4 := Lib.hid (HX2.out.step B24.out)
  go_wp2_with (first
    | (refine wpList_load_roww rfl 22 (.tmp 5) rfl w.heap.size rfl 22 (arr16 s) (0, 0) _ HX4.out.b0 Try.underlying22 rfl (by kernel_rfl) ?_)
    | (refine wpList_load_roww rfl 22 (.tmp 6) rfl (w.heap.size + 1) rfl 22 (arr16 d) (0, 0) _ HX4.out.b1 Try.underlying22 rfl (by kernel_rfl) ?_))
  go_at_call 8
  refine (HRRT.out A c u4 hcap hc9 ((HR.out.keep HX4.out.below).more HX4.out.below.size)).mono ?_
  rintro e u5 ⟨O2, co2, P2, cp2, rfl, ho2, hp2, hb5⟩
  obtain ⟨CZ, hCZ⟩ : ∃ CZ, CZ = tcpc sp dp sq ak re fl wi ur (.slice O2 on co2) := ⟨_, rfl⟩
  have HCZ := Lib.hid hCZ
  have H1Z : Hid (CZ.all (·.oneCell') = true) := Lib.hid (by rw [hCZ]; exact tcp_one ..)
  have HSZZ : Hid (CZ.size = 9) := Lib.hid (by rw [hCZ]; rfl)
  rw [← hCZ]
  clear hCZ
  have HN : Hid ((u5.alloc (.cells tcpz 28)).heap[u5.heap.size]? = some (.cells tcpz 28 (0, 0))) := heap_alloc_new u5 _
  have HB_s : Hid (Below u5.heap.size u5 ((u5.alloc (.cells tcpz 28)).setRow u5.heap.size CZ)) := below_setRow (below_alloc u5 _) (Nat.le_refl _) CZ
  have HT_s : Hid (((u5.alloc (.cells tcpz 28)).setRow u5.heap.size CZ).heap[u5.heap.size]? = some (.cells CZ 28 (0, 0))) := setRow_heap _ _ _ CZ _ _ HN.out
  go_upto_region 6 with (first
    | (refine wpList_store_row rfl 28 (.tmp 13) (.tmp 50) rfl u5.heap.size CZ rfl rfl 28 tcpz HN.out (hi9.out.trans (by rw [HSZZ.out])) (by rw [HSZZ.out]; rfl) H1Z.out ?_))
  change Code.wp _ _ _ _ ((u5.alloc (.cells tcpz 28)).setRow u5.heap.size CZ)
  clear HN
  generalize (u5.alloc (.cells tcpz 28)).setRow u5.heap.size CZ = u6 at *
  have HT6z := HT_s
  have B46 : Hid (Below u4.heap.size u4 u6) := hb5.trans (HB_s.out.mono hb5.size)
  have HO2 := Lib.hid (ho2.below HB_s.out)
  have HP2 := Lib.hid (hp2.below HB_s.out)
  clear HT_s HB_s ho2 hp2 hb5 HRRT
  have HT6 := Lib.hid ((B46.out.block _ (lt_heap HT4.out)).trans HT4.out)
  have HO16 := Lib.hid (HO1.out.below B46.out)
  have HP16 := Lib.hid (HP1.out.below B46.out)
  have B26 : Hid (Below u2.heap.size u2 u6) := B24.out.trans (B46.out.mono B24.out.size)
  have HSM6 : Hid (Calls Try.prog 9 #[.agg CS, .agg CZ] u6 fun e w' => e = .returned (.bool true) ∧ Below u6.heap.size u6 w') := Lib.hid (by
    rw [HCS.out, HCZ.out]
    exact HSM.out O1 O2 co1 co2 u6 HO16.out.rd HO2.out.rd)
  obtain ⟨S, hS⟩ : ∃ S, ∀ w7, Below u6.heap.size u6 w7 → (convert 23 9 (.slice P1 pn cp1)).run Try.prog w7 = .ok (.string S) w7 ∧ (convert 23 9 (.slice P2 pn cp2)).run Try.prog w7 = .ok (.string S) w7 := ⟨strOfNums (nums pn fp), fun w7 hb7 =>
    ⟨run_convert_rd (P := Try.prog) (HP16.out.below hb7).rd 23 5 9 cp1 Try.underlying23 Try.underlying5 Try.underlying9, run_convert_rd (P := Try.prog) (HP2.out.below hb7).rd 23 5 9 cp2 Try.underlying23 Try.underlying5 Try.underlying9⟩⟩
  have HSS := Lib.hid hS
  clear hS HSM HO1 HP1 HT4 B46 HO2 HP2 HCS HCZ H1 H1Z HX4 B24
  go_upto_if 68 with (first
    | (refine wpList_load_roww rfl 28 (.tmp 10) rfl Q4 rfl 28 CS (0, 0) _ HT6.out Try.underlying28 rfl (hi9.out.trans (by rw [HSZ.out])) ?_)
    | (refine wpList_load_roww rfl 28 (.tmp 13) rfl u5.heap.size rfl 28 CZ (0, 0) _ HT6z.out Try.underlying28 rfl (hi9.out.trans (by rw [HSZZ.out])) ?_)
    | (go_at_call 9
       refine HSM6.out.mono ?_
       rintro e u7 ⟨rfl, hb7⟩
       obtain ⟨hv1, hv2⟩ := HSS.out u7 hb7
       have B67 := Lib.hid hb7
       clear hb7))
  have B27 : Hid (Below u2.heap.size u2 u7) := B26.out.trans (B67.out.mono B26.out.size)
  have HX7 := Lib.hid (HX2.out.step B27.out)
  have HT7 := Lib.hid ((B67.out.block _ (lt_heap HT6.out)).trans HT6.out)
  have HK1 : Hid (Kp u7 u2.heap.size O1 on co1) := Lib.hid ⟨fo, HFO.out, HO16.out.below B67.out⟩
  have HK2 : Hid (Kp u7 u2.heap.size P1 pn cp1) := Lib.hid ⟨fp, HFP.out, HP16.out.below B67.out⟩
  clear HO16 HP16 B67 B26 HT6 HT6z HSM6 HSS hv1 hv2
  go_wp2_with (first
    | (refine wpList_load_roww rfl 22 (.tmp 5) rfl w.heap.size rfl 22 (arr16 s) (0, 0) _ HX7.out.b0 Try.underlying22 rfl (by kernel_rfl) ?_)
    | (refine wpList_load_roww rfl 22 (.tmp 6) rfl (w.heap.size + 1) rfl 22 (arr16 d) (0, 0) _ HX7.out.b1 Try.underlying22 rfl (by kernel_rfl) ?_))
  go_at_call 10
  refine (HRU.out A2 c2 u7 hc2 hc29 ((HIN.out.keep B27.out).more B27.out.size)).mono ?_
  rintro e u8 ⟨R1, cr1, rfl, hr1, hb8⟩
  obtain ⟨CU, hCU⟩ : ∃ CU, CU = udpc xp yp ns := ⟨_, rfl⟩
  have HCU := Lib.hid hCU
  have H1U : Hid (CU.all (·.oneCell') = true) := Lib.hid (by rw [hCU]; exact udp_one ..)
  have HSZU : Hid (CU.size = 3) := Lib.hid (by rw [hCU]; rfl)
  have hi3 := Lib.hid (show (Try.prog.info? 34).map (·.size) = some 3 by kernel_rfl)
  rw [← hCU] at HRRU ⊢
  clear hCU
  have HN : Hid ((u8.alloc (.cells udpz 34)).heap[u8.heap.size]? = some (.cells udpz 34 (0, 0))) := heap_alloc_new u8 _
  have HB_s : Hid (Below u8.heap.size u8 ((u8.alloc (.cells udpz 34)).setRow u8.heap.size CU)) := below_setRow (below_alloc u8 _) (Nat.le_refl _) CU
  have HT_s : Hid (((u8.alloc (.cells udpz 34)).setRow u8.heap.size CU).heap[u8.heap.size]? = some (.cells CU 34 (0, 0))) := setRow_heap _ _ _ CU _ _ HN.out
  go_upto_region 9 with (first
    | (refine wpList_store_row rfl 34 (.tmp 16) (.tmp 75) rfl u8.heap.size CU rfl rfl 34 udpz HN.out (hi3.out.trans (by rw [HSZU.out])) (by rw [HSZU.out]; rfl) H1U.out ?_))
  change Code.wp _ _ _ _ ((u8.alloc (.cells udpz 34)).setRow u8.heap.size CU)
  clear HN
  generalize (u8.alloc (.cells udpz 34)).setRow u8.heap.size CU = u9 at *
  have HV9 := HT_s
  have B79 : Hid (Below u7.heap.size u7 u9) := hb8.trans (HB_s.out.mono hb8.size)
  have HR1 := Lib.hid (hr1.below HB_s.out)
  clear HT_s HB_s hr1 hb8 HRU
  have HT9 := Lib.hid ((B79.out.block _ (lt_heap HT7.out)).trans HT7.out)
  have HK19 := Lib.hid (HK1.out.below B79.out)
  have HK29 := Lib.hid (HK2.out.below B79.out)
  have B29 : Hid (Below u2.heap.size u2 u9) := B27.out.trans (B79.out.mono B27.out.size)
  have HX9 := Lib.hid (HX7.out.step B79.out)
  have B27s : Hid (u2.heap.size ≤ u7.heap.size) := B27.out.size
  clear HT7 HK1 HK2 B27 HX7 B79
  go_wp2_with (first
    | (refine wpList_load_roww rfl 22 (.tmp 5) rfl w.heap.size rfl 22 (arr16 s) (0, 0) _ HX9.out.b0 Try.underlying22 rfl (by kernel_rfl) ?_)
    | (refine wpList_load_roww rfl 22 (.tmp 6) rfl (w.heap.size + 1) rfl 22 (arr16 d) (0, 0) _ HX9.out.b1 Try.underlying22 rfl (by kernel_rfl) ?_))
  go_at_call 11
  refine (HRRU.out A c u9 hcap hc9 ((HR.out.keep HX9.out.below).more HX9.out.below.size)).mono ?_
  rintro e u10 ⟨R2, cr2, rfl, hr2, hb10⟩
  have HN : Hid ((u10.alloc (.cells udpz 34)).heap[u10.heap.size]? = some (.cells udpz 34 (0, 0))) := heap_alloc_new u10 _
  have HB_s : Hid (Below u10.heap.size u10 ((u10.alloc (.cells udpz 34)).setRow u10.heap.size CU)) := below_setRow (below_alloc u10 _) (Nat.le_refl _) CU
  have HT_s : Hid (((u10.alloc (.cells udpz 34)).setRow u10.heap.size CU).heap[u10.heap.size]? = some (.cells CU 34 (0, 0))) := setRow_heap _ _ _ CU _ _ HN.out
  go_upto_region 10 with (first
    | (refine wpList_store_row rfl 34 (.tmp 19) (.tmp 84) rfl u10.heap.size CU rfl rfl 34 udpz HN.out (hi3.out.trans (by rw [HSZU.out])) (by rw [HSZU.out]; rfl) H1U.out ?_))
  change Code.wp _ _ _ _ ((u10.alloc (.cells udpz 34)).setRow u10.heap.size CU)
  clear HN
  generalize (u10.alloc (.cells udpz 34)).setRow u10.heap.size CU = u11 at *
  have HVZ := HT_s
  have B9B : Hid (Below u9.heap.size u9 u11) := hb10.trans (HB_s.out.mono hb10.size)
  have HR2 := Lib.hid (hr2.below HB_s.out)
  clear HT_s HB_s hr2 hb10 HRRU
  have HT11 := Lib.hid ((B9B.out.block _ (lt_heap HT9.out)).trans HT9.out)
  have HV11 := Lib.hid ((B9B.out.block _ (lt_heap HV9.out)).trans HV9.out)
  have HK111 := Lib.hid (HK19.out.below B9B.out)
  have HK211 := Lib.hid (HK29.out.below B9B.out)
  have HR111 := Lib.hid (HR1.out.below B9B.out)
  have B211 : Hid (Below u2.heap.size u2 u11) := B29.out.trans (B9B.out.mono B29.out.size)
  clear HT9 HV9 HK19 HK29 HR1 B29 HX9
  have heq : ∀ W, (Op.equalIn 10000 34 (.agg CU) (.agg CU)).run Try.prog W = .ok true W := fun W => by
    rw [HCU.out]
    exact eqU xp yp ns W
  have hw1 := run_convert_rd (P := Try.prog) HR111.out.rd 23 5 9 cr1 Try.underlying23 Try.underlying5 Try.underlying9
  have hw2 := run_convert_rd (P := Try.prog) HR2.out.rd 23 5 9 cr2 Try.underlying23 Try.underlying5 Try.underlying9
  generalize strOfNums (nums rn fr) = S2 at hw1 hw2
  go_upto_if 101 with (first
    | (refine wpList_load_roww rfl 34 (.tmp 16) rfl u8.heap.size rfl 34 CU (0, 0) _ HV11.out Try.underlying34 rfl (hi3.out.trans (by rw [HSZU.out])) ?_)
    | (refine wpList_load_roww rfl 34 (.tmp 19) rfl u10.heap.size rfl 34 CU (0, 0) _ HVZ.out Try.underlying34 rfl (hi3.out.trans (by rw [HSZU.out])) ?_))
  have HK3 : Hid (Kp u11 u2.heap.size R1 rn cr1) := Lib.hid ⟨fr, HFR.out, HR111.out.le B27s.out⟩
  clear heq hw1 hw2 HV11 HVZ HR111 HR2 B9B
  go_wp2_with fail
  go_loopw [104] (fun i wr => ∃ j1 : Nat, j1 ≤ pn ∧ i = .int .i64 j1 ∧ Hid (Kp wr u2.heap.size P1 pn cp1) ∧ Hid (Kp wr u2.heap.size R1 rn cr1) ∧ Hid (Kp wr u2.heap.size O1 on co1) ∧ Hid (wr.heap[Q4]? = some (.cells CS 28 (0, 0))) ∧ Hid (Below u2.heap.size u2 wr)) (fun i _ => pn - (intOf i).toNat)
  case atStart => exact ⟨0, by omega, rfl, HK211, HK3, HK111, HT11, B211⟩
  case round =>
    clear HK211 HK3 HK111 HT11 B211
    obtain ⟨j1, hj1, rfl, HK211, HK3, HK111, HT11, B211⟩ := hrel
    by_cases hlj1 : j1 < pn
    · obtain ⟨fx, hfx, hox⟩ := HK211.out
      obtain ⟨gx, hxe, hgb, _, hcell, hfree⟩ := hox.lies (by omega)
      subst hxe
      have hne := hox.ne HT11.out (by decide)
      have hx := hcell j1 hlj1
      have hfz := hfree j1
      obtain ⟨x0, x1⟩ := hfx j1
      generalize fx j1 = x at *
      have hvb : 0 ≤ (x + 1) % 256 ∧ (x + 1) % 256 ≤ 255 := by omega
      have NHK211 := Lib.hid (HK211.out.set gx j1 ((x + 1) % 256) hvb)
      have NHK3 := Lib.hid (HK3.out.set gx j1 ((x + 1) % 256) hvb)
      have NHK111 := Lib.hid (HK111.out.set gx j1 ((x + 1) % 256) hvb)
      have H4' := Lib.hid (blk_far HT11.out (p := ⟨gx, j1, none⟩) hne (.int .u8 ((x + 1) % 256)))
      have H5' := Lib.hid (B211.out.setCell (p := ⟨gx, j1, none⟩) hgb (.int .u8 ((x + 1) % 256)))
      clear hcell hfree hox hfx hvb HK211 HK3 HK111 HT11 B211
      go_wp2
      go_roundw
      case rel => exact ⟨j1 + 1, by omega, by go_num, NHK211, NHK3, NHK111, H4', H5'⟩
      case measure => simp [intOf]; omega
    · obtain rfl : pn = j1 := by omega
      clear hlj1 hj1
      go_wp2
      go_loopw [116] (fun i wr => ∃ j2 : Nat, j2 ≤ rn ∧ i = .int .i64 j2 ∧ Hid (Kp wr u2.heap.size R1 rn cr1) ∧ Hid (Kp wr u2.heap.size O1 on co1) ∧ Hid (wr.heap[Q4]? = some (.cells CS 28 (0, 0))) ∧ Hid (Below u2.heap.size u2 wr)) (fun i _ => rn - (intOf i).toNat)
      case atStart => exact ⟨0, by omega, rfl, HK3, HK111, HT11, B211⟩
      case round =>
        clear HK3 HK111 HT11 B211
        obtain ⟨j2, hj2, rfl, HK3, HK111, HT11, B211⟩ := hrel
        by_cases hlj2 : j2 < rn
        · obtain ⟨fx, hfx, hox⟩ := HK3.out
          obtain ⟨gx, hxe, hgb, _, hcell, hfree⟩ := hox.lies (by omega)
          subst hxe
          have hne := hox.ne HT11.out (by decide)
          have hx := hcell j2 hlj2
          have hfz := hfree j2
          obtain ⟨x0, x1⟩ := hfx j2
          generalize fx j2 = x at *
          have hvb : 0 ≤ (x + 1) % 256 ∧ (x + 1) % 256 ≤ 255 := by omega
          have NHK3 := Lib.hid (HK3.out.set gx j2 ((x + 1) % 256) hvb)
          have NHK111 := Lib.hid (HK111.out.set gx j2 ((x + 1) % 256) hvb)
          have H4' := Lib.hid (blk_far HT11.out (p := ⟨gx, j2, none⟩) hne (.int .u8 ((x + 1) % 256)))
          have H5' := Lib.hid (B211.out.setCell (p := ⟨gx, j2, none⟩) hgb (.int .u8 ((x + 1) % 256)))
          clear hcell hfree hox hfx hvb HK3 HK111 HT11 B211
          go_wp2
          go_roundw
          case rel => exact ⟨j2 + 1, by omega, by go_num, NHK3, NHK111, H4', H5'⟩
          case measure => simp [intOf]; omega
        · obtain rfl : rn = j2 := by omega
          clear hlj2 hj2
          have c37 : wr.cell? ⟨Q4, 8, none⟩ = some (.slice O1 on co1) := (blk_cell HT11.out 8).trans H8.out
          go_wp2
          clear c37
          go_loopw [129] (fun i wr => ∃ j3 : Nat, j3 ≤ on ∧ i = .int .i64 j3 ∧ Hid (Kp wr u2.heap.size O1 on co1) ∧ Hid (wr.heap[Q4]? = some (.cells CS 28 (0, 0))) ∧ Hid (Below u2.heap.size u2 wr)) (fun i _ => on - (intOf i).toNat)
          case atStart => exact ⟨0, by omega, rfl, HK111, HT11, B211⟩
          case round =>
            clear HK111 HT11 B211
            obtain ⟨j3, hj3, rfl, HK111, HT11, B211⟩ := hrel
            by_cases hlj3 : j3 < on
            · obtain ⟨fx, hfx, hox⟩ := HK111.out
              obtain ⟨gx, hxe, hgb, _, hcell, hfree⟩ := hox.lies (by omega)
              subst hxe
              have hne := hox.ne HT11.out (by decide)
              have hx := hcell j3 hlj3
              have hfz := hfree j3
              obtain ⟨x0, x1⟩ := hfx j3
              generalize fx j3 = x at *
              have c37 : wr.cell? ⟨Q4, 8, none⟩ = some (.slice (some ⟨gx, 0, none⟩) on co1) := (blk_cell HT11.out 8).trans H8.out
              have hvb : 0 ≤ (x + 1) % 256 ∧ (x + 1) % 256 ≤ 255 := by omega
              have NHK111 := Lib.hid (HK111.out.set gx j3 ((x + 1) % 256) hvb)
              have H4' := Lib.hid (blk_far HT11.out (p := ⟨gx, j3, none⟩) hne (.int .u8 ((x + 1) % 256)))
              have H5' := Lib.hid (B211.out.setCell (p := ⟨gx, j3, none⟩) hgb (.int .u8 ((x + 1) % 256)))
              clear hcell hfree hox hfx hvb HK111 HT11 B211
              go_wp2
              go_roundw
              case rel => exact ⟨j3 + 1, by omega, by go_num, NHK111, H4', H5'⟩
              case measure => simp [intOf]; omega
            · obtain rfl : on = j3 := by omega
              clear hlj3 hj3
              have HXr : Hid (Below w.heap.size w wr) := HX2.out.below.trans (B211.out.mono HX2.out.below.size)
              have HIr := Lib.hid ((HIN.out.keep B211.out).more B211.out.size)
              go_wp2_with fail
              go_at_call 12
              refine (HPT.out A2 c2 wr HIr.out).mono ?_
              rintro e u12 ⟨rfl, hb12⟩
              have B12 : Hid (Below wr.heap.size wr u12) := Lib.hid hb12
              have HXz : Hid (Below w.heap.size w u12) := HXr.out.trans (hb12.mono HXr.out.size)
              clear hb12
              have hcA := run_convert_rd (P := Try.prog) (HR.out.keep HXz.out) 23 5 9 c Try.underlying23 Try.underlying5 Try.underlying9
              have hcB := run_convert_rd (P := Try.prog) (HIr.out.keep B12.out) 23 5 9 c2 Try.underlying23 Try.underlying5 Try.underlying9
              generalize strOfNums (nums n f) = S3 at hcA hcB
              have HRz := Lib.hid ((HR.out.keep HXz.out).more HXz.out.size)
              unfold PortsE
              by_cases c4 : n < 4
              · have c4' : (n : Int) < 4 := by omega
                rw [if_pos c4, if_pos c4, if_pos c4]
                go_wp2_with (first
                  | (go_at_call 6; refine (KN.out _).mono ?_; rintro e u13 ⟨rfl, hb13⟩))
                go_ret
                exact ⟨rfl, HXz.out.trans (hb13.mono HXz.out.size)⟩
              · have c4' : (4 : Int) ≤ (n : Int) := by omega
                rw [if_neg c4, if_neg c4, if_neg c4]
                have z0 : IntKind.u32.wrap (w2 f 0) = w2 f 0 := by have := HW2.out 0; rw [IntKind.wrap_u32']; omega
                have z2 : IntKind.u32.wrap (w2 f 2) = w2 f 2 := by have := HW2.out 2; rw [IntKind.wrap_u32']; omega
                have N0 : Hid (Calls Try.prog 13 #[.slice A n c, .int .i64 0, .int .i64 2] u12 fun e w' => e = .returned (.int .u32 (w2 f 0)) ∧ u12 = w') := Lib.hid (HNM.out 0 u12 (by omega) HRz.out)
                have N2 : Hid (Calls Try.prog 13 #[.slice A n c, .int .i64 2, .int .i64 2] u12 fun e w' => e = .returned (.int .u32 (w2 f 2)) ∧ u12 = w') := Lib.hid (HNM.out 2 u12 (by omega) HRz.out)
                go_wp2_with fail
                go_at_call 13
                refine N0.out.mono ?_
                rintro e w' ⟨rfl, rfl⟩
                go_wp2_with fail
                go_at_call 13
                refine N2.out.mono ?_
                rintro e w' ⟨rfl, rfl⟩
                go_wp2_with (first
                  | (go_at_call 6; refine (KN.out _).mono ?_; rintro e u13 ⟨rfl, hb13⟩))
                go_ret
                exact ⟨rfl, HXz.out.trans (hb13.mono HXz.out.size)⟩
set_option maxRecDepth 100000 in
set_option maxHeartbeats 1000000 in
theorem reads_long (v6 : Bool) (s d : Nat → Int) (A : Option Addr) (n c : Nat) (hn : n ≤ 9223372036854775807) (h : 1700 < n) (w : World) :
    Calls Try.prog 3 #[.bool v6, .agg (arr16 s), .agg (arr16 d), .slice A n c] w fun e w' => e = .returned (.bool true) ∧ Below w.heap.size w w' := by
  have KN := Lib.hid known_any
  have HB1 := Lib.hid (below_alloc2 w (.cells (arr16 s) 22) (.cells (arr16 d) 22))
  have a' : (1700 : Int) < (n : Int) := by omega
  go_enter Try.func3, Try.ntmps3
  go_wp2_with (first
    | (go_at_call 6; refine (KN.out _).mono ?_; rintro e w3 ⟨rfl, hb3⟩))
  go_ret
  exact ⟨rfl, HB1.out.trans (hb3.mono HB1.out.size)⟩
end Go.Proofs.Ytmcapemlicjfjaa
