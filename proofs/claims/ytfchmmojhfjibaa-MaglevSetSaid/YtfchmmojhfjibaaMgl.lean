/- Stage 19: MaglevTables. -/
import Derived.Test.YtfchmmojhfjibaaMgk
import Derived.Test.YtfchmmojhfjibaaMgh
namespace Go.Proofs.Ytfchmmojhfjibaa
set_option maxRecDepth 100000
open Go.RowKit Go.Shelf
theorem Try.infoWT : (Try.prog.info? 34).map (fun i => (i.zero, i.size, i.bytes)) = some (some (.agg #[.string ⟨#[]⟩, .int .i64 0]), 2, 24) := by kernel_rfl
theorem wf_one (l : List Wt) (k : Nat) : (wf l k).oneCell' = true := by
  unfold wf
  split <;> rfl
set_option maxHeartbeats 1000000 in
theorem mtabs_long (HP : MgP) (l : List Wt) (A : Option Addr) (c : Nat) (m : Int) (B : Option Addr) (p d : Nat) (n : Int) (w : World) (h : Lin w A c l) (hg : grW l m = true ∨ 700 < p) : Calls Try.prog 3 #[.slice A l.length c, .int .i64 m, .slice B p d, .int .i64 n] w (ret (.bool true) w) := by
  have HG := Lib.hid (great_any l A c m w h)
  have HK := Lib.hid fun W => mknown_any HP W
  have HB0 : Hid (Below w.heap.size w w) := Lib.hid (Below.refl _ _)
  cases hq : grW l m with
  | true =>
    rw [hq] at HG
    clear hg hq HP
    go_enter Try.func3, Try.ntmps3
    go_wp2_with (first
      | (go_at_call 6
         refine HG.out.mono ?_
         rintro e u1 ⟨rfl, hb⟩
         have HB1 := Lib.hid (HB0.out.trans hb)
         clear hb)
      | (go_at_call 7
         refine (HK.out _).mono ?_
         rintro e u2 ⟨rfl, hb⟩
         have HB2 := Lib.hid (HB1.out.trans (hb.mono HB1.out.size))
         clear hb))
    go_ret
    exact ⟨rfl, HB2.out⟩
  | false =>
    rw [hq] at HG hg
    have hp : (700 : Int) < (p : Int) := by
      rcases hg with h | h
      · cases h
      · omega
    clear hg hq HP
    go_enter Try.func3, Try.ntmps3
    go_wp2_with (first
      | (go_at_call 6
         refine HG.out.mono ?_
         rintro e u1 ⟨rfl, hb⟩
         have HB1 := Lib.hid (HB0.out.trans hb)
         clear hb)
      | (go_at_call 7
         refine (HK.out _).mono ?_
         rintro e u2 ⟨rfl, hb⟩
         have HB2 := Lib.hid (HB1.out.trans (hb.mono HB1.out.size))
         clear hb))
    go_ret
    exact ⟨rfl, HB2.out⟩
set_option maxHeartbeats 4000000 in
theorem mtabs_no (HP : MgP) (l : List Wt) (A : Option Addr) (c : Nat) (m : Int) (B : Option Addr) (p d : Nat) (t : Nat → Int) (n : Int) (w : World) (h : Lin w A c l) (hg : grW l m = false) (hp : p ≤ 700) (hpd : p ≤ d) (hd9 : d ≤ 9223372036854775807) (hr : RdC w w.heap.size B p (iV t)) (hM : mayW l m = false) : Calls Try.prog 3 #[.slice A l.length c, .int .i64 m, .slice B p d, .int .i64 n] w (ret (.bool true) w) := by
  have HG := Lib.hid (great_any l A c m w h)
  have HK := Lib.hid fun W => mknown_any HP W
  have HM := Lib.hid hM
  have hN : l.length ≤ 30 := by
    rcases Nat.lt_or_ge 30 l.length with q | q
    · have := grW_iff.2 (show bigW l m from .inr (.inl q))
      rw [hg] at this
      cases this
    · exact q
  rw [hg] at HG
  have HL := Lib.hid h
  have HRB := Lib.hid hr
  have d0 : ¬ (700 : Int) < (p : Int) := by omega
  have HOL : Hid ((ordL l).length ≤ 4611686018427387904) := Lib.hid (by have := ordN_len l l.length; unfold ordL; omega)
  have HSL : Hid (shL n ≤ 4611686018427387904) := Lib.hid (by unfold shL; split <;> omega)
  have et : tbN l m = 0 := by unfold tbN; rw [if_neg (by rw [hM]; decide)]
  have ee : tbE l m = 2 := by unfold tbE; rw [if_neg (by rw [hM]; decide)]
  have HPT : Hid (∀ (A : Option Addr) (c : Nat) (w : World), Lw w w.heap.size A c l → Calls Try.prog 15 #[.slice A l.length c, .int .i64 m] w fun e w' => ∃ A c, e = .returned (.tuple #[.slice A 0 c, .int .i64 2]) ∧ 0 ≤ c ∧ c ≤ 9223372036854775807 ∧ RdC w' w'.heap.size A 0 (iV (tabV l m.toNat)) ∧ Below w.heap.size w w') := Lib.hid fun A c w h => by
    refine (HP.table l A c m w h).mono ?_
    rintro e w' ⟨A2, c2, rfl, q1, q2, q3, q4⟩
    rw [et] at q1 q3
    rw [et, ee]
    exact ⟨A2, c2, rfl, q1, q2, q3, q4⟩
  obtain ⟨iw, hi0, hz0, hz1, hz2⟩ := info_parts Try.infoWT
  have HI0 := Lib.hid hi0
  have HZ0 := Lib.hid hz0
  have HZ1 := Lib.hid hz1
  have HZ2 := Lib.hid hz2
  obtain ⟨N, hNN⟩ : ∃ N, N = l.length := ⟨_, rfl⟩
  have HNN := Lib.hid hNN
  clear hi0 hz0 hz1 hz2 hg h hr hM et ee
  go_enter Try.func3, Try.ntmps3
  go_upto_region 3 with (first
    | (go_at_call 6
       refine HG.out.mono ?_
       rintro e u1 ⟨rfl, hb⟩
       have HB1 := Lib.hid hb
       clear hb))
  have HOF : Hid (OwnC (u1.alloc (.cells #[] 34)) u1.heap.size 34 2 (some ⟨u1.heap.size, 0, none⟩) 0 0 (wf l)) := Lib.hid (OwnC.fresh u1 _ _ rfl (Nat.le_refl _) _ _ _)
  have HRA : Hid (RdC (u1.alloc (.cells #[] 34)) (u1.alloc (.cells #[] 34)).heap.size A (l.length * 2) (wf l)) := Lib.hid ((((HL.out.rd.keep HB1.out).more HB1.out.size).keep (below_alloc u1 _)).more (alloc_le u1 _))
  go_upto_region 4 with (first
    | (at_builtin
       refine wpList_append_vals rfl (.tmp 21) (.tmp 22) 22 rfl u1.heap.size 34 iw (.agg #[.string ⟨#[]⟩, .int .i64 0]) 2 Try.underlying22 HI0.out HZ0.out HZ1.out rfl (by decide) rfl HOF.out rfl HRA.out (fun k _ => wf_one l k) (by unfold maxLen; omega) (by rw [HZ2.out]; omega) (alloc_le u1 _) ?_
       intro A5 c5 v hown5 hg5 _
       have HO5 : Hid (OwnC v u1.heap.size 34 2 A5 l.length c5 (wf l)) := Lib.hid (by
         rw [Nat.zero_add] at hown5
         exact hown5.same fun k _ => by unfold catV; rw [if_neg (by omega), Nat.zero_mul, Nat.sub_zero])
       have HB5 : Hid (Below w.heap.size w v) := Lib.hid (HB1.out.trans (((below_alloc u1 _).grown hg5 (alloc_le u1 _) fun k hk => HOF.out.at_ k hk).mono HB1.out.size))
       rw [Nat.zero_add]
       clear hown5 hg5))
  have HLW : Hid (∀ W, Below v.heap.size v W → Lw W W.heap.size A5 c5 l ∧ Lw W W.heap.size A c l ∧ RdC W W.heap.size B p (iV t)) := Lib.hid fun W hb =>
    ⟨⟨HO5.out.cap, Nat.le_trans HO5.out.cap_le (by unfold maxLen; omega), by omega, (HO5.out.rd.keep hb).more hb.size⟩,
     ⟨HL.out.cap, HL.out.top, by omega, (((HL.out.rd.keep HB5.out).more HB5.out.size).keep hb).more hb.size⟩,
     (((HRB.out.keep HB5.out).more HB5.out.size).keep hb).more hb.size⟩
  have HC1 := Lib.hid (HP.may l A5 c5 m v (HLW.out v (Below.refl _ _)).1)
  rw [HM.out] at HC1
  have HPO := Lib.hid fun (A : Option Addr) (c : Nat) (w : World) (h : Lw w w.heap.size A c l) => HP.order l A c w h hN
  have HPS := Lib.hid HP.shares
  clear HP HOF HRA HG HB1 HI0 HZ0 HZ1 HZ2
  go_wp2_with (first
    | (go_at_call 8
       with_reducible refine Calls.mono HC1.out ?_
       rintro e x1 ⟨rfl, hb⟩
       have HX1 := Lib.hid hb
       have HC2 := Lib.hid (rmmay_any l A c m x1 (HLW.out x1 HX1.out).2.1)
       rw [HM.out] at HC2
       clear hb)
    | (go_at_call 9
       with_reducible refine Calls.mono HC2.out ?_
       rintro e x2 ⟨rfl, hb⟩
       have HX2 := Lib.hid (HX1.out.trans (hb.mono HX1.out.size))
       have HC3 := Lib.hid (HPO.out A5 c5 x2 (HLW.out x2 HX2.out).1)
       clear hb)
    | (go_at_call 11
       with_reducible refine Calls.mono HC3.out ?_
       rintro e x3 ⟨B1, d1, rfl, _, _, hr, hb⟩
       have HX3 := Lib.hid (HX2.out.trans (hb.mono HX2.out.size))
       have HR3 := Lib.hid hr
       have HC4 := Lib.hid (rorder_out l A c x3 (HLW.out x3 HX3.out).2.1)
       clear hr
       clear hb)
    | (go_at_call 12
       with_reducible refine Calls.mono HC4.out ?_
       rintro e x4 ⟨B2, d2, rfl, _, _, hr, hb⟩
       have HX4 := Lib.hid (HX3.out.trans (hb.mono HX3.out.size))
       have HC5 := Lib.hid (eqI_any _ _ _ B1 B2 d1 d2 x4 HOL.out ((HR3.out.keep hb).more hb.size) hr fun _ _ => rfl)
       clear hr
       clear hb)
    | (go_at_call 10
       with_reducible refine Calls.mono HC5.out ?_
       rintro e x5 ⟨rfl, hb⟩
       have HX5 := Lib.hid (HX4.out.trans (hb.mono HX4.out.size))
       have HC6 := Lib.hid (HPS.out t B p d n x5 (HLW.out x5 HX5.out).2.2 (by omega) hpd hd9)
       clear hb)
    | (go_at_call 13
       with_reducible refine Calls.mono HC6.out ?_
       rintro e x6 ⟨B3, d3, rfl, _, _, hr, hb⟩
       have HX6 := Lib.hid (HX5.out.trans (hb.mono HX5.out.size))
       have HR6 := Lib.hid hr
       have HC7 := Lib.hid (rshares_any t B p d n x6 (HLW.out x6 HX6.out).2.2 (by omega))
       clear hr
       clear hb)
    | (go_at_call 14
       with_reducible refine Calls.mono HC7.out ?_
       rintro e x7 ⟨B4, d4, rfl, _, _, hr, hb⟩
       have HX7 := Lib.hid (HX6.out.trans (hb.mono HX6.out.size))
       have HC8 := Lib.hid (eqI_any _ _ _ B3 B4 d3 d4 x7 HSL.out ((HR6.out.keep hb).more hb.size) hr fun _ _ => rfl)
       clear hr
       clear hb)
    | (go_at_call 10
       with_reducible refine Calls.mono HC8.out ?_
       rintro e x8 ⟨rfl, hb⟩
       have HX8 := Lib.hid (HX7.out.trans (hb.mono HX7.out.size))
       have HC9 := Lib.hid (HPT.out A5 c5 x8 (HLW.out x8 HX8.out).1)
       clear hb)
    | (go_at_call 15
       with_reducible refine Calls.mono HC9.out ?_
       rintro e x9 ⟨B5, d5, rfl, _, _, hr, hb⟩
       have HX9 := Lib.hid (HX8.out.trans (hb.mono HX8.out.size))
       have HR9 := Lib.hid hr
       have HC10 := Lib.hid (eqW_any l A5 A c5 c x9 (HLW.out x9 HX9.out).1 (HLW.out x9 HX9.out).2.1)
       clear hr
       clear hb)
    | (go_at_call 16
       with_reducible refine Calls.mono HC10.out ?_
       rintro e x10 ⟨rfl, hb⟩
       have HX10 := Lib.hid (HX9.out.trans (hb.mono HX9.out.size))
       have HC11 := Lib.hid (rmmay_any l A c m x10 (HLW.out x10 HX10.out).2.1)
       rw [HM.out] at HC11
       clear hb)
    | (go_at_call 9
       with_reducible refine Calls.mono HC11.out ?_
       rintro e x11 ⟨rfl, hb⟩
       have HX11 := Lib.hid (HX10.out.trans (hb.mono HX10.out.size))
       have HC12 := Lib.hid (HK.out x11)
       clear hb)
    | (go_at_call 7
       with_reducible refine Calls.mono HC12.out ?_
       rintro e x12 ⟨rfl, hb⟩
       have HX12 := Lib.hid (HX11.out.trans (hb.mono HX11.out.size))
       clear hb))
  go_ret
  exact ⟨rfl, HB5.out.trans (HX12.out.mono HB5.out.size)⟩
set_option maxHeartbeats 4000000 in
theorem mtabs_yes (HP : MgP) (l : List Wt) (A : Option Addr) (c : Nat) (m : Int) (B : Option Addr) (p d : Nat) (t : Nat → Int) (n : Int) (w : World) (h : Lin w A c l) (hg : grW l m = false) (hp : p ≤ 700) (hpd : p ≤ d) (hd9 : d ≤ 9223372036854775807) (hr : RdC w w.heap.size B p (iV t)) (hM : mayW l m = true) : Calls Try.prog 3 #[.slice A l.length c, .int .i64 m, .slice B p d, .int .i64 n] w (ret (.bool true) w) := by
  have HG := Lib.hid (great_any l A c m w h)
  have HK := Lib.hid fun W => mknown_any HP W
  have HM := Lib.hid hM
  have hN : l.length ≤ 30 := by
    rcases Nat.lt_or_ge 30 l.length with q | q
    · have := grW_iff.2 (show bigW l m from .inr (.inl q))
      rw [hg] at this
      cases this
    · exact q
  rw [hg] at HG
  have HL := Lib.hid h
  have HRB := Lib.hid hr
  have d0 : ¬ (700 : Int) < (p : Int) := by omega
  have HOL : Hid ((ordL l).length ≤ 4611686018427387904) := Lib.hid (by have := ordN_len l l.length; unfold ordL; omega)
  have HSL : Hid (shL n ≤ 4611686018427387904) := Lib.hid (by unfold shL; split <;> omega)
  have HOK := Lib.hid (mayW_iff.1 hM)
  have hM0 : 0 ≤ m := by
    have := HOK.out.sz
    unfold szP at this
    simp only [Bool.and_eq_true, decide_eq_true_eq] at this
    omega
  obtain ⟨M, rfl⟩ := Int.eq_ofNat_of_zero_le hM0
  have HRT := Lib.hid fun (W : World) (h : Lw W W.heap.size A c l) => rtable_any l M HOK.out A c W h
  have et : tbN l (M : Int) = M := by unfold tbN; rw [if_pos hM]; rfl
  have ee : tbE l (M : Int) = 0 := by unfold tbE; rw [if_pos hM]
  have hm9 : M ≤ 65537 := (szP_le HOK.out.sz).2.1
  have HPT : Hid (∀ (A : Option Addr) (c : Nat) (w : World), Lw w w.heap.size A c l → Calls Try.prog 15 #[.slice A l.length c, .int .i64 (M : Int)] w fun e w' => ∃ A c, e = .returned (.tuple #[.slice A M c, .int .i64 0]) ∧ M ≤ c ∧ c ≤ 9223372036854775807 ∧ RdC w' w'.heap.size A M (iV (tabV l M)) ∧ Below w.heap.size w w') := Lib.hid fun A c w h => by
    refine (HP.table l A c (M : Int) w h).mono ?_
    rintro e w' ⟨A2, c2, rfl, q1, q2, q3, q4⟩
    rw [et] at q1 q3
    rw [et, ee]
    exact ⟨A2, c2, rfl, q1, q2, q3, q4⟩
  obtain ⟨iw, hi0, hz0, hz1, hz2⟩ := info_parts Try.infoWT
  have HI0 := Lib.hid hi0
  have HZ0 := Lib.hid hz0
  have HZ1 := Lib.hid hz1
  have HZ2 := Lib.hid hz2
  obtain ⟨N, hNN⟩ : ∃ N, N = l.length := ⟨_, rfl⟩
  have HNN := Lib.hid hNN
  clear hi0 hz0 hz1 hz2 hg h hr hM et ee
  go_enter Try.func3, Try.ntmps3
  go_upto_region 3 with (first
    | (go_at_call 6
       refine HG.out.mono ?_
       rintro e u1 ⟨rfl, hb⟩
       have HB1 := Lib.hid hb
       clear hb))
  have HOF : Hid (OwnC (u1.alloc (.cells #[] 34)) u1.heap.size 34 2 (some ⟨u1.heap.size, 0, none⟩) 0 0 (wf l)) := Lib.hid (OwnC.fresh u1 _ _ rfl (Nat.le_refl _) _ _ _)
  have HRA : Hid (RdC (u1.alloc (.cells #[] 34)) (u1.alloc (.cells #[] 34)).heap.size A (l.length * 2) (wf l)) := Lib.hid ((((HL.out.rd.keep HB1.out).more HB1.out.size).keep (below_alloc u1 _)).more (alloc_le u1 _))
  go_upto_region 4 with (first
    | (at_builtin
       refine wpList_append_vals rfl (.tmp 21) (.tmp 22) 22 rfl u1.heap.size 34 iw (.agg #[.string ⟨#[]⟩, .int .i64 0]) 2 Try.underlying22 HI0.out HZ0.out HZ1.out rfl (by decide) rfl HOF.out rfl HRA.out (fun k _ => wf_one l k) (by unfold maxLen; omega) (by rw [HZ2.out]; omega) (alloc_le u1 _) ?_
       intro A5 c5 v hown5 hg5 _
       have HO5 : Hid (OwnC v u1.heap.size 34 2 A5 l.length c5 (wf l)) := Lib.hid (by
         rw [Nat.zero_add] at hown5
         exact hown5.same fun k _ => by unfold catV; rw [if_neg (by omega), Nat.zero_mul, Nat.sub_zero])
       have HB5 : Hid (Below w.heap.size w v) := Lib.hid (HB1.out.trans (((below_alloc u1 _).grown hg5 (alloc_le u1 _) fun k hk => HOF.out.at_ k hk).mono HB1.out.size))
       rw [Nat.zero_add]
       clear hown5 hg5))
  have HLW : Hid (∀ W, Below v.heap.size v W → Lw W W.heap.size A5 c5 l ∧ Lw W W.heap.size A c l ∧ RdC W W.heap.size B p (iV t)) := Lib.hid fun W hb =>
    ⟨⟨HO5.out.cap, Nat.le_trans HO5.out.cap_le (by unfold maxLen; omega), by omega, (HO5.out.rd.keep hb).more hb.size⟩,
     ⟨HL.out.cap, HL.out.top, by omega, (((HL.out.rd.keep HB5.out).more HB5.out.size).keep hb).more hb.size⟩,
     (((HRB.out.keep HB5.out).more HB5.out.size).keep hb).more hb.size⟩
  have HC1 := Lib.hid (HP.may l A5 c5 (M : Int) v (HLW.out v (Below.refl _ _)).1)
  rw [HM.out] at HC1
  have HPO := Lib.hid fun (A : Option Addr) (c : Nat) (w : World) (h : Lw w w.heap.size A c l) => HP.order l A c w h hN
  have HPS := Lib.hid HP.shares
  clear HP HOF HRA HG HB1 HI0 HZ0 HZ1 HZ2
  go_wp2_with (first
    | (go_at_call 8
       with_reducible refine Calls.mono HC1.out ?_
       rintro e x1 ⟨rfl, hb⟩
       have HX1 := Lib.hid hb
       have HC2 := Lib.hid (rmmay_any l A c (M : Int) x1 (HLW.out x1 HX1.out).2.1)
       rw [HM.out] at HC2
       clear hb)
    | (go_at_call 9
       with_reducible refine Calls.mono HC2.out ?_
       rintro e x2 ⟨rfl, hb⟩
       have HX2 := Lib.hid (HX1.out.trans (hb.mono HX1.out.size))
       have HC3 := Lib.hid (HPO.out A5 c5 x2 (HLW.out x2 HX2.out).1)
       clear hb)
    | (go_at_call 11
       with_reducible refine Calls.mono HC3.out ?_
       rintro e x3 ⟨B1, d1, rfl, _, _, hr, hb⟩
       have HX3 := Lib.hid (HX2.out.trans (hb.mono HX2.out.size))
       have HR3 := Lib.hid hr
       have HC4 := Lib.hid (rorder_out l A c x3 (HLW.out x3 HX3.out).2.1)
       clear hr
       clear hb)
    | (go_at_call 12
       with_reducible refine Calls.mono HC4.out ?_
       rintro e x4 ⟨B2, d2, rfl, _, _, hr, hb⟩
       have HX4 := Lib.hid (HX3.out.trans (hb.mono HX3.out.size))
       have HC5 := Lib.hid (eqI_any _ _ _ B1 B2 d1 d2 x4 HOL.out ((HR3.out.keep hb).more hb.size) hr fun _ _ => rfl)
       clear hr
       clear hb)
    | (go_at_call 10
       with_reducible refine Calls.mono HC5.out ?_
       rintro e x5 ⟨rfl, hb⟩
       have HX5 := Lib.hid (HX4.out.trans (hb.mono HX4.out.size))
       have HC6 := Lib.hid (HPS.out t B p d n x5 (HLW.out x5 HX5.out).2.2 (by omega) hpd hd9)
       clear hb)
    | (go_at_call 13
       with_reducible refine Calls.mono HC6.out ?_
       rintro e x6 ⟨B3, d3, rfl, _, _, hr, hb⟩
       have HX6 := Lib.hid (HX5.out.trans (hb.mono HX5.out.size))
       have HR6 := Lib.hid hr
       have HC7 := Lib.hid (rshares_any t B p d n x6 (HLW.out x6 HX6.out).2.2 (by omega))
       clear hr
       clear hb)
    | (go_at_call 14
       with_reducible refine Calls.mono HC7.out ?_
       rintro e x7 ⟨B4, d4, rfl, _, _, hr, hb⟩
       have HX7 := Lib.hid (HX6.out.trans (hb.mono HX6.out.size))
       have HC8 := Lib.hid (eqI_any _ _ _ B3 B4 d3 d4 x7 HSL.out ((HR6.out.keep hb).more hb.size) hr fun _ _ => rfl)
       clear hr
       clear hb)
    | (go_at_call 10
       with_reducible refine Calls.mono HC8.out ?_
       rintro e x8 ⟨rfl, hb⟩
       have HX8 := Lib.hid (HX7.out.trans (hb.mono HX7.out.size))
       have HC9 := Lib.hid (HPT.out A5 c5 x8 (HLW.out x8 HX8.out).1)
       clear hb)
    | (go_at_call 15
       with_reducible refine Calls.mono HC9.out ?_
       rintro e x9 ⟨B5, d5, rfl, _, _, hr, hb⟩
       have HX9 := Lib.hid (HX8.out.trans (hb.mono HX8.out.size))
       have HR9 := Lib.hid hr
       have HT9 := Lib.hid hr
       have HC10 := Lib.hid (eqW_any l A5 A c5 c x9 (HLW.out x9 HX9.out).1 (HLW.out x9 HX9.out).2.1)
       clear hr
       clear hb)
    | (go_at_call 16
       with_reducible refine Calls.mono HC10.out ?_
       rintro e x10 ⟨rfl, hb⟩
       have HX10 := Lib.hid (HX9.out.trans (hb.mono HX9.out.size))
       have HD9 := Lib.hid hb
       have HC11 := Lib.hid (rmmay_any l A c (M : Int) x10 (HLW.out x10 HX10.out).2.1)
       rw [HM.out] at HC11
       clear hb)
    | (go_at_call 9
       with_reducible refine Calls.mono HC11.out ?_
       rintro e x11 ⟨rfl, hb⟩
       have HX11 := Lib.hid (HX10.out.trans (hb.mono HX10.out.size))
       have HD10 := Lib.hid (HD9.out.trans (hb.mono HD9.out.size))
       have HC12 := Lib.hid (HRT.out x11 (HLW.out x11 HX11.out).2.1)
       clear hb)
    | (go_at_call 17
       with_reducible refine Calls.mono HC12.out ?_
       rintro e x12 ⟨B6, d6, rfl, _, _, hr, hb⟩
       have HX12 := Lib.hid (HX11.out.trans (hb.mono HX11.out.size))
       have HC13 := Lib.hid (eqI_any _ _ M B5 B6 d5 d6 x12 (by omega) ((((HT9.out.keep HD10.out).more HD10.out.size).keep hb).more hb.size) hr fun _ _ => rfl)
       clear hr
       clear hb)
    | (go_at_call 10
       with_reducible refine Calls.mono HC13.out ?_
       rintro e x13 ⟨rfl, hb⟩
       have HX13 := Lib.hid (HX12.out.trans (hb.mono HX12.out.size))
       have HC14 := Lib.hid (HK.out x13)
       clear hb)
    | (go_at_call 7
       with_reducible refine Calls.mono HC14.out ?_
       rintro e x14 ⟨rfl, hb⟩
       have HX14 := Lib.hid (HX13.out.trans (hb.mono HX13.out.size))
       clear hb))
  go_ret
  exact ⟨rfl, HB5.out.trans (HX14.out.mono HB5.out.size)⟩
end Go.Proofs.Ytfchmmojhfjibaa
