/- Stage 17: known, PrimeTells. -/
import Derived.Test.YtkifcolaboalgaaPmn
import Derived.Test.YtkifcolaboalgaaPmi
import Derived.Test.YtkifcolaboalgaaBytes
import Derived.Sort.QuietThIn
import Derived.RangeFuncCalls
namespace Go.Proofs.Ytkifcolaboalgaa
set_option maxRecDepth 100000
open Go.RowKit Go.Shelf
theorem no_div_65537 : ∀ k : Fin 257, 2 ≤ k.val → 65537 % k.val ≠ 0 := by decide +kernel
theorem ld_65537 : ld 65537 = 65537 := ld_sq (by decide) fun k h2 hk => by
  have hk9 : k < 257 := by
    rcases Nat.lt_or_ge k 257 with q | q
    · exact q
    · have := Nat.mul_le_mul q q
      omega
  exact no_div_65537 ⟨k, hk9⟩ h2
theorem ld_of {n d : Nat} (hn : 2 ≤ n) (h2 : 2 ≤ d) (hd : n % d = 0) (hl : ∀ k : Fin d, 2 ≤ k.val → n % k.val ≠ 0) : ld n = d := ld_is hn ⟨h2, hd, fun k hk hkd => hl ⟨k, hkd⟩ hk⟩
theorem szP_no {x : Nat} (h : ld x ≠ x) : szP x = false := by
  cases hs : szP x with
  | false => rfl
  | true => exact absurd (szP_le hs).2.2 h
theorem isP_no {x : Nat} (h : ld x ≠ x) : isP x = false := by
  unfold isP
  rw [Int.toNat_natCast, decide_eq_false h, Bool.and_false, Bool.and_false]
theorem isP_yes {x : Nat} (h2 : 2 ≤ x) (h9 : x ≤ 1048576) (h : ld x = x) : isP x = true := by
  unfold isP
  rw [Int.toNat_natCast, decide_eq_true h, decide_eq_true (show (2 : Int) ≤ (x : Int) by omega), decide_eq_true (show (x : Int) ≤ 1048576 by omega)]
  rfl
theorem nx_8 : nxV 8 = (11, 0) := by
  refine nx_some ⟨szP_of (x := 11) (by decide) (by decide) (ld_of (by decide) (by decide) (by decide) (by decide)), by decide, fun y hy hyx => ?_⟩
  rcases (show y = 8 ∨ y = 9 ∨ y = 10 by omega) with rfl | rfl | rfl
  · exact szP_no (by rw [ld_of (n := 8) (d := 2) (by decide) (by decide) (by decide) (by decide)]; decide)
  · exact szP_no (by rw [ld_of (n := 9) (d := 3) (by decide) (by decide) (by decide) (by decide)]; decide)
  · exact szP_no (by rw [ld_of (n := 10) (d := 2) (by decide) (by decide) (by decide) (by decide)]; decide)
theorem nx_65538 : nxV 65538 = (0, 15) := nx_none fun x hx => by
  have := szP_le hx.1
  have := hx.2.1
  omega
theorem lst_91 : lst 91 = 7 := by
  unfold lst
  rw [if_pos (by decide)]
  exact ld_of (n := 91) (by decide) (by decide) (by decide) (by decide)
set_option maxHeartbeats 2000000 in
theorem mknown_any (HP : PmP) (w : World) : Calls Try.prog 13 #[] w (ret (.bool true) w) := by
  have H1 : Hid (∀ W : World, Calls Try.prog 6 #[.int .i64 8] W (ret (.tuple #[.int .i64 11, .int .i64 0]) W)) := Lib.hid fun W => by
    have := HP.next 8 W
    rw [nx_8] at this
    exact this
  have H2 : Hid (∀ W : World, Calls Try.prog 6 #[.int .i64 65538] W (ret (.tuple #[.int .i64 0, .int .i64 15]) W)) := Lib.hid fun W => by
    have := HP.next 65538 W
    rw [nx_65538] at this
    exact this
  have H3 : Hid (∀ W : World, Calls Try.prog 9 #[.int .i64 65537] W (ret (.bool true) W)) := Lib.hid fun W => by
    have := HP.is_ 65537 W
    rwa [show isP 65537 = true from isP_yes (x := 65537) (by decide) (by decide) ld_65537] at this
  have H4 : Hid (∀ W : World, Calls Try.prog 9 #[.int .i64 65535] W (ret (.bool false) W)) := Lib.hid fun W => by
    have := HP.is_ 65535 W
    rwa [show isP 65535 = false from isP_no (x := 65535) (by rw [ld_of (n := 65535) (d := 3) (by decide) (by decide) (by decide) (by decide)]; decide)] at this
  have H5 : Hid (∀ W : World, Calls Try.prog 9 #[.int .i64 1] W (ret (.bool false) W)) := Lib.hid fun W => by
    have := HP.is_ 1 W
    rwa [show isP 1 = false from by unfold isP; rw [decide_eq_false (by decide), Bool.false_and]] at this
  have H6 : Hid (∀ W : World, Calls Try.prog 12 #[.int .i64 91] W (ret (.int .i64 7) W)) := Lib.hid fun W => by
    have := HP.least 91 W
    rw [lst_91] at this
    exact this
  clear HP
  go_enter Try.func13, Try.ntmps13
  go_upto_region 2 with (first
    | (go_at_call 6
       refine (H1.out _).mono ?_
       rintro e u1 ⟨rfl, hb⟩
       have HB1 := Lib.hid hb
       clear hb))
  go_upto_region 3 with (first
    | (go_at_call 6
       refine (H2.out _).mono ?_
       rintro e u2 ⟨rfl, hb⟩
       have HB2 := Lib.hid (HB1.out.trans (hb.mono HB1.out.size))
       clear hb))
  go_wp2_with (first
    | (go_at_call 9
       with_reducible refine (H3.out _).mono ?_
       rintro e ux0 ⟨rfl, hb⟩
       have HBx0 := Lib.hid (HB2.out.trans (hb.mono HB2.out.size))
       clear hb)
    | (go_at_call 9
       with_reducible refine (H4.out _).mono ?_
       rintro e ux1 ⟨rfl, hb⟩
       have HBx1 := Lib.hid (HBx0.out.trans (hb.mono HBx0.out.size))
       clear hb)
    | (go_at_call 9
       with_reducible refine (H5.out _).mono ?_
       rintro e ux2 ⟨rfl, hb⟩
       have HBx2 := Lib.hid (HBx1.out.trans (hb.mono HBx1.out.size))
       clear hb)
    | (go_at_call 12
       with_reducible refine (H6.out _).mono ?_
       rintro e ux3 ⟨rfl, hb⟩
       have HBx3 := Lib.hid (HBx2.out.trans (hb.mono HBx2.out.size))
       clear hb))
  go_ret
  exact ⟨rfl, HBx3.out⟩
set_option maxHeartbeats 4000000 in
theorem mtells_any (HP : PmP) (n : Int) (w : World) : Calls Try.prog 3 #[.int .i64 n] w (ret (.bool true) w) := by
  have HK := Lib.hid fun W => mknown_any HP W
  have H1 := Lib.hid fun W => HP.next n W
  have H2 := Lib.hid fun W => rnext_any n W
  have H3 := Lib.hid fun W => rleast_any n W
  have H4 := Lib.hid fun W => HP.is_ n W
  have H5 := Lib.hid fun W => HP.size n W
  have H6 := Lib.hid fun W => rsize_any n W
  have H7 := Lib.hid fun W => HP.least n W
  have HI : Hid (isP n = (decide (0 < lst n) && decide ((lst n : Int) = n))) := Lib.hid (by
    unfold isP lst
    by_cases h : 2 ≤ n ∧ n ≤ 1048576
    · rw [if_pos h, decide_eq_true h.1, decide_eq_true h.2, Bool.true_and, Bool.true_and]
      have := (ld_at (show 2 ≤ n.toNat by omega)).two
      rw [decide_eq_true (show 0 < ld n.toNat by omega), Bool.true_and, Bool.eq_iff_iff, decide_eq_true_eq, decide_eq_true_eq]
      omega
    · rw [if_neg h, decide_eq_false (show ¬ 0 < 0 by omega), Bool.false_and]
      rcases (show ¬ 2 ≤ n ∨ ¬ n ≤ 1048576 by omega) with q | q
      · rw [decide_eq_false q, Bool.false_and]
      · rw [decide_eq_false q, Bool.false_and, Bool.and_false])
  obtain ⟨x, hx⟩ : ∃ x, x = (nxV n).1 := ⟨_, rfl⟩
  obtain ⟨y, hy⟩ : ∃ x, x = (nxV n).2 := ⟨_, rfl⟩
  obtain ⟨l, hl⟩ : ∃ x, x = lst n := ⟨_, rfl⟩
  obtain ⟨i, hi⟩ : ∃ x, x = isP n := ⟨_, rfl⟩
  obtain ⟨z, hz⟩ : ∃ x, x = szP n := ⟨_, rfl⟩
  rw [← hx, ← hy] at H1 H2
  rw [← hl] at H3 H7 HI
  rw [← hi] at H4 HI
  rw [← hz] at H5 H6
  have e1 : ((x : Int) == (x : Int)) = true := by simp
  have e2 : (y == y) = true := by simp
  have e3 : ((l : Int) == (l : Int)) = true := by simp
  have e4 : (z == z) = true := by simp
  clear HP hx hy hl hi hz
  go_enter Try.func3, Try.ntmps3
  go_upto_region 4 with (first
    | (go_at_call 6
       refine (H1.out _).mono ?_
       rintro e u1 ⟨rfl, hb⟩
       have HB1 := Lib.hid hb
       clear hb)
    | (go_at_call 7
       refine (H2.out _).mono ?_
       rintro e u2 ⟨rfl, hb⟩
       have HB2 := Lib.hid (HB1.out.trans (hb.mono HB1.out.size))
       clear hb)
    | (go_at_call 8
       refine (H3.out _).mono ?_
       rintro e u3 ⟨rfl, hb⟩
       have HB3 := Lib.hid (HB2.out.trans (hb.mono HB2.out.size))
       clear hb))
  by_cases l0 : 0 < l
  · have q0 : (0 : Int) < (l : Int) := by omega
    cases e5 : ((l : Int) == n) with
    | true =>
      obtain rfl : i = true := by
        rw [HI.out, decide_eq_true l0, decide_eq_true (by simpa using e5)]
        rfl
      clear l0
      go_wp2_with (first
        | (go_at_call 9
           with_reducible refine (H4.out _).mono ?_
           rintro e ux0 ⟨rfl, hb⟩
           have HBx0 := Lib.hid (HB3.out.trans (hb.mono HB3.out.size))
           clear hb)
        | (go_at_call 10
           with_reducible refine (H5.out _).mono ?_
           rintro e ux1 ⟨rfl, hb⟩
           have HBx1 := Lib.hid (HBx0.out.trans (hb.mono HBx0.out.size))
           clear hb)
        | (go_at_call 11
           with_reducible refine (H6.out _).mono ?_
           rintro e ux2 ⟨rfl, hb⟩
           have HBx2 := Lib.hid (HBx1.out.trans (hb.mono HBx1.out.size))
           clear hb)
        | (go_at_call 12
           with_reducible refine (H7.out _).mono ?_
           rintro e ux3 ⟨rfl, hb⟩
           have HBx3 := Lib.hid (HBx2.out.trans (hb.mono HBx2.out.size))
           clear hb)
        | (go_at_call 13
           with_reducible refine (HK.out _).mono ?_
           rintro e ux4 ⟨rfl, hb⟩
           have HBx4 := Lib.hid (HBx3.out.trans (hb.mono HBx3.out.size))
           clear hb))
      go_ret
      exact ⟨rfl, HBx4.out⟩
    | false =>
      obtain rfl : i = false := by
        rw [HI.out, decide_eq_true l0, decide_eq_false (by simpa using e5)]
        rfl
      clear l0
      go_wp2_with (first
        | (go_at_call 9
           with_reducible refine (H4.out _).mono ?_
           rintro e ux0 ⟨rfl, hb⟩
           have HBx0 := Lib.hid (HB3.out.trans (hb.mono HB3.out.size))
           clear hb)
        | (go_at_call 10
           with_reducible refine (H5.out _).mono ?_
           rintro e ux1 ⟨rfl, hb⟩
           have HBx1 := Lib.hid (HBx0.out.trans (hb.mono HBx0.out.size))
           clear hb)
        | (go_at_call 11
           with_reducible refine (H6.out _).mono ?_
           rintro e ux2 ⟨rfl, hb⟩
           have HBx2 := Lib.hid (HBx1.out.trans (hb.mono HBx1.out.size))
           clear hb)
        | (go_at_call 12
           with_reducible refine (H7.out _).mono ?_
           rintro e ux3 ⟨rfl, hb⟩
           have HBx3 := Lib.hid (HBx2.out.trans (hb.mono HBx2.out.size))
           clear hb)
        | (go_at_call 13
           with_reducible refine (HK.out _).mono ?_
           rintro e ux4 ⟨rfl, hb⟩
           have HBx4 := Lib.hid (HBx3.out.trans (hb.mono HBx3.out.size))
           clear hb))
      go_ret
      exact ⟨rfl, HBx4.out⟩
  · have q0 : ¬ (0 : Int) < (l : Int) := by omega
    obtain rfl : i = false := by
      rw [HI.out, decide_eq_false l0, Bool.false_and]
    clear l0
    go_wp2_with (first
      | (go_at_call 9
         with_reducible refine (H4.out _).mono ?_
         rintro e ux0 ⟨rfl, hb⟩
         have HBx0 := Lib.hid (HB3.out.trans (hb.mono HB3.out.size))
         clear hb)
      | (go_at_call 10
         with_reducible refine (H5.out _).mono ?_
         rintro e ux1 ⟨rfl, hb⟩
         have HBx1 := Lib.hid (HBx0.out.trans (hb.mono HBx0.out.size))
         clear hb)
      | (go_at_call 11
         with_reducible refine (H6.out _).mono ?_
         rintro e ux2 ⟨rfl, hb⟩
         have HBx2 := Lib.hid (HBx1.out.trans (hb.mono HBx1.out.size))
         clear hb)
      | (go_at_call 12
         with_reducible refine (H7.out _).mono ?_
         rintro e ux3 ⟨rfl, hb⟩
         have HBx3 := Lib.hid (HBx2.out.trans (hb.mono HBx2.out.size))
         clear hb)
      | (go_at_call 13
         with_reducible refine (HK.out _).mono ?_
         rintro e ux4 ⟨rfl, hb⟩
         have HBx4 := Lib.hid (HBx3.out.trans (hb.mono HBx3.out.size))
         clear hb))
    go_ret
    exact ⟨rfl, HBx4.out⟩
end Go.Proofs.Ytkifcolaboalgaa
