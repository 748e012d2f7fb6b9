/- Stage 18: PermTells. -/
import Derived.Test.YtdeghjhlbhpopaaPqg
import Derived.Test.YtdeghjhlbhpopaaPqe
namespace Go.Proofs.Ytdeghjhlbhpopaa
set_option maxRecDepth 100000
open Go.RowKit Go.Shelf
theorem step_get {W W' : World} {q : Nat} {o : Obj} (h : W.heap[q]? = some o) (hb : Below W.heap.size W W') : W'.heap[q]? = some o := (hb.block q (lt_heap h)).trans h
theorem peV_cells (n : Nat) (f : Nat → Int) (m : Int) : ∃ a b c : Int, peV n f m = #[.int .i64 a, .int .i64 b, .int .i64 c] := by
  unfold peV
  split
  · exact ⟨_, _, _, rfl⟩
  · exact ⟨_, _, _, rfl⟩
set_option maxHeartbeats 4000000 in
theorem qtells_any {g : Nat} (HP : PeP g) (n : Nat) (f : Nat → Int) (hf : Byt f) (hn : n ≤ 4611686018427387904) (m : Int) (p : Pe) (i s : Int) (hi0 : -9223372036854775808 ≤ i) (hi9 : i ≤ 9223372036854775807) (w : World) : Calls Try.prog 3 #[.string (strOfNums (nums n f)), .int .i64 m, .agg #[.int .i64 p.o, .int .i64 p.k, .int .i64 p.m], .int .i64 i, .int .i64 s] w (ret (.bool true) w) := by
  have HK := Lib.hid fun W => qknown_any HP W
  have HOF := Lib.hid fun W => HP.of n f hf hn m W
  have HRO := Lib.hid fun W => rof_any n f hf hn m W
  have HMY : Hid (∀ W : World, Calls Try.prog 8 #[.agg #[.int .i64 p.o, .int .i64 p.k, .int .i64 p.m]] W (ret (.bool p.may) W)) := Lib.hid fun W => HP.may p W
  have HRM := Lib.hid fun W => rpmay_any p W
  have HRS := Lib.hid fun W => rslots_list p W
  have HLL := Lib.hid (list_le p)
  have HAL : Hid (∀ W : World, Calls Try.prog 11 #[.agg #[.int .i64 p.o, .int .i64 p.k, .int .i64 p.m], .int .i64 (p.list.length : Int)] W fun e w' => ∃ A c, e = .returned (.tuple #[.slice A p.list.length c, .bool true]) ∧ OwnC w' W.heap.size 3 1 A p.list.length c (nQ p.list) ∧ Below W.heap.size W w') := Lib.hid fun W => by
    refine (pall_any HP p (p.list.length : Int) W HLL.out.1).mono ?_
    rintro e w' ⟨l, A, c, hl, rfl, hr, hb⟩
    rw [Int.toNat_natCast, List.take_of_length_le (by omega)] at hl
    subst hl
    exact ⟨A, c, rfl, hr.1, hb⟩
  have HAT : Hid (∀ W : World, Calls Try.prog 12 #[.agg #[.int .i64 p.o, .int .i64 p.k, .int .i64 p.m], .int .i64 i] W (ret (.int .i64 (atJ p.list i p.list.length)) W)) := Lib.hid fun W => by
    rw [atJ_end]
    exact HP.at_ p i W
  have HWH : Hid (∀ W : World, Calls Try.prog 13 #[.agg #[.int .i64 p.o, .int .i64 p.k, .int .i64 p.m], .int .i64 s] W (ret (.int .i64 (whJ p.list s p.list.length)) W)) := Lib.hid fun W => by
    rw [whJ_end]
    exact HP.wh p s W
  obtain ⟨L, hL⟩ : ∃ L, L = p.list := ⟨_, rfl⟩
  obtain ⟨N, hN⟩ : ∃ N, N = L.length := ⟨_, rfl⟩
  rw [← hL] at HRS HLL HAL HAT HWH
  rw [← hN] at HRS HLL HAL HAT HWH
  obtain ⟨S, hS⟩ : ∃ S, S = strOfNums (nums n f) := ⟨_, rfl⟩
  have hz : S.size = n := by rw [hS, strOfNums_size, nums_len]
  rw [← hS] at HOF HRO ⊢
  obtain ⟨xa, xb, xc, hx⟩ := peV_cells n f m
  obtain ⟨xe, hxe⟩ : ∃ x, x = peE m := ⟨_, rfl⟩
  obtain ⟨my, hmy⟩ : ∃ x, x = p.may := ⟨_, rfl⟩
  rw [hx, ← hxe] at HOF HRO
  rw [← hmy] at HMY HRM
  have q1 : (xe == xe) = true := by simp
  have q2 : (my == my) = true := by simp
  have q3 : (xa == xa) = true := by simp
  have q4 : (xb == xb) = true := by simp
  have q5 : (xc == xc) = true := by simp
  have q6 : ((N : Int) == (N : Int)) = true := by simp
  have HNL := Lib.hid hN
  clear hN hL hS hx hxe hmy HP
  have HM0 : Hid ((w.alloc (.cells #[.int .i64 p.o, .int .i64 p.k, .int .i64 p.m] 23)).heap[w.heap.size]? = some (.cells #[.int .i64 p.o, .int .i64 p.k, .int .i64 p.m] 23 (0, 0))) := Lib.hid (heap_alloc_new w _)
  have HB0 : Hid (Below w.heap.size w (w.alloc (.cells #[.int .i64 p.o, .int .i64 p.k, .int .i64 p.m] 23))) := Lib.hid (below_alloc w _)
  go_enter Try.func3, Try.ntmps3
  go_upto_region 1 with fail
  change Code.wp _ _ _ _ (w.alloc (.cells #[.int .i64 p.o, .int .i64 p.k, .int .i64 p.m] 23))
  generalize w.alloc (.cells #[.int .i64 p.o, .int .i64 p.k, .int .i64 p.m] 23) = u0 at *
  obtain ⟨b0, hb0⟩ : ∃ q, q = w.heap.size := ⟨_, rfl⟩
  have HB0' := HB0
  rw [← hb0] at HM0 ⊢
  clear hb0
  by_cases hn2 : 200 < n
  · have l1 : (200 : Int) < (n : Int) := by omega
    go_wp2_with (first
      | (go_at_call 5
         refine (HK.out _).mono ?_
         rintro e u1 ⟨rfl, hb⟩
         have HB1 := Lib.hid (HB0.out.trans (hb.mono HB0.out.size))
         clear hb))
    go_ret
    exact ⟨rfl, HB1.out⟩
  have l1 : ¬ (200 : Int) < (n : Int) := by omega
  go_upto_region 4 with (first
    | (go_at_call 6
       refine (HOF.out _).mono ?_
       rintro e u1 ⟨rfl, hb⟩
       have HB1 := Lib.hid (HB0.out.trans (hb.mono HB0.out.size))
       have HM1 := Lib.hid (step_get HM0.out hb)
       have hz1 := heap_alloc_new u1 (.cells #[.int .i64 0, .int .i64 0, .int .i64 0] 23)
       clear hb))
  change Code.wp _ _ _ _ (u1.alloc (.cells #[.int .i64 xa, .int .i64 xb, .int .i64 xc] 23))
  have hm1 := step_get HM1.out (below_alloc u1 (.cells #[.int .i64 xa, .int .i64 xb, .int .i64 xc] 23))
  have hx1 := heap_alloc_new u1 (.cells #[.int .i64 xa, .int .i64 xb, .int .i64 xc] 23)
  have HB2 := Lib.hid (HB1.out.trans ((below_alloc u1 (.cells #[.int .i64 xa, .int .i64 xb, .int .i64 xc] 23)).mono HB1.out.size))
  have HMx := Lib.hid hm1
  clear hz1 hm1
  have HX1 := Lib.hid hx1
  clear hx1
  generalize u1.alloc (.cells #[.int .i64 xa, .int .i64 xb, .int .i64 xc] 23) = u2 at *
  obtain ⟨b1, hb1⟩ : ∃ q, q = u1.heap.size := ⟨_, rfl⟩
  rw [← hb1] at HX1
  rw [← hb1]
  clear hb1
  go_upto_region 5 with (first
    | (go_at_call 7
       refine (HRO.out _).mono ?_
       rintro e u3 ⟨rfl, hb⟩
       have HB3 := Lib.hid (HB2.out.trans (hb.mono HB2.out.size))
       have HM3 := Lib.hid (step_get HMx.out hb)
       have HX3 := Lib.hid (step_get HX1.out hb)
       have hz3 := heap_alloc_new u3 (.cells #[.int .i64 0, .int .i64 0, .int .i64 0] 23)
       clear hb))
  change Code.wp _ _ _ _ (u3.alloc (.cells #[.int .i64 xa, .int .i64 xb, .int .i64 xc] 23))
  have hb3 := below_alloc u3 (.cells #[.int .i64 xa, .int .i64 xb, .int .i64 xc] 23)
  have HM4 := Lib.hid (step_get HM3.out hb3)
  have HX4 := Lib.hid (step_get HX3.out hb3)
  have HY4 := Lib.hid (heap_alloc_new u3 (.cells #[.int .i64 xa, .int .i64 xb, .int .i64 xc] 23))
  have HB4 := Lib.hid (HB3.out.trans (hb3.mono HB3.out.size))
  clear hz3 hb3
  generalize u3.alloc (.cells #[.int .i64 xa, .int .i64 xb, .int .i64 xc] 23) = u4 at *
  obtain ⟨b2, hb2⟩ : ∃ q, q = u3.heap.size := ⟨_, rfl⟩
  rw [← hb2] at HY4
  rw [← hb2]
  clear hb2 HM1 HM3 HMx HX1 HX3 HB1 HB2 HB3 HOF HRO
  have Zb00 : ∀ W : Stay u4, W.w.cell? ⟨b0, 0, none⟩ = some (.int .i64 p.o) := fun W => Stay.cell (blk_cell HM4.out 0) W
  have Zb01 : ∀ W : Stay u4, W.w.cell? ⟨b0, 1, none⟩ = some (.int .i64 p.k) := fun W => Stay.cell (blk_cell HM4.out 1) W
  have Zb02 : ∀ W : Stay u4, W.w.cell? ⟨b0, 2, none⟩ = some (.int .i64 p.m) := fun W => Stay.cell (blk_cell HM4.out 2) W
  have Zb10 : ∀ W : Stay u4, W.w.cell? ⟨b1, 0, none⟩ = some (.int .i64 xa) := fun W => Stay.cell (blk_cell HX4.out 0) W
  have Zb11 : ∀ W : Stay u4, W.w.cell? ⟨b1, 1, none⟩ = some (.int .i64 xb) := fun W => Stay.cell (blk_cell HX4.out 1) W
  have Zb12 : ∀ W : Stay u4, W.w.cell? ⟨b1, 2, none⟩ = some (.int .i64 xc) := fun W => Stay.cell (blk_cell HX4.out 2) W
  have Zb20 : ∀ W : Stay u4, W.w.cell? ⟨b2, 0, none⟩ = some (.int .i64 xa) := fun W => Stay.cell (blk_cell HY4.out 0) W
  have Zb21 : ∀ W : Stay u4, W.w.cell? ⟨b2, 1, none⟩ = some (.int .i64 xb) := fun W => Stay.cell (blk_cell HY4.out 1) W
  have Zb22 : ∀ W : Stay u4, W.w.cell? ⟨b2, 2, none⟩ = some (.int .i64 xc) := fun W => Stay.cell (blk_cell HY4.out 2) W
  refine wp_region_stay (by kernel_rfl) (by kernel_rfl) ?_
  repeat (go_big_quiet_step (first
    | (go_at_call 8; with_reducible exact Calls.stay _ (HMY.out _))
    | (go_at_call 9; with_reducible exact Calls.stay _ (HRM.out _))))
  refine wpQuiet_nil ?_
  intro w' hw'
  obtain ⟨W, rfl⟩ := hw'
  have HB5 := Lib.hid (HB4.out.trans (W.below.mono HB4.out.size))
  have HM5 := Lib.hid (step_get HM4.out W.below)
  clear Zb00 Zb01 Zb02 Zb10 Zb11 Zb12 Zb20 Zb21 Zb22 HM4 HX4 HY4
  generalize W.w = u5 at *
  have x2 := blk_cell HM5.out 2
  by_cases hm3 : 3000 < p.m
  · go_wp2_with (first
      | (go_at_call 5
         refine (HK.out _).mono ?_
         rintro e u6 ⟨rfl, hb⟩
         have HB6 := Lib.hid (HB5.out.trans (hb.mono HB5.out.size))
         clear hb))
    go_ret
    exact ⟨rfl, HB6.out⟩
  have x0 := blk_cell HM5.out 0
  have x1 := blk_cell HM5.out 1
  have hm3' : p.m ≤ 3000 := by omega
  clear hm3
  have HNN := Lib.hid HLL.out
  have n65 : (N : Int) ≤ 65537 := by have := HLL.out.1; omega
  go_wp2_with (first
    | (go_at_call 10
       refine (HRS.out _).mono ?_
       rintro e u6 ⟨A1, c1, rfl, ho, hb⟩
       have HB6 := Lib.hid (HB5.out.trans (hb.mono HB5.out.size))
       have HM6 := Lib.hid (step_get HM5.out hb)
       have HO6 := Lib.hid ho
       have y0 := blk_cell HM6.out 0
       have y1 := blk_cell HM6.out 1
       have y2 := blk_cell HM6.out 2
       clear hb ho)
    | (go_at_call 11
       refine (HAL.out _).mono ?_
       rintro e u7 ⟨A2, c2, rfl, ho, hb⟩
       have HB7 := Lib.hid (HB6.out.trans (hb.mono HB6.out.size))
       have HM7 := Lib.hid (step_get HM6.out hb)
       have HO7 := Lib.hid ho
       have HP7 := Lib.hid (HO6.out.below hb)
       clear hb ho))
  go_loopw [18, 19, 76] (fun va vb vk wr => ∃ k : Nat, k ≤ N ∧ vk = .int .i64 (k : Int) ∧ va = .int .i64 (atJ L i k) ∧ vb = .int .i64 (whJ L s k) ∧ Below u7.heap.size u7 wr) (fun _ _ vk _ => N - (intOf vk).toNat)
  case atStart => exact ⟨0, Nat.zero_le _, rfl, by rw [atJ_zero], rfl, Below.refl _ _⟩
  case round =>
    obtain ⟨k, hk, rfl, rfl, rfl, hb⟩ := hrel
    have HBr := Lib.hid hb
    by_cases hkn : k < N
    · obtain ⟨g1, e1, _, _, hc1, _⟩ := (HP7.out.below hb).lies (by omega)
      obtain ⟨g2, e2, _, _, hc2, _⟩ := (HO7.out.below hb).lies (by omega)
      subst e1
      subst e2
      obtain ⟨v, hv⟩ : ∃ v, v = L[k]?.getD 0 := ⟨_, rfl⟩
      have z1 : u7.heap.size = u7.heap.size := rfl
      have y1 := hc1 k (by omega)
      unfold nQ at y1
      rw [← hv] at y1
      have y2 := hc2 k (by omega)
      unfold nQ at y2
      rw [← hv] at y2
      have k0 : (0 : Int) ≤ (k : Int) := by omega
      have k1 : (k : Int) < (N : Int) := by omega
      have k2 : ((k : Int)).toNat = k := by omega
      have vv : ((v : Int) == (v : Int)) = true := by simp
      have zk : IntKind.i64.wrap ((k : Int) + 1) = (k : Int) + 1 := by rw [IntKind.wrap_i64]; omega
      have n0 : ¬ (N : Int) = 0 := by omega
      have HKN := Lib.hid hkn
      have HV := Lib.hid hv
      clear hc1 hc2 hb hv hkn z1
      by_cases hvs : (v : Int) = s
      · have q7 : ((v : Int) == s) = true := by rw [hvs]; simp
        have w1 : whJ L s (k + 1) = (k : Int) := by
          have h := HV.out
          unfold whJ
          rw [← h, if_pos hvs]
        have HW1 := Lib.hid w1
        clear w1 hvs
        by_cases hi : i < 0
        · have l3 : ¬ (0 : Int) ≤ i := by omega
          have a1 : atJ L i (k + 1) = atJ L i k := by rw [atJ_neg hi, atJ_neg hi]
          have HA1 := Lib.hid a1
          clear a1 hi
          go_upto_region 17 with fail
          go_region
          go_wp2_with fail
          go_roundw
          case rel => exact ⟨k + 1, by have := HKN.out; omega, by go_num, by rw [HA1.out], by rw [HW1.out], HBr.out.drew⟩
          case measure => have := HKN.out; simp [intOf]; omega
        · obtain ⟨I, rfl⟩ := Int.eq_ofNat_of_zero_le (show 0 ≤ i by omega)
          have l3 : (0 : Int) ≤ (I : Int) := by omega
          obtain ⟨r, hr⟩ : ∃ r, r = I % N := ⟨_, rfl⟩
          have r1 : (I : Int) % (N : Int) = (r : Int) := by rw [hr, Int.natCast_emod]
          have r2 : (I : Int).tmod (N : Int) = (r : Int) := by rw [Int.tmod_eq_emod_of_nonneg (by omega), r1]
          have hrd : r < N := by rw [hr]; exact Nat.mod_lt _ (by omega)
          have zr : IntKind.i64.wrap (r : Int) = (r : Int) := by rw [IntKind.wrap_i64]; omega
          by_cases hrk : r = k
          · have q8 : ((r : Int) == (k : Int)) = true := by rw [hrk]; simp
            have a1 : atJ L (I : Int) (k + 1) = (v : Int) := by
              rw [atJ_hit (by rw [← HNL.out, ← hr]; exact hrk), ← HV.out]
            have HA1 := Lib.hid a1
            clear a1 hrk hr hi hrd
            go_upto_region 17 with fail
            go_region
            go_wp2_with fail
            go_roundw
            case rel => exact ⟨k + 1, by have := HKN.out; omega, by go_num, by rw [HA1.out], by rw [HW1.out], HBr.out.drew⟩
            case measure => have := HKN.out; simp [intOf]; omega
          · have q8 : ((r : Int) == (k : Int)) = false := by
              rw [beq_eq_false_iff_ne]
              omega
            have a1 : atJ L (I : Int) (k + 1) = atJ L (I : Int) k := atJ_miss (by rw [← HNL.out, ← hr]; exact hrk)
            have HA1 := Lib.hid a1
            clear a1 hrk hr hi hrd
            go_upto_region 17 with fail
            go_region
            go_wp2_with fail
            go_roundw
            case rel => exact ⟨k + 1, by have := HKN.out; omega, by go_num, by rw [HA1.out], by rw [HW1.out], HBr.out.drew⟩
            case measure => have := HKN.out; simp [intOf]; omega
      · have q7 : ((v : Int) == s) = false := by simp [hvs]
        have w1 : whJ L s (k + 1) = whJ L s k := by
          have h := HV.out
          conv => lhs; unfold whJ
          rw [← h, if_neg hvs]
        have HW1 := Lib.hid w1
        clear w1 hvs
        by_cases hi : i < 0
        · have l3 : ¬ (0 : Int) ≤ i := by omega
          have a1 : atJ L i (k + 1) = atJ L i k := by rw [atJ_neg hi, atJ_neg hi]
          have HA1 := Lib.hid a1
          clear a1 hi
          go_upto_region 17 with fail
          go_region
          go_wp2_with fail
          go_roundw
          case rel => exact ⟨k + 1, by have := HKN.out; omega, by go_num, by rw [HA1.out], by rw [HW1.out], HBr.out.drew⟩
          case measure => have := HKN.out; simp [intOf]; omega
        · obtain ⟨I, rfl⟩ := Int.eq_ofNat_of_zero_le (show 0 ≤ i by omega)
          have l3 : (0 : Int) ≤ (I : Int) := by omega
          obtain ⟨r, hr⟩ : ∃ r, r = I % N := ⟨_, rfl⟩
          have r1 : (I : Int) % (N : Int) = (r : Int) := by rw [hr, Int.natCast_emod]
          have r2 : (I : Int).tmod (N : Int) = (r : Int) := by rw [Int.tmod_eq_emod_of_nonneg (by omega), r1]
          have hrd : r < N := by rw [hr]; exact Nat.mod_lt _ (by omega)
          have zr : IntKind.i64.wrap (r : Int) = (r : Int) := by rw [IntKind.wrap_i64]; omega
          by_cases hrk : r = k
          · have q8 : ((r : Int) == (k : Int)) = true := by rw [hrk]; simp
            have a1 : atJ L (I : Int) (k + 1) = (v : Int) := by
              rw [atJ_hit (by rw [← HNL.out, ← hr]; exact hrk), ← HV.out]
            have HA1 := Lib.hid a1
            clear a1 hrk hr hi hrd
            go_upto_region 17 with fail
            go_region
            go_wp2_with fail
            go_roundw
            case rel => exact ⟨k + 1, by have := HKN.out; omega, by go_num, by rw [HA1.out], by rw [HW1.out], HBr.out.drew⟩
            case measure => have := HKN.out; simp [intOf]; omega
          · have q8 : ((r : Int) == (k : Int)) = false := by
              rw [beq_eq_false_iff_ne]
              omega
            have a1 : atJ L (I : Int) (k + 1) = atJ L (I : Int) k := atJ_miss (by rw [← HNL.out, ← hr]; exact hrk)
            have HA1 := Lib.hid a1
            clear a1 hrk hr hi hrd
            go_upto_region 17 with fail
            go_region
            go_wp2_with fail
            go_roundw
            case rel => exact ⟨k + 1, by have := HKN.out; omega, by go_num, by rw [HA1.out], by rw [HW1.out], HBr.out.drew⟩
            case measure => have := HKN.out; simp [intOf]; omega
    · obtain rfl : k = N := by omega
      have HMr := Lib.hid (step_get HM7.out hb)
      have HB8 := Lib.hid (HB7.out.trans (hb.mono HB7.out.size))
      obtain ⟨av, hav⟩ : ∃ x, x = atJ L i k := ⟨_, rfl⟩
      obtain ⟨wv, hwv⟩ : ∃ x, x = whJ L s k := ⟨_, rfl⟩
      rw [← hav] at HAT ⊢
      rw [← hwv] at HWH ⊢
      have r8 : (av == av) = true := by simp
      have r9 : (wv == wv) = true := by simp
      clear hav hwv hb
      have c0 := blk_cell HMr.out 0
      have c1' := blk_cell HMr.out 1
      have c2' := blk_cell HMr.out 2
      go_wp2_with (first
        | (go_at_call 12
           refine (HAT.out _).mono ?_
           rintro e u9 ⟨rfl, hb⟩
           have HB9 := Lib.hid (HB8.out.trans (hb.mono HB8.out.size))
           have HM9 := Lib.hid (step_get HMr.out hb)
           have d0 := blk_cell HM9.out 0
           have d1 := blk_cell HM9.out 1
           have d2 := blk_cell HM9.out 2
           clear hb)
        | (go_at_call 13
           refine (HWH.out _).mono ?_
           rintro e ua ⟨rfl, hb⟩
           have HBa := Lib.hid (HB9.out.trans (hb.mono HB9.out.size))
           clear hb)
        | (go_at_call 5
           refine (HK.out _).mono ?_
           rintro e ub ⟨rfl, hb⟩
           have HBb := Lib.hid (HBa.out.trans (hb.mono HBa.out.size))
           clear hb))
      go_ret
      exact ⟨rfl, HBb.out⟩
end Go.Proofs.Ytdeghjhlbhpopaa
