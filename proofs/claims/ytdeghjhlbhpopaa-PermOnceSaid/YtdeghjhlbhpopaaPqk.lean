/- Stage 18: PermOnce. -/
import Derived.Test.YtdeghjhlbhpopaaPqh
import Derived.Test.YtdeghjhlbhpopaaFm
namespace Go.Proofs.Ytdeghjhlbhpopaa
set_option maxRecDepth 100000
open Go.RowKit Go.Shelf
def SeeQ (W : World) (A : Option Addr) (K : Nat) (l : List Nat) : Prop := 0 < K → ∃ g, A = some ⟨g, 0, none⟩ ∧ g < W.heap.size ∧ ∀ k, k < K → W.cell? ⟨g, k, none⟩ = some (nQ l k)
theorem SeeQ.step {W W' : World} {A : Option Addr} {K : Nat} {l : List Nat} (h : SeeQ W A K l) (hb : Below W.heap.size W W') : SeeQ W' A K l := fun hk => by
  obtain ⟨g, e, h1, h2⟩ := h hk
  exact ⟨g, e, Nat.lt_of_lt_of_le h1 hb.size, fun j hj => cell_later hb (h2 j hj)⟩
def cQ (c : Nat → Nat) (j : Nat) : Value := .int .i64 (c j : Int)
set_option maxHeartbeats 20000000 in
theorem qonce_in {g : Nat} (HP : PeP g) (S : ByteArray) (hS : S.size ≤ 200) (o k M I : Nat) (hok : Pe.Ok ⟨(o : Int), (k : Int), (M : Int)⟩ o k M) (hM3 : M ≤ 3000) (hI : I ≤ 1099511627776) (hof : ∀ W : World, Calls Try.prog 6 #[.string S, .int .i64 (M : Int)] W (ret (.tuple #[.agg #[.int .i64 (o : Int), .int .i64 (k : Int), .int .i64 (M : Int)], .int .i64 0]) W)) (w : World) : Calls Try.prog 4 #[.string S, .int .i64 (M : Int), .int .i64 (I : Int)] w (ret (.bool true) w) := by
  have HK := Lib.hid fun W => qknown_any HP W
  have HOF := Lib.hid hof
  have hz7 := szP_le hok.sz
  have hM7 : 7 ≤ M := hz7.1
  obtain ⟨r, hr⟩ : ∃ r, r = I % M := ⟨_, rfl⟩
  have hrM : r < M := by rw [hr]; exact Nat.mod_lt _ (by omega)
  obtain ⟨L, hL⟩ : ∃ L, L = slL o k M := ⟨_, rfl⟩
  have hLM : L.length = M := by rw [hL, slL_len]
  have hLp : (⟨(o : Int), (k : Int), (M : Int)⟩ : Pe).list = L := by rw [hok.list_, hL]
  have HLN : Hid (∀ j, j < M → nQ L j = .int .i64 (slN o k M j : Int)) := Lib.hid fun j hj => by
    unfold nQ
    rw [hL, slL_at hj]
    rfl
  have HAL1 : Hid (∀ W : World, Calls Try.prog 11 #[.agg #[.int .i64 (o : Int), .int .i64 (k : Int), .int .i64 (M : Int)], .int .i64 (M : Int)] W fun e w' => ∃ A c, e = .returned (.tuple #[.slice A M c, .bool true]) ∧ OwnC w' W.heap.size 3 1 A M c (nQ L) ∧ Below W.heap.size W w') := Lib.hid fun W => by
    refine (pall_any HP ⟨(o : Int), (k : Int), (M : Int)⟩ (M : Int) W (by rw [hLp, hLM]; omega)).mono ?_
    rintro e w' ⟨l, A, c, hl, rfl, hr, hb⟩
    rw [hLp, Int.toNat_natCast, List.take_of_length_le (by omega)] at hl
    subst hl
    have h1 := hr.1
    rw [hLM] at h1
    exact ⟨A, c, by rw [hLM], h1, hb⟩
  have HAL2 : Hid (∀ W : World, Calls Try.prog 11 #[.agg #[.int .i64 (o : Int), .int .i64 (k : Int), .int .i64 (M : Int)], .int .i64 (r : Int)] W fun e w' => ∃ A c, e = .returned (.tuple #[.slice A (r + 1) c, .bool true]) ∧ SeeQ w' A (r + 1) L ∧ Below W.heap.size W w') := Lib.hid fun W => by
    refine (pall_any HP ⟨(o : Int), (k : Int), (M : Int)⟩ (r : Int) W (by rw [hLp, hLM]; omega)).mono ?_
    rintro e w' ⟨l, A, c, hl, rfl, hr, hb⟩
    rw [hLp, Int.toNat_natCast] at hl
    have hll : l.length = r + 1 := by rw [hl, List.length_take]; omega
    have h1 := hr.1
    rw [hll] at h1
    refine ⟨A, c, by rw [hll], fun _ => ?_, hb⟩
    obtain ⟨g, e, _, h3, h4, _⟩ := h1.lies (by omega)
    refine ⟨g, e, h3, fun j hj => ?_⟩
    rw [h4 j (by omega)]
    unfold nQ
    rw [hl, List.getElem?_take, if_pos hj]
  have HA1 : Hid (∀ W : World, Calls Try.prog 12 #[.agg #[.int .i64 (o : Int), .int .i64 (k : Int), .int .i64 (M : Int)], .int .i64 (I : Int)] W (ret (.int .i64 (slN o k M r : Int)) W)) := Lib.hid fun W => by
    have h := HP.at_ ⟨(o : Int), (k : Int), (M : Int)⟩ (I : Int) W
    rw [hok.at_, ← slN_mod, ← hr] at h
    exact h
  have HA2 : Hid (∀ W : World, Calls Try.prog 12 #[.agg #[.int .i64 (o : Int), .int .i64 (k : Int), .int .i64 (M : Int)], .int .i64 ((I : Int) + (M : Int))] W (ret (.int .i64 (slN o k M r : Int)) W)) := Lib.hid fun W => by
    have h := HP.at_ ⟨(o : Int), (k : Int), (M : Int)⟩ ((I + M : Nat) : Int) W
    rw [hok.at_, slN_add, ← slN_mod, ← hr, Int.natCast_add] at h
    exact h
  have HWX : Hid (∀ W : World, Calls Try.prog 13 #[.agg #[.int .i64 (o : Int), .int .i64 (k : Int), .int .i64 (M : Int)], .int .i64 (slN o k M r : Int)] W (ret (.int .i64 (r : Int)) W)) := Lib.hid fun W => by
    have h := HP.wh ⟨(o : Int), (k : Int), (M : Int)⟩ (slN o k M r : Int) W
    rw [hok.wh hrM] at h
    exact h
  have HWM : Hid (∀ W : World, Calls Try.prog 13 #[.agg #[.int .i64 (o : Int), .int .i64 (k : Int), .int .i64 (M : Int)], .int .i64 (M : Int)] W (ret (.int .i64 (-1)) W)) := Lib.hid fun W => by
    have h := HP.wh ⟨(o : Int), (k : Int), (M : Int)⟩ (M : Int) W
    rw [Pe.wh_no fun x hx => by
      have h3 := hx.2.2
      have := slN_lt (o := o) (k := k) (show 0 < M by omega) x
      have h4 : (slN o k M x : Int) = (M : Int) := h3
      omega] at h
    exact h
  have HMK : Hid (∀ W : World, ∃ w', (Instr.makeSlice 29 (.int .i64 (M : Int)) (.int .i64 (M : Int))).run Try.prog W = .ok (.slice (some ⟨W.heap.size, 0, none⟩) M M) w' ∧ OwnC w' W.heap.size 3 1 (some ⟨W.heap.size, 0, none⟩) M M (cQ fun _ => 0) ∧ W.grownBy w' none) := Lib.hid fun W => by
    obtain ⟨i0, hi0, hz0, hz1, hz2⟩ := info_parts Try.infoIT
    obtain ⟨w', q1, q2, q3⟩ := run_make_vals (P := Try.prog) W W.heap.size 29 3 i0 (.int .i64 0) Try.underlying29 hi0 hz0 hz1 rfl M (by rw [hz2]; omega) (by unfold maxLen; omega) (Nat.le_refl _)
    exact ⟨w', q1, q2, q3⟩
  have r1 : (I : Int) % (M : Int) = (r : Int) := by rw [hr, Int.natCast_emod]
  have r2 : (I : Int).tmod (M : Int) = (r : Int) := by rw [Int.tmod_eq_emod_of_nonneg (by omega), r1]
  have zr : IntKind.i64.wrap (r : Int) = (r : Int) := by rw [IntKind.wrap_i64]; omega
  have zIM : IntKind.i64.wrap ((I : Int) + (M : Int)) = (I : Int) + (M : Int) := by rw [IntKind.wrap_i64]; omega
  have m0 : ¬ (M : Int) = 0 := by omega
  have m3 : ¬ (3000 : Int) < (M : Int) := by omega
  have m1 : (0 : Int) ≤ (M : Int) := by omega
  have i0 : ¬ (I : Int) < 0 := by omega
  have i9 : ¬ (1099511627776 : Int) < (I : Int) := by omega
  have mm : ((M : Int) == (M : Int)) = true := by simp
  have s2 : ¬ (200 : Int) < (S.size : Int) := by omega
  have HOK := Lib.hid (show 2 ≤ M ∧ ld M = M ∧ 0 < k ∧ k < M from ⟨by omega, hz7.2.2, hok.pk, hok.lk⟩)
  clear hr hL hLp hLM hok hz7 hof HP
  go_enter Try.func4, Try.ntmps4
  go_upto_region 4 with (first
    | (go_at_call 6
       refine (HOF.out _).mono ?_
       rintro e v1 ⟨rfl, hb⟩
       have HB1 := Lib.hid hb
       have hz1 := heap_alloc_new v1 (.cells #[.int .i64 0, .int .i64 0, .int .i64 0] 23)
       clear hb))
  change Code.wp _ _ _ _ (v1.alloc (.cells #[.int .i64 (o : Int), .int .i64 (k : Int), .int .i64 (M : Int)] 23))
  have hb2 := below_alloc v1 (.cells #[.int .i64 (o : Int), .int .i64 (k : Int), .int .i64 (M : Int)] 23)
  have HM2 := Lib.hid (heap_alloc_new v1 (.cells #[.int .i64 (o : Int), .int .i64 (k : Int), .int .i64 (M : Int)] 23))
  have HB2 := Lib.hid (HB1.out.trans (hb2.mono HB1.out.size))
  clear hz1 hb2
  generalize v1.alloc (.cells #[.int .i64 (o : Int), .int .i64 (k : Int), .int .i64 (M : Int)] 23) = v2 at *
  obtain ⟨b0, hb0⟩ : ∃ q, q = v1.heap.size := ⟨_, rfl⟩
  have HB0 : Hid (w.heap.size ≤ b0) := Lib.hid (by rw [hb0]; exact HB1.out.size)
  rw [← hb0] at HM2 ⊢
  clear hb0
  obtain ⟨v3, hm, ho, hg⟩ := HMK.out v2
  have HO3 := Lib.hid ho
  have hb3 : Below v2.heap.size v2 v3 := (Below.refl _ _).grown hg (Nat.le_refl _) fun _ h => nomatch h
  have HB3 : Hid (Below w.heap.size w v3) := Lib.hid (HB2.out.trans (hb3.mono HB2.out.size))
  have HM3 := Lib.hid (step_get HM2.out hb3)
  obtain ⟨gs, hgs⟩ : ∃ q, q = v2.heap.size := ⟨_, rfl⟩
  have HGS : Hid (w.heap.size ≤ gs ∧ b0 ≠ gs) := Lib.hid ⟨by rw [hgs]; exact HB2.out.size, by have := lt_heap HM2.out; omega⟩
  rw [← hgs] at hm HO3
  clear ho hg hb3 hgs
  go_upto_region 7 with fail
  clear hm
  have x0 := blk_cell HM3.out 0
  have x1 := blk_cell HM3.out 1
  have x2 := blk_cell HM3.out 2
  go_upto_region 11 with (first
    | (go_at_call 11
       refine (HAL1.out _).mono ?_
       rintro e v6 ⟨A1, c1, rfl, ho, hb⟩
       have HB6 := Lib.hid (HB3.out.trans (hb.mono HB3.out.size))
       have HM6 := Lib.hid (step_get HM3.out hb)
       have HO6 := Lib.hid (HO3.out.below hb)
       have HL6 := Lib.hid ho
       have HG6 : Hid (gs < v3.heap.size) := Lib.hid (by obtain ⟨_, e, _, h, _⟩ := HO3.out.lies (by omega); injection e with e; injection e with e; omega)
       clear hb ho))
  obtain ⟨g1, e1, hg1, hg1b, hc1, _⟩ := HL6.out.lies (by omega)
  subst e1
  have HC6 : Hid (∀ j, j < M → v6.cell? ⟨g1, j, none⟩ = some (.int .i64 (slN o k M j : Int))) := Lib.hid fun j hj => by
    rw [hc1 j (by omega), HLN.out j hj]
  have HNE : Hid (g1 ≠ gs ∧ g1 < v6.heap.size ∧ gs < v6.heap.size) := Lib.hid ⟨by have := HG6.out; omega, hg1b, by have := HG6.out; omega⟩
  clear hg1 hg1b hc1
  go_loopw [65] (fun vt wr => ∃ (t : Nat) (c : Nat → Nat), t ≤ M ∧ vt = .int .i64 (t : Int) ∧ OwnC wr gs 3 1 (some ⟨gs, 0, none⟩) M M (cQ c) ∧ (∀ y, t ≤ y → y < M → c (slN o k M y) = 0) ∧ Kept (fun q => q = gs) v6 wr) (fun vt _ => M - (intOf vt).toNat)
  case atStart => exact ⟨0, fun _ => 0, Nat.zero_le _, rfl, HO6.out, fun _ _ _ => rfl, Kept.refl _ _⟩
  case round =>
    obtain ⟨t, c, ht, rfl, ho, hc, hkp⟩ := hrel
    have HKP := Lib.hid hkp
    by_cases htM : t < M
    · obtain ⟨X, hX⟩ : ∃ X, X = slN o k M t := ⟨_, rfl⟩
      have hXM : X < M := by rw [hX]; exact slN_lt (by omega) t
      have y1 := (hkp.cell (p := ⟨g1, t, none⟩) HNE.out.2.1 HNE.out.1).trans (HC6.out t htM)
      rw [← hX] at y1
      obtain ⟨g', e, _, _, hc1, hfz⟩ := ho.lies (by omega)
      injection e with e
      injection e with e
      subst e
      have xc := hc1 X (by omega)
      have xf := hfz X
      have hcX : c X = 0 := by rw [hX]; exact hc t (Nat.le_refl _) htM
      unfold cQ at xc
      rw [hcX] at xc
      have t0 : (0 : Int) ≤ (t : Int) := by omega
      have t1 : (t : Int) < (M : Int) := by omega
      have t2 : ((t : Int)).toNat = t := by omega
      have X0 : (0 : Int) ≤ (X : Int) := by omega
      have X0' : ¬ (X : Int) < 0 := by omega
      have X1 : (X : Int) < (M : Int) := by omega
      have X1' : ¬ (M : Int) ≤ (X : Int) := by omega
      have X2 : ((X : Int)).toNat = X := by omega
      have z01 : IntKind.i64.wrap 1 = 1 := by decide
      have z02 : IntKind.i64.wrap (((0 : Nat) : Int) + 1) = 1 := by decide
      have zk : IntKind.i64.wrap ((t : Int) + 1) = (t : Int) + 1 := by rw [IntKind.wrap_i64]; omega
      have HOn := Lib.hid (ho.set_ X (.int .i64 1))
      have HKn : Hid (Kept (fun q => q = gs) v6 _) := Lib.hid (hkp.setCell (p := ⟨gs, X, none⟩) (.inl rfl) (.int .i64 1))
      have HCn := Lib.hid hc
      have HTM := Lib.hid htM
      have HX := Lib.hid hX
      clear ho hc hkp hc1 hfz hX hXM hcX
      go_upto_region 16 with fail
      change Code.wp _ _ _ _ (wr.setCell ⟨gs, X, none⟩ (.int .i64 1))
      generalize wr.setCell ⟨gs, X, none⟩ (.int .i64 1) = v9 at *
      have hOn := HOn.out
      obtain ⟨g', e, _, _, hc2, _⟩ := hOn.lies (by omega)
      injection e with e
      injection e with e
      subst e
      have xn : v9.cell? ⟨gs, X, none⟩ = some (.int .i64 1) := by
        rw [hc2 X (by omega)]
        unfold updV
        rw [if_pos rfl]
      clear hOn hc2 xc xf y1
      go_wp2_with fail
      go_roundw
      case rel =>
        have h := HTM.out
        refine ⟨t + 1, fun j => if j = X then 1 else c j, by omega, by go_num, HOn.out.same fun j _ => ?_, fun y hy hyM => ?_, HKn.out⟩
        · show Value.int .i64 ((if j = X then 1 else c j : Nat) : Int) = updV (cQ c) X (.int .i64 1) j
          unfold updV
          by_cases q : j = X
          · rw [if_pos q, if_pos q]
            rfl
          · rw [if_neg q, if_neg q]
            rfl
        · have hne : slN o k M y ≠ X := fun q => by
            rw [HX.out] at q
            have := slN_inj HOK.out.1 HOK.out.2.1 HOK.out.2.2.1 HOK.out.2.2.2 hyM h q
            omega
          show (if slN o k M y = X then 1 else c (slN o k M y)) = 0
          rw [if_neg hne]
          exact HCn.out y (by omega) hyM
      case measure => have := HTM.out; simp [intOf]; omega
    · obtain rfl : M = t := by omega
      have HM7 : Hid (wr.heap[b0]? = some (.cells #[.int .i64 (o : Int), .int .i64 (k : Int), .int .i64 (M : Int)] 23 (0, 0))) := Lib.hid ((hkp.block b0 (lt_heap HM6.out) HGS.out.2).trans HM6.out)
      have HB7 : Hid (Below w.heap.size w wr) := Lib.hid (HB6.out.trans (hkp.below HB6.out.size fun q e => by rw [e]; exact HGS.out.1))
      have HC7 : Hid (∀ j, j < M → wr.cell? ⟨g1, j, none⟩ = some (.int .i64 (slN o k M j : Int))) := Lib.hid fun j hj => (hkp.cell (p := ⟨g1, j, none⟩) HNE.out.2.1 HNE.out.1).trans (HC6.out j hj)
      clear ho hc hkp HKP
      generalize wr = v7 at *
      go_upto_region 19 with fail
      have x0 := blk_cell HM7.out 0
      have x1 := blk_cell HM7.out 1
      have x2 := blk_cell HM7.out 2
      go_cut [14, 11] from 88 to 95 (fun va vb wx => ∃ (A3 : Option Addr) (c3 : Nat) (w8 : World), w8 = wx ∧ va = .slice A3 (r + 1) c3 ∧ vb = .bool true ∧ SeeQ wx A3 (r + 1) L ∧ Below v7.heap.size v7 wx)
      case first =>
        go_region_with ((
          go_at_call 11
          refine (HAL2.out _).mono ?_
          rintro e v8 ⟨A3, c3, rfl, hs, hb⟩
          have HS8 := Lib.hid hs
          have HB8 : Hid (Below v7.heap.size v7 v8) := Lib.hid (((Below.refl v7.heap.size v7).drew).trans hb)
          clear hs hb))
        all_goals (go_wp2_with fail; go_meet; exact ⟨_, _, _, rfl, rfl, rfl, HS8.out, HB8.out⟩)
      case rest =>
        obtain ⟨A3, c3, w8, rfl, rfl, rfl, hs, hW1⟩ := hcut
        have HX93 := Lib.hid hs
        have HW1 := Lib.hid hW1
        clear hs hW1
        have HM8 := Lib.hid (step_get HM7.out HW1.out)
        have HB8 := Lib.hid (HB7.out.trans (HW1.out.mono HB7.out.size))
        have HS8 := HX93
        have HC8 : Hid (∀ j, j < M → w8.cell? ⟨g1, j, none⟩ = some (.int .i64 (slN o k M j : Int))) := Lib.hid fun j hj => cell_later HW1.out (HC7.out j hj)
        clear HX93 HW1
        generalize w8 = v8 at *
        go_upto_region 21 with fail
        go_loopw [98] (fun vt wr => ∃ t : Nat, t ≤ r + 1 ∧ vt = .int .i64 (t : Int) ∧ Below v8.heap.size v8 wr) (fun vt _ => r + 1 - (intOf vt).toNat)
        case atStart => exact ⟨0, Nat.zero_le _, rfl, Below.refl _ _⟩
        case round =>
          obtain ⟨t, ht, rfl, hb⟩ := hrel
          have HBr := Lib.hid hb
          by_cases htr : t < r + 1
          · obtain ⟨g3, e3, _, hc3⟩ := (HS8.out.step hb) (by omega)
            subst e3
            obtain ⟨X, hX⟩ : ∃ X, X = slN o k M t := ⟨_, rfl⟩
            have y1 := hc3 t htr
            rw [HLN.out t (by omega), ← hX] at y1
            have y2 := cell_later hb (HC8.out t (by omega))
            rw [← hX] at y2
            have t0 : (0 : Int) ≤ (t : Int) := by omega
            have t1 : (t : Int) < ((r + 1 : Nat) : Int) := by omega
            have t1' : (t : Int) < (r : Int) + 1 := by omega
            have t3 : (t : Int) < (M : Int) := by omega
            have t2 : ((t : Int)).toNat = t := by omega
            have vv : ((X : Int) == (X : Int)) = true := by simp
            have zk : IntKind.i64.wrap ((t : Int) + 1) = (t : Int) + 1 := by rw [IntKind.wrap_i64]; omega
            have HTR := Lib.hid htr
            clear hc3 hb hX htr
            go_wp2_with fail
            go_roundw
            case rel => exact ⟨t + 1, by have := HTR.out; omega, by go_num, HBr.out⟩
            case measure => have := HTR.out; simp [intOf]; omega
          · obtain rfl : t = r + 1 := by omega
            have HMr := Lib.hid (step_get HM8.out hb)
            have HB9 := Lib.hid (HB8.out.trans (hb.mono HB8.out.size))
            have yr := cell_later hb (HC8.out r (by omega))
            obtain ⟨X, hX⟩ : ∃ X, X = slN o k M r := ⟨_, rfl⟩
            rw [← hX] at yr
            rw [← hX] at HA1 HA2 HWX
            have t1 : ¬ ((r + 1 : Nat) : Int) < ((r + 1 : Nat) : Int) := by omega
            have t1' : ¬ (r : Int) + 1 < (r : Int) + 1 := by omega
            clear hb hX
            go_upto_region 26 with fail
            have Z0 := fun W => Stay.cell (blk_cell HMr.out 0) W
            have Z1 := fun W => Stay.cell (blk_cell HMr.out 1) W
            have Z2 := fun W => Stay.cell (blk_cell HMr.out 2) W
            have Z3 := fun W => Stay.cell yr W
            have r0 : (0 : Int) ≤ (r : Int) := by omega
            have r4 : (r : Int) < (M : Int) := by omega
            have r5 : ((r : Int)).toNat = r := by omega
            have e1 : ((X : Int) == (X : Int)) = true := by simp
            have e2 : ((r : Int) == (r : Int)) = true := by simp
            clear yr
            refine wp_region_stay (by kernel_rfl) (by kernel_rfl) ?_
            repeat (go_big_quiet_step (first
              | (go_at_call 12; with_reducible exact Calls.stay _ (HA1.out _))
              | (go_at_call 12; with_reducible exact Calls.stay _ (HA2.out _))
              | (go_at_call 13; with_reducible exact Calls.stay _ (HWX.out _))
              | (go_at_call 13; with_reducible exact Calls.stay _ (HWM.out _))
              | (go_at_call 5; with_reducible exact Calls.stay _ (HK.out _))))
            refine wpQuiet_nil ?_
            intro w' hw'
            obtain ⟨W, rfl⟩ := hw'
            go_wp2_with fail
            go_ret
            exact ⟨rfl, HB9.out.trans (W.below.mono HB9.out.size)⟩
end Go.Proofs.Ytdeghjhlbhpopaa
