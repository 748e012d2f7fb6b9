import Derived.Test.YtkmakdhlaenaoaaGm28
/- Stage 11: the landed Due, Tick, Skip, Copy, New. -/
namespace Go.Proofs.Ytkmakdhlaenaoaa
set_option maxRecDepth 100000
open Go.RowKit Go.Shelf
section
variable {w : World} {p ap z g c : Nat} {A : Ar} {S : Sl} {now tn : Nat} {ta tw tt : Nat → Nat} {F : Nat → Prop}
set_option maxHeartbeats 1000000 in
theorem pdueX (h : WX w p ap z g c A S now tn ta tw tt F) (hi : Int) (k : Nat) (b : Bool) (hl : A.live hi k = b) (v : Nat) (hv : b = true → ∃ i : Nat, hi = (i : Int) ∧ i < A.has.length ∧ ta i = v) (hv0 : b = false → v = 0) : Calls Try.prog 13 #[.pointer (some ⟨p, 0, none⟩), .agg #[.int .i64 hi, .int .u64 (k : Int)]] w fun e w' => e = .returned (.tuple #[.int .u64 (v : Int), .bool b]) ∧ Below w.heap.size w w' := by
  have hbx := below_alloc w (.cells #[.int .i64 hi, .int .u64 (k : Int)] 46)
  have HX1 := Lib.hid (h.step hbx)
  have HB1 := Lib.hid hbx
  have HR1 : Hid ((w.alloc (.cells #[.int .i64 hi, .int .u64 (k : Int)] 46)).heap[w.heap.size]? = some (.cells #[.int .i64 hi, .int .u64 (k : Int)] 46 (0, 0))) := Lib.hid (heap_alloc_new w _)
  obtain ⟨r, hr⟩ : ∃ r, r = w.heap.size := ⟨_, rfl⟩
  rw [← hr] at HR1
  clear h hbx
  go_enter Try.func13, Try.ntmps13
  go_upto_region 1 with fail
  change Code.wp _ _ _ _ (w.alloc (.cells #[.int .i64 hi, .int .u64 (k : Int)] 46))
  rw [← hr]
  clear hr
  generalize w.alloc (.cells #[.int .i64 hi, .int .u64 (k : Int)] 46) = u1 at *
  have HMD : Hid (∀ V : Stay u1, Calls Try.prog 22 #[.pointer (some ⟨p, 0, none⟩)] V.w fun e w' => e = .returned (.bool true) ∧ Below V.w.heap.size V.w w') := Lib.hid fun V => pmade (HX1.out.step V.below)
  have HLV : Hid (∀ V : Stay u1, Calls Try.prog 32 #[.pointer (some ⟨ap, 0, none⟩), .agg #[.int .i64 hi, .int .u64 (k : Int)]] V.w fun e w' => e = .returned (.bool b) ∧ Below V.w.heap.size V.w w') := Lib.hid fun V => (HX1.out.step V.below).arq fun Fa hPA => by
    have h9 := plive_any hPA HX1.out.n hi k
    rw [hl] at h9
    exact h9
  have y0 : ∀ V : Stay u1, V.w.cell? ⟨p, 0, none⟩ = some (.pointer (some ⟨ap, 0, none⟩)) := fun V => Stay.cell (blk_cell HX1.out.blk 0) V
  have z0 : ∀ V : Stay u1, V.w.cell? ⟨r, 0, none⟩ = some (.int .i64 hi) := fun V => Stay.cell (blk_cell HR1.out 0) V
  have z1 : ∀ V : Stay u1, V.w.cell? ⟨r, 1, none⟩ = some (.int .u64 (k : Int)) := fun V => Stay.cell (blk_cell HR1.out 1) V
  refine wp_region_stay (by kernel_rfl) (by kernel_rfl) ?_
  repeat (first
    | (refine qh_row rfl 46 (.tmp 3) rfl r rfl 46 #[.int .i64 hi, .int .u64 (k : Int)] (0, 0) _ (stay_hp HR1.out) Try.underlying46 rfl (by kernel_rfl) ?_
       simp only [Act.put, List.setIfInBounds_toArray, List.set_cons_zero, List.set_cons_succ])
    | go_big_quiet_step (first | (go_at_call 22; with_reducible exact Calls.stay _ (HMD.out _)) | (go_at_call 32; with_reducible exact Calls.stay _ (HLV.out _))))
  refine wpQuiet_nil ?_
  intro w' hw'
  obtain ⟨V, rfl⟩ := hw'
  have HX2 := Lib.hid (HX1.out.step V.below)
  have HB2 := Lib.hid (HB1.out.trans (V.below.mono HB1.out.size))
  have HR2 := Lib.hid (box_step HR1.out V.below)
  clear y0 z0 z1 HMD HLV HX1 HB1 HR1
  generalize V.w = u2 at *
  cases b with
  | false =>
    obtain rfl := hv0 rfl
    go_wp2_with fail
    go_ret2
    exact ⟨rfl, HB2.out⟩
  | true =>
    obtain ⟨i, rfl, hlt, htv⟩ := hv rfl
    obtain ⟨m, hm⟩ : ∃ m, m = A.has.length := ⟨_, rfl⟩
    have x2 : ∀ V : Stay u2, V.w.cell? ⟨p, 2, none⟩ = some (.slice (some ⟨g, 0, none⟩) m c) := fun V => by rw [hm]; exact Stay.cell (blk_cell HX2.out.blk 2) V
    have xt : ∀ V : Stay u2, V.w.cell? ⟨g, i * 3, none⟩ = some (.int .u64 (v : Int)) := fun V => by rw [← htv]; exact Stay.cell (HX2.out.t0 hlt) V
    have y0 : ∀ V : Stay u2, V.w.cell? ⟨r, 0, none⟩ = some (.int .i64 (i : Int)) := fun V => Stay.cell (blk_cell HR2.out 0) V
    have cap := HX2.out.cap9
    have hn9 := HX2.out.n
    rw [← hm] at hlt cap hn9
    have i0 : (0 : Int) ≤ (i : Int) := by omega
    have i1 : (i : Int) < (m : Int) := by omega
    have i2 : ((i : Int)).toNat = i := by omega
    clear hv hv0 hl hm htv
    go_upto_region 3 with fail
    refine wp_region_stay (by kernel_rfl) (by kernel_rfl) ?_
    repeat (go_big_quiet_step (fail))
    refine wpQuiet_nil ?_
    intro w' hw'
    obtain ⟨V, rfl⟩ := hw'
    have HB3 := Lib.hid (HB2.out.trans (V.below.mono HB2.out.size))
    go_wp2_with fail
    go_ret2
    exact ⟨rfl, HB3.out⟩
theorem ptickX_last (h : WX w p ap z g c A S now tn ta tw tt F) (hnow : now = 18446744073709551615) : Calls Try.prog 16 #[.pointer (some ⟨p, 0, none⟩)] w fun e w' => e = .returned (.tuple #[.slice none 0 0, .int .i64 15]) ∧ Below w.heap.size w w' := by
  have HX := Lib.hid h
  have HM := Lib.hid (pmade h)
  subst hnow
  clear h
  go_enter Try.func16, Try.ntmps16
  go_upto_region 3 with (first
    | (go_at_call 22
       refine HM.out.mono ?_
       rintro e u1 ⟨rfl, hbb⟩
       have HX1 := Lib.hid (HX.out.step hbb)
       have HB1 := Lib.hid hbb
       clear hbb))
  have x3 : u1.cell? ⟨p, 3, none⟩ = some (.int .u64 ((18446744073709551615 : Nat) : Int)) := blk_cell HX1.out.blk 3
  go_wp2_with fail
  go_ret2
  exact ⟨rfl, HB1.out⟩
set_option maxHeartbeats 1000000 in
theorem ptickX (h : WX w p ap z g c A S now tn ta tw tt F) (hA : A.Ok) (hnow : now < 18446744073709551615) (hta : ∀ i, A.at_ i ≠ 0 → ta i < 18446744073709551616) (hp : Plc (Lse 3 (now + 1)) S A ta (fun _ => False)) :
    Calls Try.prog 16 #[.pointer (some ⟨p, 0, none⟩)] w fun e w' => ∃ (S1 : Sl) (D : List Nat), Plc (Lse 0 (now + 1)) S1 A ta (fun _ => False) ∧ D.Perm (S1.at_ (slt 0 (now + 1))) ∧ D.Pairwise (fun x y => ¬ tt y < tt x) ∧ ∃ E dE F' S2 ta2 tw2 tt2, e = .returned (.tuple #[.slice E D.length dE, .int .i64 0]) ∧ OwnC w' w.heap.size 58 3 E D.length dE (rwc 3 fev (D.map fun x => (⟨x, A.at_ x, now + 1, tw x⟩ : Tm))) ∧
      WX w' p ap z g c (goneL A D) S2 (now + 1) tn ta2 tw2 tt2 F' ∧ Ext F F' w w' ∧ (∀ k, Value.ownBlock (.slice E D.length dE) = some k → ¬ F' k) ∧ Plc (Lse 0 (now + 1)) S2 (goneL A D) ta2 (fun _ => False) ∧ ∀ i, ¬ i ∈ D → ta2 i = ta i ∧ tw2 i = tw i ∧ tt2 i = tt i := by
  have HX := Lib.hid h
  have HM := Lib.hid (pmade h)
  have HA := Lib.hid hA
  have HTA := Lib.hid hta
  have HP := Lib.hid hp
  have n1 : ((now : Int) == 18446744073709551615) = false := by simp; omega
  have zn : IntKind.u64.wrap ((now : Int) + 1) = (now : Int) + 1 := by rw [IntKind.wrap_u64]; omega
  clear h hA hta hp
  go_enter Try.func16, Try.ntmps16
  go_upto_region 3 with (first
    | (go_at_call 22
       refine HM.out.mono ?_
       rintro e u1 ⟨rfl, hbb⟩
       have HX1 := Lib.hid (HX.out.step hbb)
       have HE1 := Lib.hid ((Ext.refl F w).step hbb)
       clear hbb))
  have x3 : u1.cell? ⟨p, 3, none⟩ = some (.int .u64 (now : Int)) := blk_cell HX1.out.blk 3
  have y3 := blk_free HX1.out.blk 3
  have HX2 : Hid (WX (u1.setCell ⟨p, 3, none⟩ (.int .u64 ((now : Int) + 1))) p ap z g c A S (now + 1) tn ta tw tt F) := Lib.hid (by
    have := HX1.out.setNow (now + 1)
    rwa [show ((now + 1 : Nat) : Int) = (now : Int) + 1 by omega] at this)
  have HE2 := Lib.hid (HE1.out.setCell (p := ⟨p, 3, none⟩) HX1.out.mp (.int .u64 ((now : Int) + 1)))
  go_upto_region 6 with fail
  clear x3 y3 HX1 HE1 HM HX
  generalize u1.setCell ⟨p, 3, none⟩ (.int .u64 ((now : Int) + 1)) = u2 at *
  have HLY := Lib.hid (pwlayAnew HX2.out (by omega) (by omega) HTA.out HP.out)
  go_upto_region 7 with (first
    | (go_at_call 36
       refine HLY.out.mono ?_
       rintro e u3 ⟨rfl, S1, F3, hx3, he3, hp3⟩
       have HX3 := Lib.hid hx3
       have HE3 := Lib.hid (HE2.out.trans he3)
       have HP3 := Lib.hid hp3
       clear hx3 he3 hp3 HX2 HE2 HLY))
  have HFR := Lib.hid (pwfire HX3.out HA.out (by omega) HP3.out)
  go_wp2_with (first
    | (go_at_call 37
       refine HFR.out.mono ?_
       rintro e u4 ⟨D, hpm, hpw, E, dE, F4, S2, ta2, tw2, tt2, rfl, ho, hx4, he4, hnf, hp4, hs4⟩
       have HPM := Lib.hid hpm
       have HPW := Lib.hid hpw
       have HO := Lib.hid (ho.le HE3.out.kept.size)
       have HX4 := Lib.hid hx4
       have HE4 := Lib.hid (HE3.out.trans he4)
       have HNF := Lib.hid hnf
       have HP4 := Lib.hid hp4
       have HS4 := Lib.hid hs4
       clear hpm hpw ho hx4 he4 hnf hp4 hs4 HFR))
  go_ret2
  exact ⟨S1, D, HP3.out, HPM.out, HPW.out, E, dE, F4, S2, ta2, tw2, tt2, rfl, HO.out, HX4.out, HE4.out, HNF.out, HP4.out, HS4.out⟩
theorem pskipX (h : WX w p ap z g c A S now tn ta tw tt F) (t9 : Nat) (ht : t9 < 18446744073709551616) : Calls Try.prog 8 #[.pointer (some ⟨p, 0, none⟩), .int .u64 (t9 : Int)] w fun e w' => e = .returned (.int .i64 (if A.count = 0 then (if t9 < now then 2 else 0) else 13)) ∧ WX w' p ap z g c A S (if A.count = 0 then (if t9 < now then now else t9) else now) tn ta tw tt F ∧ Ext F F w w' := by
  have HX := Lib.hid h
  have HM := Lib.hid (pmade h)
  clear h
  obtain ⟨n, hn⟩ : ∃ n, n = A.count := ⟨_, rfl⟩
  have HN := Lib.hid hn
  rw [← hn]
  clear hn
  by_cases h0 : n = 0
  · subst h0
    by_cases h1 : t9 < now
    · have b1 : (t9 : Int) < (now : Int) := by omega
      rw [if_pos rfl, if_pos h1, if_pos rfl, if_pos h1]
      go_enter Try.func8, Try.ntmps8
      go_upto_region 3 with (first
        | (go_at_call 22
           refine HM.out.mono ?_
           rintro e u1 ⟨rfl, hbb⟩
           have HX1 := Lib.hid (HX.out.step hbb)
           have HE1 := Lib.hid ((Ext.refl F w).step hbb)
           clear hbb HX HM))
      have HLN := Lib.hid (pwlen HX1.out)
      rw [← HN.out] at HLN
      go_upto_region 5 with (first
        | (go_at_call 12
           refine HLN.out.mono ?_
           rintro e u2 ⟨rfl, hbb⟩
           have HX2 := Lib.hid (HX1.out.step hbb)
           have HE2 := Lib.hid (HE1.out.step hbb)
           clear hbb HX1 HE1 HLN))
      have x3 : u2.cell? ⟨p, 3, none⟩ = some (.int .u64 (now : Int)) := blk_cell HX2.out.blk 3
      go_wp2_with fail
      go_ret
      exact ⟨rfl, HX2.out, HE2.out⟩
    · have b1 : ¬ (t9 : Int) < (now : Int) := by omega
      rw [if_pos rfl, if_neg h1, if_pos rfl, if_neg h1]
      go_enter Try.func8, Try.ntmps8
      go_upto_region 3 with (first
        | (go_at_call 22
           refine HM.out.mono ?_
           rintro e u1 ⟨rfl, hbb⟩
           have HX1 := Lib.hid (HX.out.step hbb)
           have HE1 := Lib.hid ((Ext.refl F w).step hbb)
           clear hbb HX HM))
      have HLN := Lib.hid (pwlen HX1.out)
      rw [← HN.out] at HLN
      go_upto_region 5 with (first
        | (go_at_call 12
           refine HLN.out.mono ?_
           rintro e u2 ⟨rfl, hbb⟩
           have HX2 := Lib.hid (HX1.out.step hbb)
           have HE2 := Lib.hid (HE1.out.step hbb)
           clear hbb HX1 HE1 HLN))
      have x3 : u2.cell? ⟨p, 3, none⟩ = some (.int .u64 (now : Int)) := blk_cell HX2.out.blk 3
      have y3 := blk_free HX2.out.blk 3
      have HX3 := Lib.hid (HX2.out.setNow t9)
      have HE3 := Lib.hid (HE2.out.setCell (p := ⟨p, 3, none⟩) HX2.out.mp (.int .u64 (t9 : Int)))
      go_wp2_with fail
      go_ret
      exact ⟨rfl, HX3.out, HE3.out⟩
  · have b0 : (0 : Int) < (n : Int) := by omega
    rw [if_neg h0, if_neg h0]
    clear h0
    go_enter Try.func8, Try.ntmps8
    go_upto_region 3 with (first
      | (go_at_call 22
         refine HM.out.mono ?_
         rintro e u1 ⟨rfl, hbb⟩
         have HX1 := Lib.hid (HX.out.step hbb)
         have HE1 := Lib.hid ((Ext.refl F w).step hbb)
         clear hbb HX HM))
    have HLN := Lib.hid (pwlen HX1.out)
    rw [← HN.out] at HLN
    go_wp2_with (first
      | (go_at_call 12
         refine HLN.out.mono ?_
         rintro e u2 ⟨rfl, hbb⟩
         have HX2 := Lib.hid (HX1.out.step hbb)
         have HE2 := Lib.hid (HE1.out.step hbb)
         clear hbb HX1 HE1 HLN))
    go_ret
    exact ⟨rfl, HX2.out, HE2.out⟩
end
end Go.Proofs.Ytkmakdhlaenaoaa
