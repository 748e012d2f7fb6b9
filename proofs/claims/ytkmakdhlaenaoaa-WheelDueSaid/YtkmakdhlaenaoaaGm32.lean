import Derived.Test.YtkmakdhlaenaoaaGm31
/- Stage 11: the landed Due, Tick, Skip, Copy, New. -/
namespace Go.Proofs.Ytkmakdhlaenaoaa
set_option maxRecDepth 100000
open Go.RowKit Go.Shelf
section
variable {w : World} {p ap z g c : Nat} {A : Ar} {S : Sl} {now tn : Nat} {ta tw tt : Nat → Nat} {F : Nat → Prop}
set_option maxHeartbeats 1000000 in
theorem pdueX (h : WX w p ap z g c A S now tn ta tw tt F) (hi : Int) (k : Nat) (b : Bool) (hl : A.live hi k = b) (v : Nat) (hv : b = true → ∃ i : Nat, hi = (i : Int) ∧ i < A.has.length ∧ ta i = v) (hv0 : b = false → v = 0) : Calls Try.prog 13 #[.pointer (some ⟨p, 0, none⟩), .agg #[.int .i64 hi, .int .u64 (k : Int)]] w fun e w' => e = .returned (.tuple #[.int .u64 (v : Int), .bool b]) ∧ Below w.heap.size w w' := by
  have hbx := below_alloc w (.cells #[.int .i64 hi, .int .u64 (k : Int)] 46)
  have HX1 := Lib.hid (h.step hbx)
  have HB1 := Lib.hid hbx
  have HR1 : Hid ((w.alloc (.cells #[.int .i64 hi, .int .u64 (k : Int)] 46)).heap[w.heap.size]? = some (.cells #[.int .i64 hi, .int .u64 (k : Int)] 46 (0, 0))) := Lib.hid (heap_alloc_new w _)
  obtain ⟨r, hr⟩ : ∃ r, r = w.heap.size := ⟨_, rfl⟩
  rw [← hr] at HR1
  clear h hbx
  go_enter Try.func13, Try.ntmps13
  go_upto_region 1 with fail
  change Code.wp _ _ _ _ (w.alloc (.cells #[.int .i64 hi, .int .u64 (k : Int)] 46))
  rw [← hr]
  clear hr
  generalize w.alloc (.cells #[.int .i64 hi, .int .u64 (k : Int)] 46) = u1 at *
  have HMD : Hid (∀ V : Stay u1, Calls Try.prog 22 #[.pointer (some ⟨p, 0, none⟩)] V.w fun e w' => e = .returned (.bool true) ∧ Below V.w.heap.size V.w w') := Lib.hid fun V => pmade (HX1.out.step V.below)
  have HLV : Hid (∀ V : Stay u1, Calls Try.prog 32 #[.pointer (some ⟨ap, 0, none⟩), .agg #[.int .i64 hi, .int .u64 (k : Int)]] V.w fun e w' => e = .returned (.bool b) ∧ Below V.w.heap.size V.w w') := Lib.hid fun V => (HX1.out.step V.below).arq fun Fa hPA => by
    have h9 := plive_any hPA HX1.out.n hi k
    rw [hl] at h9
    exact h9
  have y0 : ∀ V : Stay u1, V.w.cell? ⟨p, 0, none⟩ = some (.pointer (some ⟨ap, 0, none⟩)) := fun V => Stay.cell (blk_cell HX1.out.blk 0) V
  have z0 : ∀ V : Stay u1, V.w.cell? ⟨r, 0, none⟩ = some (.int .i64 hi) := fun V => Stay.cell (blk_cell HR1.out 0) V
  have z1 : ∀ V : Stay u1, V.w.cell? ⟨r, 1, none⟩ = some (.int .u64 (k : Int)) := fun V => Stay.cell (blk_cell HR1.out 1) V
  refine wp_region_stay (by kernel_rfl) (by kernel_rfl) ?_
  repeat (first
    | (refine qh_row rfl 46 (.tmp 3) rfl r rfl 46 #[.int .i64 hi, .int .u64 (k : Int)] (0, 0) _ (stay_hp HR1.out) Try.underlying46 rfl (by kernel_rfl) ?_
       simp only [Act.put, List.setIfInBounds_toArray, List.set_cons_zero, List.set_cons_succ])
    | go_big_quiet_step (first | (go_at_call 22; with_reducible exact Calls.stay _ (HMD.out _)) | (go_at_call 32; with_reducible exact Calls.stay _ (HLV.out _))))
  refine wpQuiet_nil ?_
  intro w' hw'
  obtain ⟨V, rfl⟩ := hw'
  have HX2 := Lib.hid (HX1.out.step V.below)
  have HB2 := Lib.hid (HB1.out.trans (V.below.mono HB1.out.size))
  have HR2 := Lib.hid (box_step HR1.out V.below)
  clear y0 z0 z1 HMD HLV HX1 HB1 HR1
  generalize V.w = u2 at *
  cases b with
  | false =>
    obtain rfl := hv0 rfl
    go_wp2_with fail
    go_ret2
    exact ⟨rfl, HB2.out⟩
  | true =>
    obtain ⟨i, rfl, hlt, htv⟩ := hv rfl
    obtain ⟨m, hm⟩ : ∃ m, m = A.has.length := ⟨_, rfl⟩
    have x2 : ∀ V : Stay u2, V.w.cell? ⟨p, 2, none⟩ = some (.slice (some ⟨g, 0, none⟩) m c) := fun V => by rw [hm]; exact Stay.cell (blk_cell HX2.out.blk 2) V
    have xt : ∀ V : Stay u2, V.w.cell? ⟨g, i * 3, none⟩ = some (.int .u64 (v : Int)) := fun V => by rw [← htv]; exact Stay.cell (HX2.out.t0 hlt) V
    have y0 : ∀ V : Stay u2, V.w.cell? ⟨r, 0, none⟩ = some (.int .i64 (i : Int)) := fun V => Stay.cell (blk_cell HR2.out 0) V
    have cap := HX2.out.cap9
    have hn9 := HX2.out.n
    rw [← hm] at hlt cap hn9
    have i0 : (0 : Int) ≤ (i : Int) := by omega
    have i1 : (i : Int) < (m : Int) := by omega
    have i2 : ((i : Int)).toNat = i := by omega
    clear hv hv0 hl hm htv
    go_upto_region 3 with fail
    refine wp_region_stay (by kernel_rfl) (by kernel_rfl) ?_
    repeat (go_big_quiet_step (fail))
    refine wpQuiet_nil ?_
    intro w' hw'
    obtain ⟨V, rfl⟩ := hw'
    have HB3 := Lib.hid (HB2.out.trans (V.below.mono HB2.out.size))
    go_wp2_with fail
    go_ret2
    exact ⟨rfl, HB3.out⟩
theorem ptickX_last (h : WX w p ap z g c A S now tn ta tw tt F) (hnow : now = 18446744073709551615) : Calls Try.prog 16 #[.pointer (some ⟨p, 0, none⟩)] w fun e w' => e = .returned (.tuple #[.slice none 0 0, .int .i64 15]) ∧ Below w.heap.size w w' := by
  have HX := Lib.hid h
  have HM := Lib.hid (pmade h)
  subst hnow
  clear h
  go_enter Try.func16, Try.ntmps16
  go_upto_region 3 with (first
    | (go_at_call 22
       refine HM.out.mono ?_
       rintro e u1 ⟨rfl, hbb⟩
       have HX1 := Lib.hid (HX.out.step hbb)
       have HB1 := Lib.hid hbb
       clear hbb))
  have x3 : u1.cell? ⟨p, 3, none⟩ = some (.int .u64 ((18446744073709551615 : Nat) : Int)) := blk_cell HX1.out.blk 3
  go_wp2_with fail
  go_ret2
  exact ⟨rfl, HB1.out⟩
set_option maxHeartbeats 1000000 in
theorem ptickX (h : WX w p ap z g c A S now tn ta tw tt F) (hA : A.Ok) (hnow : now < 18446744073709551615) (hta : ∀ i, A.at_ i ≠ 0 → ta i < 18446744073709551616) (hp : Plc (Lse 3 (now + 1)) S A ta (fun _ => False)) :
    Calls Try.prog 16 #[.pointer (some ⟨p, 0, none⟩)] w fun e w' => ∃ (S1 : Sl) (D : List Nat), Plc (Lse 0 (now + 1)) S1 A ta (fun _ => False) ∧ D.Perm (S1.at_ (slt 0 (now + 1))) ∧ D.Pairwise (fun x y => ¬ tt y < tt x) ∧ ∃ E dE F' S2 ta2 tw2 tt2, e = .returned (.tuple #[.slice E D.length dE, .int .i64 0]) ∧ OwnC w' w.heap.size 58 3 E D.length dE (rwc 3 fev (D.map fun x => (⟨x, A.at_ x, now + 1, tw x⟩ : Tm))) ∧
      WX w' p ap z g c (goneL A D) S2 (now + 1) tn ta2 tw2 tt2 F' ∧ Ext F F' w w' ∧ (∀ k, Value.ownBlock (.slice E D.length dE) = some k → ¬ F' k) ∧ Plc (Lse 0 (now + 1)) S2 (goneL A D) ta2 (fun _ => False) ∧ ∀ i, ¬ i ∈ D → ta2 i = ta i ∧ tw2 i = tw i ∧ tt2 i = tt i := by
  have HX := Lib.hid h
  have HM := Lib.hid (pmade h)
  have HA := Lib.hid hA
  have HTA := Lib.hid hta
  have HP := Lib.hid hp
  have n1 : ((now : Int) == 18446744073709551615) = false := by simp; omega
  have zn : IntKind.u64.wrap ((now : Int) + 1) = (now : Int) + 1 := by rw [IntKind.wrap_u64]; omega
  clear h hA hta hp
  go_enter Try.func16, Try.ntmps16
  go_upto_region 3 with (first
    | (go_at_call 22
       refine HM.out.mono ?_
       rintro e u1 ⟨rfl, hbb⟩
       have HX1 := Lib.hid (HX.out.step hbb)
       have HE1 := Lib.hid ((Ext.refl F w).step hbb)
       clear hbb))
  have x3 : u1.cell? ⟨p, 3, none⟩ = some (.int .u64 (now : Int)) := blk_cell HX1.out.blk 3
  have y3 := blk_free HX1.out.blk 3
  have HX2 : Hid (WX (u1.setCell ⟨p, 3, none⟩ (.int .u64 ((now : Int) + 1))) p ap z g c A S (now + 1) tn ta tw tt F) := Lib.hid (by
    have := HX1.out.setNow (now + 1)
    rwa [show ((now + 1 : Nat) : Int) = (now : Int) + 1 by omega] at this)
  have HE2 := Lib.hid (HE1.out.setCell (p := ⟨p, 3, none⟩) HX1.out.mp (.int .u64 ((now : Int) + 1)))
  go_upto_region 6 with fail
  clear x3 y3 HX1 HE1 HM HX
  generalize u1.setCell ⟨p, 3, none⟩ (.int .u64 ((now : Int) + 1)) = u2 at *
  have HLY := Lib.hid (pwlayAnew HX2.out (by omega) (by omega) HTA.out HP.out)
  go_upto_region 7 with (first
    | (go_at_call 36
       refine HLY.out.mono ?_
       rintro e u3 ⟨rfl, S1, F3, hx3, he3, hp3⟩
       have HX3 := Lib.hid hx3
       have HE3 := Lib.hid (HE2.out.trans he3)
       have HP3 := Lib.hid hp3
       clear hx3 he3 hp3 HX2 HE2 HLY))
  have HFR := Lib.hid (pwfire HX3.out HA.out (by omega) HP3.out)
  go_wp2_with (first
    | (go_at_call 37
       refine HFR.out.mono ?_
       rintro e u4 ⟨D, hpm, hpw, E, dE, F4, S2, ta2, tw2, tt2, rfl, ho, hx4, he4, hnf, hp4, hs4⟩
       have HPM := Lib.hid hpm
       have HPW := Lib.hid hpw
       have HO := Lib.hid (ho.le HE3.out.kept.size)
       have HX4 := Lib.hid hx4
       have HE4 := Lib.hid (HE3.out.trans he4)
       have HNF := Lib.hid hnf
       have HP4 := Lib.hid hp4
       have HS4 := Lib.hid hs4
       clear hpm hpw ho hx4 he4 hnf hp4 hs4 HFR))
  go_ret2
  exact ⟨S1, D, HP3.out, HPM.out, HPW.out, E, dE, F4, S2, ta2, tw2, tt2, rfl, HO.out, HX4.out, HE4.out, HNF.out, HP4.out, HS4.out⟩
theorem pskipX (h : WX w p ap z g c A S now tn ta tw tt F) (t9 : Nat) (ht : t9 < 18446744073709551616) : Calls Try.prog 8 #[.pointer (some ⟨p, 0, none⟩), .int .u64 (t9 : Int)] w fun e w' => e = .returned (.int .i64 (if A.count = 0 then (if t9 < now then 2 else 0) else 13)) ∧ WX w' p ap z g c A S (if A.count = 0 then (if t9 < now then now else t9) else now) tn ta tw tt F ∧ Ext F F w w' := by
  have HX := Lib.hid h
  have HM := Lib.hid (pmade h)
  clear h
  obtain ⟨n, hn⟩ : ∃ n, n = A.count := ⟨_, rfl⟩
  have HN := Lib.hid hn
  rw [← hn]
  clear hn
  by_cases h0 : n = 0
  · subst h0
    by_cases h1 : t9 < now
    · have b1 : (t9 : Int) < (now : Int) := by omega
      rw [if_pos rfl, if_pos h1, if_pos rfl, if_pos h1]
      go_enter Try.func8, Try.ntmps8
      go_upto_region 3 with (first
        | (go_at_call 22
           refine HM.out.mono ?_
           rintro e u1 ⟨rfl, hbb⟩
           have HX1 := Lib.hid (HX.out.step hbb)
           have HE1 := Lib.hid ((Ext.refl F w).step hbb)
           clear hbb HX HM))
      have HLN := Lib.hid (pwlen HX1.out)
      rw [← HN.out] at HLN
      go_upto_region 5 with (first
        | (go_at_call 12
           refine HLN.out.mono ?_
           rintro e u2 ⟨rfl, hbb⟩
           have HX2 := Lib.hid (HX1.out.step hbb)
           have HE2 := Lib.hid (HE1.out.step hbb)
           clear hbb HX1 HE1 HLN))
      have x3 : u2.cell? ⟨p, 3, none⟩ = some (.int .u64 (now : Int)) := blk_cell HX2.out.blk 3
      go_wp2_with fail
      go_ret
      exact ⟨rfl, HX2.out, HE2.out⟩
    · have b1 : ¬ (t9 : Int) < (now : Int) := by omega
      rw [if_pos rfl, if_neg h1, if_pos rfl, if_neg h1]
      go_enter Try.func8, Try.ntmps8
      go_upto_region 3 with (first
        | (go_at_call 22
           refine HM.out.mono ?_
           rintro e u1 ⟨rfl, hbb⟩
           have HX1 := Lib.hid (HX.out.step hbb)
           have HE1 := Lib.hid ((Ext.refl F w).step hbb)
           clear hbb HX HM))
      have HLN := Lib.hid (pwlen HX1.out)
      rw [← HN.out] at HLN
      go_upto_region 5 with (first
        | (go_at_call 12
           refine HLN.out.mono ?_
           rintro e u2 ⟨rfl, hbb⟩
           have HX2 := Lib.hid (HX1.out.step hbb)
           have HE2 := Lib.hid (HE1.out.step hbb)
           clear hbb HX1 HE1 HLN))
      have x3 : u2.cell? ⟨p, 3, none⟩ = some (.int .u64 (now : Int)) := blk_cell HX2.out.blk 3
      have y3 := blk_free HX2.out.blk 3
      have HX3 := Lib.hid (HX2.out.setNow t9)
      have HE3 := Lib.hid (HE2.out.setCell (p := ⟨p, 3, none⟩) HX2.out.mp (.int .u64 (t9 : Int)))
      go_wp2_with fail
      go_ret
      exact ⟨rfl, HX3.out, HE3.out⟩
  · have b0 : (0 : Int) < (n : Int) := by omega
    rw [if_neg h0, if_neg h0]
    clear h0
    go_enter Try.func8, Try.ntmps8
    go_upto_region 3 with (first
      | (go_at_call 22
         refine HM.out.mono ?_
         rintro e u1 ⟨rfl, hbb⟩
         have HX1 := Lib.hid (HX.out.step hbb)
         have HE1 := Lib.hid ((Ext.refl F w).step hbb)
         clear hbb HX HM))
    have HLN := Lib.hid (pwlen HX1.out)
    rw [← HN.out] at HLN
    go_wp2_with (first
      | (go_at_call 12
         refine HLN.out.mono ?_
         rintro e u2 ⟨rfl, hbb⟩
         have HX2 := Lib.hid (HX1.out.step hbb)
         have HE2 := Lib.hid (HE1.out.step hbb)
         clear hbb HX1 HE1 HLN))
    go_ret
    exact ⟨rfl, HX2.out, HE2.out⟩
end
end Go.Proofs.Ytkmakdhlaenaoaa
/- Stage 11: the landed Copy, New. -/
namespace Go.Proofs.Ytkmakdhlaenaoaa
set_option maxRecDepth 100000
open Go.RowKit Go.Shelf
theorem Try.infoTM : (Try.prog.info? 81).map (fun i => (i.zero, i.size, i.bytes)) = some (some (.agg #[.int .u64 0, .int .u64 0, .int .u64 0]), 3, 24) := by kernel_rfl
set_option maxHeartbeats 1000000 in
theorem pcloneT {w : World} {g n c : Nat} {f : Nat → Value} (h : OwnC w 0 81 3 (some ⟨g, 0, none⟩) n c f) (hpos : 0 < n) (hn : n ≤ 70000) (hone : ∀ k, (f k).oneCell' = true) : Calls Try.prog 42 #[.slice (some ⟨g, 0, none⟩) n c] w fun e w' => ∃ g2 c2, e = .returned (.slice (some ⟨g2, 0, none⟩) n c2) ∧ w.heap.size ≤ g2 ∧ OwnC w' w.heap.size 81 3 (some ⟨g2, 0, none⟩) n c2 f ∧ Below w.heap.size w w' := by
  obtain ⟨i0, hi0, hz0, hz1, hz2⟩ := info_parts Try.infoTM
  have HI0 := Lib.hid hi0
  have HZ0 := Lib.hid hz0
  have HZ1 := Lib.hid hz1
  have HZ2 := Lib.hid hz2
  have HO4 : Hid (OwnC (w.alloc (.cells #[] 81)) w.heap.size 81 3 (some ⟨w.heap.size, 0, none⟩) 0 0 (fun _ => .int .u64 0)) := Lib.hid (OwnC.fresh w _ _ rfl (Nat.le_refl _) _ _ _)
  have HR4 := Lib.hid (h.below (below_alloc w (.cells #[] 81))).rd
  clear hi0 hz0 hz1 hz2 h
  have hnil : ∀ W, (binOp .eql 62 (.slice (some ⟨g, 0, none⟩) n c) (.slice none 0 0)).run Try.prog W = .ok (.bool false) W := fun W => by kernel_rfl
  go_enter Try.func42, Try.ntmps42
  go_wp2_with (first
    | (at_builtin
       refine wpList_append_vals rfl (.tmp 5) (.tmp 6) 62 rfl w.heap.size 81 i0 (.agg #[.int .u64 0, .int .u64 0, .int .u64 0]) 3 Try.underlying62 HI0.out HZ0.out HZ1.out rfl (by decide) rfl HO4.out rfl HR4.out (fun k _ => hone k) (by unfold maxLen; omega) (by rw [HZ2.out]; omega) (alloc_le w _) ?_
       intro A2 c2 u5 hown5 hg5 _
       have HO5 : Hid (OwnC u5 w.heap.size 81 3 A2 n c2 f) := Lib.hid (by
         rw [Nat.zero_add] at hown5
         exact hown5.same fun k _ => by unfold catV; rw [if_neg (by omega)]; rfl)
       have HB5 : Hid (Below w.heap.size w u5) := Lib.hid ((below_alloc w _).grown hg5 (alloc_le w _) fun k hk => HO4.out.at_ k hk)
       rw [Nat.zero_add]
       clear hown5 hg5))
  go_ret
  obtain ⟨g2, hg2, hgb, _⟩ := HO5.out.lies hpos
  subst hg2
  exact ⟨g2, c2, rfl, hgb, HO5.out, HB5.out⟩

theorem pz_copy {w : World} {p : Nat} {s : Sl} {F : Nat → Prop} (hs : s.Fit) (h : PZ w p s F) : Calls Try.prog 41 #[.pointer (some ⟨p, 0, none⟩)] w fun e w' => ∃ b F', e = .returned (.pointer (some ⟨b, 0, none⟩)) ∧ PZ w' b s F' ∧ (∀ k, F' k → w.heap.size ≤ k ∧ k < w'.heap.size) ∧ Below w.heap.size w w' := by
  obtain ⟨A, h⟩ := h
  exact pa_copy hs h
set_option maxHeartbeats 2000000 in
theorem pwcopyX {w : World} {p ap z g c : Nat} {A : Ar} {S : Sl} {now tn : Nat} {ta tw tt : Nat → Nat} {F : Nat → Prop} (h : WX w p ap z g c A S now tn ta tw tt F) (hS : S.Fit) : Calls Try.prog 19 #[.pointer (some ⟨p, 0, none⟩)] w fun e w' => ∃ b a2 z2 g2 c2 F', e = .returned (.pointer (some ⟨b, 0, none⟩)) ∧ WX w' b a2 z2 g2 c2 A S now tn ta tw tt F' ∧ (∀ k, F' k → w.heap.size ≤ k ∧ k < w'.heap.size) ∧ Below w.heap.size w w' := by
  have HX := Lib.hid h
  have HMD := Lib.hid (pmade h)
  have HFIT := Lib.hid hS
  have HPOS := Lib.hid h.pos
  have hn9 := h.n
  obtain ⟨m, hm⟩ : ∃ m, m = A.has.length := ⟨_, rfl⟩
  have HMM := Lib.hid hm
  rw [← hm] at hn9
  clear h hS
  go_enter Try.func19, Try.ntmps19
  go_upto_region 3 with (first
    | (go_at_call 22
       refine HMD.out.mono ?_
       rintro e u1 ⟨rfl, hbb⟩
       have HX1 := Lib.hid (HX.out.step hbb)
       have HB1 := Lib.hid hbb
       clear hbb HX HMD))
  have hblk : u1.heap[p]? = some (.cells #[.pointer (some ⟨ap, 0, none⟩), .pointer (some ⟨z, 0, none⟩), .slice (some ⟨g, 0, none⟩) m c, .int .u64 (now : Int), .int .u64 (tn : Int)] 64 (0, 0)) := by rw [hm]; exact HX1.out.blk
  have HBK := Lib.hid hblk
  clear hblk hm
  go_upto_region 4 with (first
    | (refine wpList_load_row rfl 64 (.tmp 8) rfl p rfl 64 #[.pointer (some ⟨ap, 0, none⟩), .pointer (some ⟨z, 0, none⟩), .slice (some ⟨g, 0, none⟩) m c, .int .u64 (now : Int), .int .u64 (tn : Int)] (0, 0) _ HBK.out Try.underlying64 rfl (by kernel_rfl) ?_))
  have HM2 : Hid ((u1.alloc (.cells #[.pointer (some ⟨ap, 0, none⟩), .pointer (some ⟨z, 0, none⟩), .slice (some ⟨g, 0, none⟩) m c, .int .u64 (now : Int), .int .u64 (tn : Int)] 64)).heap[u1.heap.size]? = some (.cells #[.pointer (some ⟨ap, 0, none⟩), .pointer (some ⟨z, 0, none⟩), .slice (some ⟨g, 0, none⟩) m c, .int .u64 (now : Int), .int .u64 (tn : Int)] 64 (0, 0))) := Lib.hid (heap_alloc_new u1 _)
  have HB2 := Lib.hid (HB1.out.alloc HB1.out.size (.cells #[.pointer (some ⟨ap, 0, none⟩), .pointer (some ⟨z, 0, none⟩), .slice (some ⟨g, 0, none⟩) m c, .int .u64 (now : Int), .int .u64 (tn : Int)] 64))
  have HX2 := Lib.hid (HX1.out.step (below_alloc u1 (.cells #[.pointer (some ⟨ap, 0, none⟩), .pointer (some ⟨z, 0, none⟩), .slice (some ⟨g, 0, none⟩) m c, .int .u64 (now : Int), .int .u64 (tn : Int)] 64)))
  have HBL : Hid (w.heap.size ≤ u1.heap.size) := Lib.hid HB1.out.size
  have HBN : Hid (∀ k, F k → k < u1.heap.size) := Lib.hid HX1.out.old
  change Code.wp _ _ _ _ (u1.alloc (.cells #[.pointer (some ⟨ap, 0, none⟩), .pointer (some ⟨z, 0, none⟩), .slice (some ⟨g, 0, none⟩) m c, .int .u64 (now : Int), .int .u64 (tn : Int)] 64))
  generalize u1.heap.size = b at *
  generalize u1.alloc (.cells #[.pointer (some ⟨ap, 0, none⟩), .pointer (some ⟨z, 0, none⟩), .slice (some ⟨g, 0, none⟩) m c, .int .u64 (now : Int), .int .u64 (tn : Int)] 64) = u2 at *
  have x0 : u2.cell? ⟨p, 0, none⟩ = some (.pointer (some ⟨ap, 0, none⟩)) := blk_cell HX2.out.blk 0
  obtain ⟨Fa0, Fz0, hpa0, hpz0, har⟩ := HX2.out.ar
  have HPA0 := Lib.hid hpa0
  have HPZ0 := Lib.hid hpz0
  have HNBZ : Hid (∀ k, Fz0 k → ¬ k = b) := Lib.hid fun k hk e => by
    have h1 := HBN.out k (har.2.1 k hk).1
    omega
  clear hpa0 hpz0 har
  go_upto_region 5 with (first
    | (go_at_call 40
       refine (pcopy_new HX2.out.n HPA0.out).mono ?_
       rintro e u3 ⟨a2, Fa, rfl, hpa, hfa, hb⟩
       have HM3 : Hid (u3.heap[b]? = some (.cells #[.pointer (some ⟨ap, 0, none⟩), .pointer (some ⟨z, 0, none⟩), .slice (some ⟨g, 0, none⟩) m c, .int .u64 (now : Int), .int .u64 (tn : Int)] 64 (0, 0))) := Lib.hid ((hb.block _ (lt_heap HM2.out)).trans HM2.out)
       have HX3 := Lib.hid (HX2.out.step hb)
       have HB3 := Lib.hid (HB2.out.trans (hb.mono HB2.out.size))
       have HPZ3 := Lib.hid (HPZ0.out.keep (Kept.of_below hb fun _ => False) fun _ _ q => q)
       have HPA3 := Lib.hid hpa
       have HFA3 : Hid (∀ k, Fa k → b < k) := Lib.hid fun k hk => Nat.lt_of_lt_of_le (lt_heap HM2.out) (hfa k hk).1
       have x3 : u3.cell? ⟨b, 0, none⟩ = some (.pointer (some ⟨ap, 0, none⟩)) := blk_cell HM3.out 0
       have y3 := blk_free HM3.out 0
       clear hpa hfa hb x0))
  have HM4 : Hid ((u3.setCell ⟨b, 0, none⟩ (.pointer (some ⟨a2, 0, none⟩))).heap[b]? = some (.cells #[.pointer (some ⟨a2, 0, none⟩), .pointer (some ⟨z, 0, none⟩), .slice (some ⟨g, 0, none⟩) m c, .int .u64 (now : Int), .int .u64 (tn : Int)] 64 (0, 0))) := Lib.hid (blk_set HM3.out 0 _)
  have hk4 : Kept (fun k => k = b) u3 (u3.setCell ⟨b, 0, none⟩ (.pointer (some ⟨a2, 0, none⟩))) := Kept.setCell (R := fun k => k = b) (Kept.refl _ u3) (p := ⟨b, 0, none⟩) (.inl rfl) _
  have HNB2 : Hid (∀ k, F k → ¬ k = b) := Lib.hid fun k hF e => by
    have h1 := HBN.out k hF
    omega
  have HX4 := Lib.hid (HX3.out.keep hk4 HNB2.out)
  have HPA4 := Lib.hid (HPA3.out.keep hk4 fun k hk e => by have := HFA3.out k hk; omega)
  have HPZ4 := Lib.hid (HPZ3.out.keep hk4 fun k hk e => HNBZ.out k hk e)
  have HB4 := Lib.hid (HB3.out.setCell (p := ⟨b, 0, none⟩) HBL.out (.pointer (some ⟨a2, 0, none⟩)))
  clear x3 y3 hk4 HX3 HPA3 HPZ3 HB3 HM3
  generalize u3.setCell ⟨b, 0, none⟩ (.pointer (some ⟨a2, 0, none⟩)) = u4 at *
  have x1 : u4.cell? ⟨p, 1, none⟩ = some (.pointer (some ⟨z, 0, none⟩)) := blk_cell HX4.out.blk 1
  go_upto_region 6 with (first
    | (go_at_call 41
       refine (pz_copy HFIT.out HPZ4.out).mono ?_
       rintro e u5 ⟨z2, Fz, rfl, hpz, hfz, hb⟩
       have HM5 : Hid (u5.heap[b]? = some (.cells #[.pointer (some ⟨a2, 0, none⟩), .pointer (some ⟨z, 0, none⟩), .slice (some ⟨g, 0, none⟩) m c, .int .u64 (now : Int), .int .u64 (tn : Int)] 64 (0, 0))) := Lib.hid ((hb.block _ (lt_heap HM4.out)).trans HM4.out)
       have HX5 := Lib.hid (HX4.out.step hb)
       have HB5 := Lib.hid (HB4.out.trans (hb.mono HB4.out.size))
       have HPA5 := Lib.hid (HPA4.out.step hb)
       have HPZ5 := Lib.hid hpz
       have HFZ5 : Hid (∀ k, Fz k → b < k ∧ ¬ Fa k) := Lib.hid fun k hk => ⟨Nat.lt_of_lt_of_le (lt_heap HM4.out) (hfz k hk).1, fun hF => by have := HPA4.out.old k hF; have := (hfz k hk).1; omega⟩
       have x3 : u5.cell? ⟨b, 1, none⟩ = some (.pointer (some ⟨z, 0, none⟩)) := blk_cell HM5.out 1
       have y3 := blk_free HM5.out 1
       clear hpz hfz hb x1))
  have HM6 : Hid ((u5.setCell ⟨b, 1, none⟩ (.pointer (some ⟨z2, 0, none⟩))).heap[b]? = some (.cells #[.pointer (some ⟨a2, 0, none⟩), .pointer (some ⟨z2, 0, none⟩), .slice (some ⟨g, 0, none⟩) m c, .int .u64 (now : Int), .int .u64 (tn : Int)] 64 (0, 0))) := Lib.hid (blk_set HM5.out 1 _)
  have hk6 : Kept (fun k => k = b) u5 (u5.setCell ⟨b, 1, none⟩ (.pointer (some ⟨z2, 0, none⟩))) := Kept.setCell (R := fun k => k = b) (Kept.refl _ u5) (p := ⟨b, 1, none⟩) (.inl rfl) _
  have HX6 := Lib.hid (HX5.out.keep hk6 HNB2.out)
  have HPA6 := Lib.hid (HPA5.out.keep hk6 fun k hk e => by have := HFA3.out k hk; omega)
  have HPZ6 := Lib.hid (HPZ5.out.keep hk6 fun k hk e => by have := HFZ5.out k hk; omega)
  have HB6 := Lib.hid (HB5.out.setCell (p := ⟨b, 1, none⟩) HBL.out (.pointer (some ⟨z2, 0, none⟩)))
  clear x3 y3 hk6 HX5 HPA5 HPZ5 HB5 HM5
  generalize u5.setCell ⟨b, 1, none⟩ (.pointer (some ⟨z2, 0, none⟩)) = u6 at *
  have x2 : u6.cell? ⟨p, 2, none⟩ = some (.slice (some ⟨g, 0, none⟩) m c) := by rw [HMM.out]; exact blk_cell HX6.out.blk 2
  have HCL := Lib.hid (pcloneT HX6.out.row HPOS.out (by rw [← HMM.out]; omega) (wcell_one ta tw tt))
  rw [← HMM.out] at HCL
  go_upto_region 7 with (first
    | (go_at_call 42
       refine HCL.out.mono ?_
       rintro e u7 ⟨g2, c2, rfl, hg2, ho, hb⟩
       have HM7 : Hid (u7.heap[b]? = some (.cells #[.pointer (some ⟨a2, 0, none⟩), .pointer (some ⟨z2, 0, none⟩), .slice (some ⟨g, 0, none⟩) m c, .int .u64 (now : Int), .int .u64 (tn : Int)] 64 (0, 0))) := Lib.hid ((hb.block _ (lt_heap HM6.out)).trans HM6.out)
       have HB7 := Lib.hid (HB6.out.trans (hb.mono HB6.out.size))
       have HPA7 := Lib.hid (HPA6.out.step hb)
       have HPZ7 := Lib.hid (HPZ6.out.keep (Kept.of_below hb fun _ => False) fun _ _ q => q)
       have HO7 := Lib.hid (ho.le (Nat.zero_le _))
       have HG7 : Hid (b < g2 ∧ ¬ Fa g2 ∧ ¬ Fz g2) := Lib.hid ⟨Nat.lt_of_lt_of_le (lt_heap HM6.out) hg2, fun hF => by have := HPA6.out.old _ hF; omega, fun hF => by have := HPZ6.out.old _ hF; omega⟩
       have x3 : u7.cell? ⟨b, 2, none⟩ = some (.slice (some ⟨g, 0, none⟩) m c) := blk_cell HM7.out 2
       have y3 := blk_free HM7.out 2
       clear ho hg2 hb x2 HCL))
  have HM8 : Hid ((u7.setCell ⟨b, 2, none⟩ (.slice (some ⟨g2, 0, none⟩) m c2)).heap[b]? = some (.cells #[.pointer (some ⟨a2, 0, none⟩), .pointer (some ⟨z2, 0, none⟩), .slice (some ⟨g2, 0, none⟩) m c2, .int .u64 (now : Int), .int .u64 (tn : Int)] 64 (0, 0))) := Lib.hid (blk_set HM7.out 2 _)
  have hk8 : Kept (fun k => k = b) u7 (u7.setCell ⟨b, 2, none⟩ (.slice (some ⟨g2, 0, none⟩) m c2)) := Kept.setCell (R := fun k => k = b) (Kept.refl _ u7) (p := ⟨b, 2, none⟩) (.inl rfl) _
  have HPA8 := Lib.hid (HPA7.out.keep hk8 fun k hk e => by have := HFA3.out k hk; omega)
  have HPZ8 := Lib.hid (HPZ7.out.keep hk8 fun k hk e => by have := HFZ5.out k hk; omega)
  have HO8 : Hid (OwnC (u7.setCell ⟨b, 2, none⟩ (.slice (some ⟨g2, 0, none⟩) m c2)) 0 81 3 (some ⟨g2, 0, none⟩) m c2 (wcell ta tw tt)) := Lib.hid (HO7.out.block (Below.heap_setCell u7 ⟨b, 2, none⟩ _ g2 (fun e => absurd (show g2 = b from e) (Nat.ne_of_gt HG7.out.1))))
  have HB8 := Lib.hid (HB7.out.setCell (p := ⟨b, 2, none⟩) HBL.out (.slice (some ⟨g2, 0, none⟩) m c2))
  go_wp2_with fail
  go_ret
  have hg8 := HO8.out.ltA
  have hb8 := lt_heap HM8.out
  refine ⟨b, a2, z2, g2, c2, fun k => k = b ∨ k = g2 ∨ Fa k ∨ Fz k, rfl, ⟨?_, ?_, ⟨Fa, Fz, HPA8.out, HPZ8.out, fun k q => .inr (.inr (.inl q)), fun k q => ⟨.inr (.inr (.inr q)), (HFZ5.out k q).2⟩, fun q => by have := HFA3.out b q; omega, HG7.out.2.1, fun q => by have := (HFZ5.out b q).1; omega, HG7.out.2.2⟩, .inl rfl, .inr (.inl rfl), fun k hk => ?_, by rw [← HMM.out]; exact hn9⟩, fun k hk => ?_, HB8.out⟩
  · rw [← HMM.out]
    exact HM8.out
  · rw [← HMM.out]
    exact HO8.out
  · rcases hk with rfl | rfl | hk | hk
    · exact hb8
    · exact hg8
    · exact HPA8.out.old k hk
    · exact HPZ8.out.old k hk
  · have hw := HBL.out
    rcases hk with rfl | rfl | hk | hk
    · exact ⟨hw, hb8⟩
    · have := HG7.out.1
      exact ⟨by omega, hg8⟩
    · have := HFA3.out k hk
      exact ⟨by omega, HPA8.out.old k hk⟩
    · have := (HFZ5.out k hk).1
      exact ⟨by omega, HPZ8.out.old k hk⟩
theorem pwnew_bad (w : World) (n : Int) (h : n < 1 ∨ 65536 < n) : Calls Try.prog 7 #[.int .i64 n] w (ret (.tuple #[.pointer none, .int .i64 2]) w) := by
  have HN := Lib.hid (pnew_bad w n h)
  clear h
  go_enter Try.func7, Try.ntmps7
  go_wp2_with (first
    | (go_at_call 20
       refine HN.out.mono ?_
       rintro e u1 ⟨rfl, hbb⟩
       have HB1 := Lib.hid hbb
       clear hbb))
  go_ret2
  exact ⟨rfl, HB1.out⟩
set_option maxHeartbeats 1000000 in
theorem pwnewX (w : World) (n : Nat) (h1 : 1 ≤ n) (h2 : n ≤ 65536) : Calls Try.prog 7 #[.int .i64 (n : Int)] w fun e w' => ∃ p ap z g F, e = .returned (.tuple #[.pointer (some ⟨p, 0, none⟩), .int .i64 0]) ∧ WX w' p ap z g n (Ar.new n) (Sl.new 1024 n) 0 0 (fun _ => 0) (fun _ => 0) (fun _ => 0) F ∧ (∀ k, F k → w.heap.size ≤ k) ∧ Below w.heap.size w w' := by
  obtain ⟨i0, hi0, hz0, hz1, hz2⟩ := info_parts Try.infoTM
  have hmk : ∀ W : World, ∃ w', (Instr.makeSlice 62 (.int .i64 (n : Int)) (.int .i64 (n : Int))).run Try.prog W = .ok (.slice (some ⟨W.heap.size, 0, none⟩) n n) w' ∧ OwnC w' W.heap.size 81 3 (some ⟨W.heap.size, 0, none⟩) n n (wcell (fun _ => 0) (fun _ => 0) (fun _ => 0)) ∧ W.grownBy w' none := fun W => by
    obtain ⟨w', h1, h2, h3⟩ := run_make_full (P := Try.prog) (w := W) W.heap.size 62 81 i0 (.agg #[.int .u64 0, .int .u64 0, .int .u64 0]) 3 Try.underlying62 hi0 hz0 hz1 .i64 .i64 n (by rw [hz2]; omega) (by unfold maxLen; omega) (Nat.le_refl _)
    refine ⟨w', h1, ?_, h3⟩
    unfold OwnC
    have e1 : (madeCells (Value.agg #[.int .u64 0, .int .u64 0, .int .u64 0]).cells (n * 3)).toList = vals (n * 3) (wcell (fun _ => 0) (fun _ => 0) (fun _ => 0)) := by
      refine vals_eq (by simp [size_madeCells]) fun k hk => ?_
      show (madeCells #[.int .u64 0, .int .u64 0, .int .u64 0] (n * 3)).toList[k]? = _
      unfold wcell
      simp [madeCells]
      refine ⟨k, List.getElem?_range hk, ?_⟩
      rcases (show k % 3 = 0 ∨ k % 3 = 1 ∨ k % 3 = 2 by omega) with e | e | e
      · rw [e]; rfl
      · rw [e]; rfl
      · rw [e]; rfl
    rw [← e1]
    exact h2
  have HMK := Lib.hid hmk
  have HN := Lib.hid (pnew_st w n h1 h2)
  have HPN := Lib.hid fun W => pa_new W n 1024 h1 h2 (by omega) (by omega)
  clear hmk hi0 hz0 hz1 hz2
  go_enter Try.func7, Try.ntmps7
  go_upto_region 4 with (first
    | (go_at_call 20
       refine HN.out.mono ?_
       rintro e u1 ⟨ap, Fa, rfl, hpa, hfa, hbb⟩
       have HPA1 := Lib.hid hpa
       have HFA := Lib.hid hfa
       have HB1 := Lib.hid hbb
       clear hpa hfa hbb HN))
  go_upto_region 7 with (first
    | (go_at_call 21
       refine (HPN.out u1).mono ?_
       rintro e u2 ⟨z, Fz, rfl, hpz, hfz, hbb⟩
       have HPA2 := Lib.hid (HPA1.out.step hbb)
       have HPZ2 := Lib.hid hpz
       have HFZ : Hid (∀ k, Fz k → w.heap.size ≤ k ∧ ¬ Fa k) := Lib.hid fun k hk => ⟨Nat.le_trans HB1.out.size (hfz k hk).1, fun hF => by have := HPA1.out.old k hF; have := (hfz k hk).1; omega⟩
       have HB2 := Lib.hid (HB1.out.trans (hbb.mono HB1.out.size))
       clear hpz hfz hbb HPN HPA1 HB1))
  obtain ⟨u3, hm, ho, hg⟩ := HMK.out u2
  have hb3 : Below u2.heap.size u2 u3 := (Below.refl _ _).grown hg (Nat.le_refl _) (fun _ h => nomatch h)
  have HO3 := Lib.hid ho
  have HPA3 := Lib.hid (HPA2.out.step hb3)
  have HPZ3 := Lib.hid (HPZ2.out.keep (Kept.of_below hb3 fun _ => False) fun _ _ q => q)
  have HB3 := Lib.hid (HB2.out.trans (hb3.mono HB2.out.size))
  have HG3 : Hid (w.heap.size ≤ u2.heap.size ∧ ¬ Fa u2.heap.size ∧ ¬ Fz u2.heap.size) := Lib.hid ⟨HB2.out.size, fun hF => absurd (HPA2.out.old _ hF) (Nat.lt_irrefl _), fun hF => absurd (HPZ2.out.old _ hF) (Nat.lt_irrefl _)⟩
  clear ho hg hb3 HMK HPA2 HPZ2 HB2
  generalize u2.heap.size = g at *
  have hbd : ∀ w, (Instr.build 64 #[(0, .pointer (some ⟨ap, 0, none⟩)), (1, .pointer (some ⟨z, 0, none⟩)), (2, .slice (some ⟨g, 0, none⟩) n n)]).run Try.prog w = .ok (.agg #[.pointer (some ⟨ap, 0, none⟩), .pointer (some ⟨z, 0, none⟩), .slice (some ⟨g, 0, none⟩) n n, .int .u64 0, .int .u64 0]) w := fun w => by kernel_rfl
  go_wp2_with fail
  go_ret2
  have hl : (Ar.new n).has.length = n := List.length_replicate
  have hal := below_alloc u3 (.cells #[.pointer (some ⟨ap, 0, none⟩), .pointer (some ⟨z, 0, none⟩), .slice (some ⟨g, 0, none⟩) n n, .int .u64 0, .int .u64 0] 64)
  have hz : (u3.alloc (.cells #[.pointer (some ⟨ap, 0, none⟩), .pointer (some ⟨z, 0, none⟩), .slice (some ⟨g, 0, none⟩) n n, .int .u64 0, .int .u64 0] 64)).heap.size = u3.heap.size + 1 := by simp
  have hg3 := HO3.out.ltA
  have hw3 := HB3.out.size
  refine ⟨u3.heap.size, ap, z, g, fun k => k = u3.heap.size ∨ k = g ∨ Fa k ∨ Fz k, rfl, ⟨?_, ?_, ⟨Fa, Fz, HPA3.out.step hal, HPZ3.out.keep (Kept.of_below hal fun _ => False) (fun _ _ q => q), fun k q => .inr (.inr (.inl q)), fun k q => ⟨.inr (.inr (.inr q)), (HFZ.out k q).2⟩, fun q => absurd (HPA3.out.old _ q) (Nat.lt_irrefl _), HG3.out.2.1, fun q => absurd (HPZ3.out.old _ q) (Nat.lt_irrefl _), HG3.out.2.2⟩, .inl rfl, .inr (.inl rfl), fun k hk => ?_, by rw [hl]; exact h2⟩, fun k hk => ?_, HB3.out.trans (hal.mono hw3)⟩
  · rw [hl]
    exact heap_alloc_new u3 _
  · rw [hl]
    exact (HO3.out.le (Nat.zero_le _)).below hal
  · rcases hk with rfl | rfl | hk | hk
    · omega
    · omega
    · have := HPA3.out.old k hk
      omega
    · have := HPZ3.out.old k hk
      omega
  · rcases hk with rfl | rfl | hk | hk
    · exact hw3
    · exact HG3.out.1
    · exact HFA.out k hk
    · exact (HFZ.out k hk).1
end Go.Proofs.Ytkmakdhlaenaoaa
/- Stage 11: the landed wheel's calls, by what they stand for; what is not there. -/
namespace Go.Proofs.Ytkmakdhlaenaoaa
set_option maxRecDepth 100000
open Go.RowKit Go.Shelf
/-- The landed wheel at p stands for s. -/
def PW (w : World) (p : Nat) (s : Wh) (F : Nat → Prop) : Prop := ∃ ap z g c S ta tw tt, WX w p ap z g c s.a S s.now s.tn ta tw tt F ∧ WRep s S ta tw tt
theorem over_eq (s : Wh) (at_ : Nat) : s.over at_ = ovr s.now at_ := rfl
theorem nxt_eq (s : Wh) (at_ : Nat) : s.nxt at_ = max at_ (s.now + 1) := by
  unfold Wh.nxt
  split <;> omega
theorem ovr_now {now at_ : Nat} (h : ovr now at_ = false) (hn : now < 18446744073709551616) : now < 18446744073709551615 := by
  unfold ovr at h
  simp at h
  omega
section
variable {w w' : World} {p : Nat} {s : Wh} {F : Nat → Prop} {m : Nat}
theorem PW.keep {R : Nat → Prop} (h : PW w p s F) (hk : Kept R w w') (hd : ∀ k, F k → ¬ R k) : PW w' p s F := by
  obtain ⟨ap, z, g, c, S, ta, tw, tt, hx, hr⟩ := h
  exact ⟨ap, z, g, c, S, ta, tw, tt, hx.keep hk hd, hr⟩
theorem PW.old (h : PW w p s F) : ∀ k, F k → k < w.heap.size := by
  obtain ⟨ap, z, g, c, S, ta, tw, tt, hx, hr⟩ := h
  exact hx.old
theorem PW.ptr (h : PW w p s F) : F p := by
  obtain ⟨ap, z, g, c, S, ta, tw, tt, hx, hr⟩ := h
  exact hx.mp
theorem pw_arm (h : PW w p s F) (hs : s.Fit m) (at_ what : Nat) (ha : at_ < 18446744073709551616) : Calls Try.prog 15 #[.pointer (some ⟨p, 0, none⟩), .int .u64 (at_ : Int), .int .u64 (what : Int)] w fun e w' => e = .returned (.tuple #[.agg (s.armH at_), .int .i64 (s.armE at_)]) ∧ ∃ F', PW w' p (s.arm at_ what) F' ∧ Ext F F' w w' := by
  obtain ⟨ap, z, g, c, S, ta, tw, tt, hx, hr⟩ := h
  have hser := hs.ser
  have htn := hs.tn
  have hm := hs.m
  cases ho : ovr s.now at_ with
  | true =>
    have ho' : s.over at_ = true := ho
    have e1 : s.armE at_ = 15 := if_pos ho'
    have e2 : s.armH at_ = #[.int .i64 0, .int .u64 0] := if_pos ho'
    have e3 : s.arm at_ what = s := if_pos ho'
    rw [e1, e2, e3]
    refine (parmX_over hx at_ what ha ho).mono ?_
    rintro e w' ⟨rfl, F', hx', he⟩
    exact ⟨rfl, F', ⟨ap, z, g, c, S, ta, tw, tt, hx', hr⟩, he⟩
  | false =>
    have ho' : ¬ s.over at_ = true := by rw [over_eq, ho]; decide
    cases hw : s.a.which with
    | none =>
      have e1 : s.armE at_ = 9 := by unfold Wh.armE; rw [if_neg ho', hw]
      have e2 : s.armH at_ = #[.int .i64 0, .int .u64 0] := by unfold Wh.armH; rw [if_neg ho', hw]
      have e3 : s.arm at_ what = s := by unfold Wh.arm; rw [if_neg ho', hw]
      rw [e1, e2, e3]
      refine (parmX_full hx hs.ok.a (by omega) at_ what ha ho hw).mono ?_
      rintro e w' ⟨rfl, F', hx', he⟩
      exact ⟨rfl, F', ⟨ap, z, g, c, S, ta, tw, tt, hx', hr⟩, he⟩
    | some i =>
      have e1 : s.armE at_ = 0 := by unfold Wh.armE; rw [if_neg ho', hw]
      have e2 : s.armH at_ = #[.int .i64 (i : Int), .int .u64 ((s.a.serial : Int) + 1)] := by unfold Wh.armH; rw [if_neg ho', hw]
      have e3 : s.arm at_ what = ⟨s.a.taken i, s.l ++ [⟨i, s.a.serial + 1, s.nxt at_, what⟩], s.now, s.tn + 1⟩ := by unfold Wh.arm; rw [if_neg ho', hw]
      have hr' := hr.arm (what := what) hs.ok ha (by rw [over_eq]; exact ho) hw
      rw [e1, e2]
      refine (parmX_ok hx hs.ok.a (hr.lie.fit hs.n) (by omega) (by omega) (ovr_now ho hs.ok.now) at_ what ha ho i hw).mono ?_
      rintro e w' ⟨rfl, F', hx', he⟩
      rw [← nxt_eq] at hx'
      refine ⟨rfl, F', ⟨ap, z, g, c, _, _, _, _, ?_, hr'⟩, he⟩
      rw [e3]
      exact hx'
theorem pw_again (h : PW w p s F) (hs : s.Fit m) (hi : Int) (k : Nat) (at_ : Nat) (ha : at_ < 18446744073709551616) : Calls Try.prog 17 #[.pointer (some ⟨p, 0, none⟩), .agg #[.int .i64 hi, .int .u64 (k : Int)], .int .u64 (at_ : Int)] w fun e w' => e = .returned (.int .i64 (s.againE hi k at_)) ∧ ∃ F', PW w' p (s.again hi k at_) F' ∧ Ext F F' w w' := by
  obtain ⟨ap, z, g, c, S, ta, tw, tt, hx, hr⟩ := h
  have htn := hs.tn
  have hm := hs.m
  cases hl : s.a.live hi k with
  | false =>
    have hf := (Wh.not_live hs.ok hl).1
    have e1 : s.againE hi k at_ = 14 := by unfold Wh.againE; rw [hl]; rfl
    have e3 : s.again hi k at_ = s := by unfold Wh.again; rw [hf]
    rw [e1, e3]
    refine (pagainX_no hx hi k hl at_).mono ?_
    rintro e w' ⟨rfl, F', hx', he⟩
    exact ⟨rfl, F', ⟨ap, z, g, c, S, ta, tw, tt, hx', hr⟩, he⟩
  | true =>
    obtain ⟨t, ht, h1, h2, hf⟩ := Wh.live_ent hs.ok hl
    cases ho : ovr s.now at_ with
    | true =>
      have ho' : s.over at_ = true := ho
      have e1 : s.againE hi k at_ = 15 := by unfold Wh.againE; rw [if_pos hl, if_pos ho']
      have e3 : s.again hi k at_ = s := by unfold Wh.again; rw [hf]; exact if_pos ho'
      rw [e1, e3]
      refine (pagainX_over hx hi k hl at_ ha ho).mono ?_
      rintro e w' ⟨rfl, F', hx', he⟩
      exact ⟨rfl, F', ⟨ap, z, g, c, S, ta, tw, tt, hx', hr⟩, he⟩
    | false =>
      have ho' : ¬ s.over at_ = true := by rw [over_eq, ho]; decide
      have e1 : s.againE hi k at_ = 0 := by unfold Wh.againE; rw [if_pos hl, if_neg ho']
      subst h1
      have hin : t.i < s.a.has.length := by
        rcases Nat.lt_or_ge t.i s.a.has.length with q | q
        · exact q
        · obtain ⟨q1, q2⟩ := hs.ok.ent t ht
          rw [Ar.at_out q] at q1
          omega
      have hr' := hr.again hs.ok ha (by rw [over_eq]; exact ho) hl
      have e3 : (s.again (t.i : Int) k at_).a = s.a ∧ (s.again (t.i : Int) k at_).now = s.now ∧ (s.again (t.i : Int) k at_).tn = s.tn + 1 := by
        unfold Wh.again
        rw [hf]
        dsimp only
        rw [if_neg ho']
        exact ⟨rfl, rfl, rfl⟩
      rw [e1]
      refine (pagainX_ok hx (hr.lie.fit hs.n) (by omega) (ovr_now ho hs.ok.now) t.i k hin hl at_ ha ho).mono ?_
      rintro e w' ⟨rfl, F', hx', he⟩
      rw [← nxt_eq] at hx'
      refine ⟨rfl, F', ⟨ap, z, g, c, _, _, _, _, ?_, hr'⟩, he⟩
      rw [e3.1, e3.2.1, e3.2.2]
      exact hx'
theorem pw_cancel (h : PW w p s F) (hs : s.Fit m) (hi : Int) (k : Nat) : Calls Try.prog 18 #[.pointer (some ⟨p, 0, none⟩), .agg #[.int .i64 hi, .int .u64 (k : Int)]] w fun e w' => e = .returned (.int .i64 (s.cancelE hi k)) ∧ ∃ F', PW w' p (s.cancel hi k) F' ∧ Ext F F' w w' := by
  obtain ⟨ap, z, g, c, S, ta, tw, tt, hx, hr⟩ := h
  cases hl : s.a.live hi k with
  | false =>
    have e1 : s.cancelE hi k = 14 := by unfold Wh.cancelE; rw [hl]; rfl
    have e3 : s.cancel hi k = s := by unfold Wh.cancel; rw [hl]; rfl
    rw [e1, e3]
    refine (pcancelX_no hx hi k hl).mono ?_
    rintro e w' ⟨rfl, F', hx', he⟩
    exact ⟨rfl, F', ⟨ap, z, g, c, S, ta, tw, tt, hx', hr⟩, he⟩
  | true =>
    have e1 : s.cancelE hi k = 0 := if_pos hl
    obtain ⟨t, ht, h1, h2, hf⟩ := Wh.live_ent hs.ok hl
    subst h1
    have e3 : s.cancel (t.i : Int) k = ⟨s.a.gone t.i, Wh.drop s.l (t.i : Int) k, s.now, s.tn⟩ := by
      unfold Wh.cancel
      rw [if_pos hl]
      rfl
    rw [e1]
    refine (pcancelX_ok hx hs.ok.a (hr.lie.fit hs.n) t.i k hl).mono ?_
    rintro e w' ⟨rfl, F', hx', he⟩
    have hr' := hr.cancel (ta' := updN ta t.i 0) (tw' := updN tw t.i 0) (tt' := updN tt t.i 0) hs.ok hl (fun j hj => updN_ne hj) (fun j hj => updN_ne hj) (fun j hj => updN_ne hj)
    refine ⟨rfl, F', ⟨ap, z, g, c, _, _, _, _, ?_, hr'⟩, he⟩
    rw [e3]
    exact hx'
theorem pw_due (h : PW w p s F) (hs : s.Fit m) (hi : Int) (k : Nat) : Calls Try.prog 13 #[.pointer (some ⟨p, 0, none⟩), .agg #[.int .i64 hi, .int .u64 (k : Int)]] w (ret (.tuple (s.due hi k)) w) := by
  obtain ⟨ap, z, g, c, S, ta, tw, tt, hx, hr⟩ := h
  cases hl : s.a.live hi k with
  | false =>
    have hf := (Wh.not_live hs.ok hl).1
    have e1 : s.due hi k = #[.int .u64 ((0 : Nat) : Int), .bool false] := by unfold Wh.due; rw [hf]; rfl
    rw [e1]
    exact pdueX hx hi k false hl 0 (fun h => nomatch h) fun _ => rfl
  | true =>
    obtain ⟨t, ht, h1, h2, hf⟩ := Wh.live_ent hs.ok hl
    have e1 : s.due hi k = #[.int .u64 (t.at_ : Int), .bool true] := by unfold Wh.due; rw [hf]
    rw [e1]
    refine pdueX hx hi k true hl t.at_ (fun _ => ⟨t.i, h1.symm, ?_, (hr.ent t ht).1⟩) (fun h => nomatch h)
    rcases Nat.lt_or_ge t.i s.a.has.length with q | q
    · exact q
    · obtain ⟨q1, q2⟩ := hs.ok.ent t ht
      rw [Ar.at_out q] at q1
      omega
theorem pw_tick (h : PW w p s F) (hs : s.Fit m) : Calls Try.prog 16 #[.pointer (some ⟨p, 0, none⟩)] w fun e w' => ∃ E dE, e = .returned (.tuple #[.slice E s.told.length dE, .int .i64 s.tickE]) ∧ OwnC w' w.heap.size 58 3 E s.told.length dE (rwc 3 fev s.told) ∧ ∃ F', PW w' p s.tick F' ∧ Ext F F' w w' ∧ ∀ k, Value.ownBlock (.slice E s.told.length dE) = some k → ¬ F' k := by
  obtain ⟨ap, z, g, c, S, ta, tw, tt, hx, hr⟩ := h
  by_cases hl : s.now = 18446744073709551615
  · have e1 : s.told = [] := if_pos hl
    have e2 : s.tickE = 15 := if_pos hl
    have e3 : s.tick = s := if_pos hl
    rw [e1, e2, e3]
    refine (ptickX_last hx hl).mono ?_
    rintro e w' ⟨rfl, hb⟩
    exact ⟨none, 0, rfl, OwnC.nil_ _ _ _ _ _, F, ⟨ap, z, g, c, S, ta, tw, tt, hx.step hb, hr⟩, .of_below hb, fun k e => by cases e⟩
  · have e1 : s.told = s.fires := if_neg hl
    have e2 : s.tickE = 0 := if_neg hl
    have e3 : s.tick = s.ticked := if_neg hl
    have hlt : s.now < 18446744073709551615 := by have := hs.ok.now; omega
    rw [e1, e2, e3]
    have hta : ∀ i, s.a.at_ i ≠ 0 → ta i < 18446744073709551616 := fun i hi => by
      obtain ⟨t, ht, rfl⟩ := hs.ok.all i hi
      rw [(hr.ent t ht).1]
      exact (hs.ok.fut t ht).2
    refine (ptickX hx hs.ok.a hlt hta hr.next).mono ?_
    rintro e w' ⟨S1, D, hp1, hpm, hpw, E, dE, F', S2, ta2, tw2, tt2, rfl, ho, hx', he, hnf, hp2, hs2⟩
    have hD := due_sorted hr hs.ok hp1 hpm hpw
    have hmap : (D.map fun x => (⟨x, s.a.at_ x, s.now + 1, tw x⟩ : Tm)) = s.fires := by
      rw [hD, List.map_map]
      conv => rhs; rw [← List.map_id s.fires]
      refine List.map_congr_left fun t ht => ?_
      obtain ⟨q1, q2⟩ := Wh.mem_fires.1 ht
      show (⟨t.i, s.a.at_ t.i, s.now + 1, tw t.i⟩ : Tm) = t
      rw [(hs.ok.ent t q1).1, (hr.ent t q1).2.1, ← q2]
    have hlen : D.length = s.fires.length := by rw [hD, List.length_map]
    rw [hmap] at ho
    rw [hlen] at ho hnf ⊢
    rw [hD] at hx' hp2 hs2
    exact ⟨E, dE, rfl, ho, F', ⟨ap, z, g, c, S2, ta2, tw2, tt2, hx', hr.ticked (S' := S) hs.ok hp2 (fun j hj => (hs2 j hj).1) (fun j hj => (hs2 j hj).2.1) (fun j hj => (hs2 j hj).2.2)⟩, he, hnf⟩
theorem pw_skip (h : PW w p s F) (hs : s.Fit m) (t9 : Nat) (ht : t9 < 18446744073709551616) : Calls Try.prog 8 #[.pointer (some ⟨p, 0, none⟩), .int .u64 (t9 : Int)] w fun e w' => e = .returned (.int .i64 (s.skipE t9)) ∧ ∃ F', PW w' p (s.skip t9) F' ∧ Ext F F' w w' := by
  obtain ⟨ap, z, g, c, S, ta, tw, tt, hx, hr⟩ := h
  have hc := hs.ok.cnt
  refine (pskipX hx t9 ht).mono ?_
  rintro e w' ⟨rfl, hx', he⟩
  rw [← hc] at hx' ⊢
  refine ⟨rfl, F, ?_, he⟩
  unfold Wh.skip Wh.skipE
  by_cases h0 : s.l.length = 0
  · rw [if_pos h0] at hx' ⊢
    by_cases h1 : t9 < s.now
    · rw [if_pos h1] at hx' ⊢
      rw [if_neg (by decide)]
      exact ⟨ap, z, g, c, S, ta, tw, tt, hx', hr⟩
    · rw [if_neg h1] at hx' ⊢
      rw [if_pos rfl]
      exact ⟨ap, z, g, c, S, ta, tw, tt, hx', hr.skip hs.ok h0⟩
  · rw [if_neg h0] at hx' ⊢
    rw [if_neg (by decide)]
    exact ⟨ap, z, g, c, S, ta, tw, tt, hx', hr⟩
theorem pw_now (h : PW w p s F) : Calls Try.prog 11 #[.pointer (some ⟨p, 0, none⟩)] w (ret (.int .u64 (s.now : Int)) w) := by
  obtain ⟨ap, z, g, c, S, ta, tw, tt, hx, hr⟩ := h
  exact pnow hx
theorem pw_len (h : PW w p s F) (hs : s.Ok) : Calls Try.prog 12 #[.pointer (some ⟨p, 0, none⟩)] w (ret (.int .i64 (s.l.length : Int)) w) := by
  obtain ⟨ap, z, g, c, S, ta, tw, tt, hx, hr⟩ := h
  rw [hs.cnt]
  exact pwlen hx
theorem pw_copy (h : PW w p s F) (hs : s.Fit m) : Calls Try.prog 19 #[.pointer (some ⟨p, 0, none⟩)] w fun e w' => ∃ b F', e = .returned (.pointer (some ⟨b, 0, none⟩)) ∧ PW w' b s F' ∧ (∀ k, F' k → w.heap.size ≤ k ∧ k < w'.heap.size) ∧ Below w.heap.size w w' := by
  obtain ⟨ap, z, g, c, S, ta, tw, tt, hx, hr⟩ := h
  refine (pwcopyX hx (hr.lie.fit hs.n)).mono ?_
  rintro e w' ⟨b, a2, z2, g2, c2, F', rfl, hx', hF, hb⟩
  exact ⟨b, F', rfl, ⟨a2, z2, g2, c2, S, ta, tw, tt, hx', hr⟩, hF, hb⟩
end
theorem pw_new (w : World) (n : Nat) (h1 : 1 ≤ n) (h2 : n ≤ 65536) : Calls Try.prog 7 #[.int .i64 (n : Int)] w fun e w' => ∃ p F, e = .returned (.tuple #[.pointer (some ⟨p, 0, none⟩), .int .i64 0]) ∧ PW w' p (Wh.new n) F ∧ (∀ k, F k → w.heap.size ≤ k) ∧ Below w.heap.size w w' := by
  refine (pwnewX w n h1 h2).mono ?_
  rintro e w' ⟨p, ap, z, g, F, rfl, hx, hF, hb⟩
  exact ⟨p, F, rfl, ⟨ap, z, g, n, _, _, _, _, hx, WRep.new n⟩, hF, hb⟩
section
variable {w : World} {pa : Option Addr}
theorem ntick (HM : Calls Try.prog 22 #[.pointer pa] w (ret (.bool false) w)) : Calls Try.prog 16 #[.pointer pa] w (ret (.tuple #[.slice none 0 0, .int .i64 1]) w) := by
  have HMD := Lib.hid HM
  clear HM
  go_enter Try.func16, Try.ntmps16
  go_wp2_with (first
    | (go_at_call 22
       refine HMD.out.mono ?_
       rintro e u1 ⟨rfl, hbb⟩
       have HB1 := Lib.hid hbb
       clear hbb))
  go_ret2
  exact ⟨rfl, HB1.out⟩
theorem nskip (t9 : Int) (HM : Calls Try.prog 22 #[.pointer pa] w (ret (.bool false) w)) : Calls Try.prog 8 #[.pointer pa, .int .u64 t9] w (ret (.int .i64 1) w) := by
  have HMD := Lib.hid HM
  clear HM
  go_enter Try.func8, Try.ntmps8
  go_wp2_with (first
    | (go_at_call 22
       refine HMD.out.mono ?_
       rintro e u1 ⟨rfl, hbb⟩
       have HB1 := Lib.hid hbb
       clear hbb))
  go_ret
  exact ⟨rfl, HB1.out⟩
theorem ncopy (HM : Calls Try.prog 22 #[.pointer pa] w (ret (.bool false) w)) : Calls Try.prog 19 #[.pointer pa] w (ret (.pointer none) w) := by
  have HMD := Lib.hid HM
  clear HM
  go_enter Try.func19, Try.ntmps19
  go_wp2_with (first
    | (go_at_call 22
       refine HMD.out.mono ?_
       rintro e u1 ⟨rfl, hbb⟩
       have HB1 := Lib.hid hbb
       clear hbb))
  go_ret
  exact ⟨rfl, HB1.out⟩
theorem nagain (hi hk at_ : Int) (HM : ∀ W, Below w.heap.size w W → Calls Try.prog 22 #[.pointer pa] W (ret (.bool false) W)) : Calls Try.prog 17 #[.pointer pa, .agg #[.int .i64 hi, .int .u64 hk], .int .u64 at_] w (ret (.int .i64 1) w) := by
  have HB0 : Hid (Below w.heap.size w (w.alloc (.cells #[.int .i64 hi, .int .u64 hk] 46))) := Lib.hid (below_alloc w _)
  have HMD := Lib.hid (HM _ HB0.out)
  clear HM
  go_enter Try.func17, Try.ntmps17
  go_upto_region 1 with fail
  change Code.wp _ _ _ _ (w.alloc (.cells #[.int .i64 hi, .int .u64 hk] 46))
  generalize w.alloc (.cells #[.int .i64 hi, .int .u64 hk] 46) = u0 at *
  go_wp2_with (first
    | (go_at_call 22
       refine HMD.out.mono ?_
       rintro e u1 ⟨rfl, hbb⟩
       have HB1 := Lib.hid (HB0.out.trans (hbb.mono HB0.out.size))
       clear hbb))
  go_ret
  exact ⟨rfl, HB1.out⟩
theorem ncancel (hi hk : Int) (HM : ∀ W, Below w.heap.size w W → Calls Try.prog 22 #[.pointer pa] W (ret (.bool false) W)) : Calls Try.prog 18 #[.pointer pa, .agg #[.int .i64 hi, .int .u64 hk]] w (ret (.int .i64 1) w) := by
  have HB0 : Hid (Below w.heap.size w (w.alloc (.cells #[.int .i64 hi, .int .u64 hk] 46))) := Lib.hid (below_alloc w _)
  have HMD := Lib.hid (HM _ HB0.out)
  clear HM
  go_enter Try.func18, Try.ntmps18
  go_upto_region 1 with fail
  change Code.wp _ _ _ _ (w.alloc (.cells #[.int .i64 hi, .int .u64 hk] 46))
  generalize w.alloc (.cells #[.int .i64 hi, .int .u64 hk] 46) = u0 at *
  go_wp2_with (first
    | (go_at_call 22
       refine HMD.out.mono ?_
       rintro e u1 ⟨rfl, hbb⟩
       have HB1 := Lib.hid (HB0.out.trans (hbb.mono HB0.out.size))
       clear hbb))
  go_ret
  exact ⟨rfl, HB1.out⟩
theorem narm (at_ what : Int) (HM : ∀ W, Below w.heap.size w W → Calls Try.prog 22 #[.pointer pa] W (ret (.bool false) W)) : Calls Try.prog 15 #[.pointer pa, .int .u64 at_, .int .u64 what] w (ret (.tuple #[.agg #[.int .i64 0, .int .u64 0], .int .i64 1]) w) := by
  have HB0 : Hid (Below w.heap.size w (w.alloc (.cells #[.int .i64 0, .int .u64 0] 46))) := Lib.hid (below_alloc w _)
  have HR0 : Hid ((w.alloc (.cells #[.int .i64 0, .int .u64 0] 46)).heap[w.heap.size]? = some (.cells #[.int .i64 0, .int .u64 0] 46 (0, 0))) := Lib.hid (heap_alloc_new w _)
  have HMD := Lib.hid (HM _ HB0.out)
  obtain ⟨r, hr⟩ : ∃ r, r = w.heap.size := ⟨_, rfl⟩
  have HRW := Lib.hid hr
  rw [← hr] at HR0
  clear HM
  go_enter Try.func15, Try.ntmps15
  go_upto_region 1 with fail
  change Code.wp _ _ _ _ (w.alloc (.cells #[.int .i64 0, .int .u64 0] 46))
  rw [← hr]
  clear hr
  generalize w.alloc (.cells #[.int .i64 0, .int .u64 0] 46) = u0 at *
  go_wp2_with (first
    | (go_at_call 22
       refine HMD.out.mono ?_
       rintro e u3 ⟨rfl, hbb⟩
       have HB3 := Lib.hid (HB0.out.trans (hbb.mono HB0.out.size))
       have HR3 := Lib.hid (box_step HR0.out hbb)
       clear hbb)
    | (refine wpList_store_row rfl 46 (.tmp 6) (.tmp 13) rfl r #[.int .i64 0, .int .u64 0] rfl rfl 46 #[.int .i64 0, .int .u64 0] HR3.out (by kernel_rfl) rfl (by simp [Value.oneCell']) ?_))
  refine bodyPost_ret (v := .tuple #[.agg #[.int .i64 0, .int .u64 0], .int .i64 1]) (results_rowa Try.results15 _ _ r 46 #[.int .i64 0, .int .u64 0] (0, 0) _ rfl (setRow_heap _ r _ #[.int .i64 0, .int .u64 0] _ _ HR3.out) Try.underlying46 rfl (by kernel_rfl)) rfl ?_
  exact ⟨rfl, below_setRow HB3.out (by rw [HRW.out]; exact Nat.le_refl _) _⟩
theorem ndue (hi hk : Int) (HM : ∀ W, Below w.heap.size w W → Calls Try.prog 22 #[.pointer pa] W (ret (.bool false) W)) : Calls Try.prog 13 #[.pointer pa, .agg #[.int .i64 hi, .int .u64 hk]] w (ret (.tuple #[.int .u64 0, .bool false]) w) := by
  have HB0 : Hid (Below w.heap.size w (w.alloc (.cells #[.int .i64 hi, .int .u64 hk] 46))) := Lib.hid (below_alloc w _)
  have HMD : Hid (∀ V : Stay (w.alloc (.cells #[.int .i64 hi, .int .u64 hk] 46)), Calls Try.prog 22 #[.pointer pa] V.w fun e w' => e = .returned (.bool false) ∧ Below V.w.heap.size V.w w') := Lib.hid fun V => HM _ (HB0.out.trans (V.below.mono HB0.out.size))
  clear HM
  go_enter Try.func13, Try.ntmps13
  go_upto_region 1 with fail
  change Code.wp _ _ _ _ (w.alloc (.cells #[.int .i64 hi, .int .u64 hk] 46))
  generalize w.alloc (.cells #[.int .i64 hi, .int .u64 hk] 46) = u0 at *
  refine wp_region_stay (by kernel_rfl) (by kernel_rfl) ?_
  repeat (go_big_quiet_step (first | (go_at_call 22; with_reducible exact Calls.stay _ (HMD.out _))))
  refine wpQuiet_nil ?_
  intro w' hw'
  obtain ⟨V, rfl⟩ := hw'
  have HB3 := Lib.hid (HB0.out.trans (V.below.mono HB0.out.size))
  go_wp2_with fail
  go_ret2
  exact ⟨rfl, HB3.out⟩
end
end Go.Proofs.Ytkmakdhlaenaoaa
/- Stage 11: known; WheelNone. -/
namespace Go.Proofs.Ytkmakdhlaenaoaa
set_option maxRecDepth 100000
open Go.RowKit Go.Shelf
/-- At p stands s, in blocks from w on, beside those of X. -/
def WSt (w : World) (X : Nat → Prop) (W : World) (p : Nat) (s : Wh) : Prop := ∃ F, PW W p s F ∧ (∀ k, F k → w.heap.size ≤ k ∧ ¬ X k) ∧ (∀ k, X k → k < W.heap.size) ∧ Below w.heap.size w W
section
variable {w W W' : World} {X : Nat → Prop} {p : Nat} {s s' : Wh} {F F' : Nat → Prop} {m : Nat}
theorem WSt.below (h : WSt w X W p s) : Below w.heap.size w W := by
  obtain ⟨_, _, _, _, h⟩ := h
  exact h
theorem WSt.step (h : WSt w X W p s) (hb : Below W.heap.size W W') : WSt w X W' p s := by
  obtain ⟨F, h1, h2, h3, h4⟩ := h
  exact ⟨F, h1.keep (Kept.of_below hb fun _ => False) (fun _ _ q => q), h2, fun k hk => Nat.lt_of_lt_of_le (h3 k hk) hb.size, h4.trans (hb.mono h4.size)⟩
theorem WSt.ext (h2 : ∀ k, F k → w.heap.size ≤ k ∧ ¬ X k) (h3 : ∀ k, X k → k < W.heap.size) (h4 : Below w.heap.size w W) (hp : PW W' p s' F') (he : Ext F F' W W') : WSt w X W' p s' ∧ ∀ k, X k → W'.heap[k]? = W.heap[k]? := by
  refine ⟨⟨F', hp, fun k hk => ?_, fun k hk => Nat.lt_of_lt_of_le (h3 k hk) he.kept.size, h4.trans (he.kept.below h4.size fun k hk => (h2 k hk).1)⟩, fun k hk => he.kept.block k (h3 k hk) fun hF => (h2 k hF).2 hk⟩
  rcases he.sub k hk with q | ⟨q, _⟩
  · exact h2 k q
  · exact ⟨Nat.le_trans h4.size q, fun hx => absurd (h3 k hx) (by omega)⟩
theorem WSt.ptr (h : WSt w X W p s) : w.heap.size ≤ p := by
  obtain ⟨F, h1, h2, _⟩ := h
  exact (h2 p h1.ptr).1
theorem WSt.arm (h : WSt w X W p s) (hs : s.Fit m) (at_ what : Nat) (ha : at_ < 18446744073709551616) : Calls Try.prog 15 #[.pointer (some ⟨p, 0, none⟩), .int .u64 (at_ : Int), .int .u64 (what : Int)] W fun e w' => e = .returned (.tuple #[.agg (s.armH at_), .int .i64 (s.armE at_)]) ∧ WSt w X w' p (s.arm at_ what) ∧ ∀ k, X k → w'.heap[k]? = W.heap[k]? := by
  obtain ⟨F, h1, h2, h3, h4⟩ := h
  refine (pw_arm h1 hs at_ what ha).mono ?_
  rintro e w' ⟨rfl, F', hp, he⟩
  exact ⟨rfl, WSt.ext h2 h3 h4 hp he⟩
theorem WSt.again (h : WSt w X W p s) (hs : s.Fit m) (hi : Int) (k at_ : Nat) (ha : at_ < 18446744073709551616) : Calls Try.prog 17 #[.pointer (some ⟨p, 0, none⟩), .agg #[.int .i64 hi, .int .u64 (k : Int)], .int .u64 (at_ : Int)] W fun e w' => e = .returned (.int .i64 (s.againE hi k at_)) ∧ WSt w X w' p (s.again hi k at_) ∧ ∀ k, X k → w'.heap[k]? = W.heap[k]? := by
  obtain ⟨F, h1, h2, h3, h4⟩ := h
  refine (pw_again h1 hs hi k at_ ha).mono ?_
  rintro e w' ⟨rfl, F', hp, he⟩
  exact ⟨rfl, WSt.ext h2 h3 h4 hp he⟩
theorem WSt.cancel (h : WSt w X W p s) (hs : s.Fit m) (hi : Int) (k : Nat) : Calls Try.prog 18 #[.pointer (some ⟨p, 0, none⟩), .agg #[.int .i64 hi, .int .u64 (k : Int)]] W fun e w' => e = .returned (.int .i64 (s.cancelE hi k)) ∧ WSt w X w' p (s.cancel hi k) ∧ ∀ k, X k → w'.heap[k]? = W.heap[k]? := by
  obtain ⟨F, h1, h2, h3, h4⟩ := h
  refine (pw_cancel h1 hs hi k).mono ?_
  rintro e w' ⟨rfl, F', hp, he⟩
  exact ⟨rfl, WSt.ext h2 h3 h4 hp he⟩
theorem WSt.skip (h : WSt w X W p s) (hs : s.Fit m) (t9 : Nat) (ht : t9 < 18446744073709551616) : Calls Try.prog 8 #[.pointer (some ⟨p, 0, none⟩), .int .u64 (t9 : Int)] W fun e w' => e = .returned (.int .i64 (s.skipE t9)) ∧ WSt w X w' p (s.skip t9) ∧ ∀ k, X k → w'.heap[k]? = W.heap[k]? := by
  obtain ⟨F, h1, h2, h3, h4⟩ := h
  refine (pw_skip h1 hs t9 ht).mono ?_
  rintro e w' ⟨rfl, F', hp, he⟩
  exact ⟨rfl, WSt.ext h2 h3 h4 hp he⟩
/-- What fired lies beside it. -/
theorem WSt.tick (h : WSt w X W p s) (hs : s.Fit m) : Calls Try.prog 16 #[.pointer (some ⟨p, 0, none⟩)] W fun e w' => ∃ E dE, e = .returned (.tuple #[.slice E s.told.length dE, .int .i64 s.tickE]) ∧ OwnC w' W.heap.size 58 3 E s.told.length dE (rwc 3 fev s.told) ∧ WSt w (Or2 X fun k => Value.ownBlock (.slice E s.told.length dE) = some k) w' p s.tick ∧ ∀ k, X k → w'.heap[k]? = W.heap[k]? := by
  obtain ⟨F, h1, h2, h3, h4⟩ := h
  refine (pw_tick h1 hs).mono ?_
  rintro e w' ⟨E, dE, rfl, ho, F', hp, he, hn⟩
  obtain ⟨⟨F2, q1, q2, q3, q4⟩, q5⟩ := WSt.ext h2 h3 h4 hp he
  refine ⟨E, dE, rfl, ho, ⟨F', hp, fun k hk => ?_, fun k hk => ?_, q4⟩, q5⟩
  · have hk2 : w.heap.size ≤ k ∧ ¬ X k := by
      rcases he.sub k hk with q | ⟨q, _⟩
      · exact h2 k q
      · exact ⟨Nat.le_trans h4.size q, fun hx => absurd (h3 k hx) (by omega)⟩
    exact ⟨hk2.1, fun hx => hx.elim hk2.2 fun e => hn k e hk⟩
  · rcases hk with hk | hk
    · exact q3 k hk
    · obtain ⟨a, e1, e2⟩ := ownBlock_some hk
      rcases ho.2 with ⟨hh, _⟩ | ⟨g', cap, cur, hv, _, hh, _⟩
      · rw [e1] at hh
        cases hh
      · injection hv with q1 _ _
        rw [e1] at q1
        injection q1 with q1
        rw [q1] at e2
        have e2 : g' = k := e2
        rw [← e2]
        exact lt_heap hh
theorem WSt.less (h : WSt w X W p s) {Y : Nat → Prop} (hY : ∀ k, Y k → X k) : WSt w Y W p s := by
  obtain ⟨F, h1, h2, h3, h4⟩ := h
  exact ⟨F, h1, fun k hk => ⟨(h2 k hk).1, fun y => (h2 k hk).2 (hY k y)⟩, fun k hk => h3 k (hY k hk), h4⟩
theorem WSt.now (h : WSt w X W p s) : Calls Try.prog 11 #[.pointer (some ⟨p, 0, none⟩)] W (ret (.int .u64 (s.now : Int)) W) := by
  obtain ⟨F, h1, _⟩ := h
  exact pw_now h1
theorem WSt.len (h : WSt w X W p s) (hs : s.Ok) : Calls Try.prog 12 #[.pointer (some ⟨p, 0, none⟩)] W (ret (.int .i64 (s.l.length : Int)) W) := by
  obtain ⟨F, h1, _⟩ := h
  exact pw_len h1 hs
theorem WSt.due (h : WSt w X W p s) (hs : s.Fit m) (hi : Int) (k : Nat) : Calls Try.prog 13 #[.pointer (some ⟨p, 0, none⟩), .agg #[.int .i64 hi, .int .u64 (k : Int)]] W (ret (.tuple (s.due hi k)) W) := by
  obtain ⟨F, h1, _⟩ := h
  exact pw_due h1 hs hi k
end
theorem wst_new (w W : World) (hb : Below w.heap.size w W) (n : Nat) (h1 : 1 ≤ n) (h2 : n ≤ 65536) : Calls Try.prog 7 #[.int .i64 (n : Int)] W fun e w' => ∃ p, e = .returned (.tuple #[.pointer (some ⟨p, 0, none⟩), .int .i64 0]) ∧ WSt w (fun _ => False) w' p (Wh.new n) ∧ W.heap.size ≤ p ∧ Below W.heap.size W w' := by
  refine (pw_new W n h1 h2).mono ?_
  rintro e w' ⟨p, F, rfl, hp, hF, hb2⟩
  exact ⟨p, rfl, ⟨F, hp, fun k hk => ⟨Nat.le_trans hb.size (hF k hk), id⟩, fun k hk => hk.elim, hb.trans (hb2.mono hb.size)⟩, hF p hp.ptr, hb2⟩
/-! The page's example. -/
def k0 : Wh := ((Wh.new 4).arm 2 7).arm 1 8
def k1 : Wh := k0.tick.arm 0 9
theorem k0_told : k0.told = [⟨1, 2, 1, 8⟩] := by rfl
theorem k1_told : k1.told = [⟨0, 1, 2, 7⟩, ⟨1, 3, 2, 9⟩] := by rfl
theorem k0_err : k0.tickE = 0 := by rfl
theorem k1_err : k1.tickE = 0 := by rfl
theorem k1_now : k1.tick.now = 2 := by rfl
theorem k1_len : k1.tick.l.length = 0 := by rfl
end Go.Proofs.Ytkmakdhlaenaoaa
/- Stage 11: known; WheelNone. -/
namespace Go.Proofs.Ytkmakdhlaenaoaa
set_option maxRecDepth 100000
open Go.RowKit Go.Shelf
set_option maxHeartbeats 1000000 in
theorem known_any (w : World) : Calls Try.prog 6 #[] w (ret (.bool true) w) := by
  have HN := wst_new w w (Below.refl _ _) 4 (by omega) (by omega)
  rw [show ((4 : Nat) : Int) = 4 from rfl] at HN
  have HNN := Lib.hid HN
  clear HN
  go_enter Try.func6, Try.ntmps6
  go_upto_region 4 with (first
    | (go_at_call 7
       refine HNN.out.mono ?_
       rintro e v1 ⟨p, rfl, hs1, hp1, hb1⟩))
  have HS1 := Lib.hid hs1
  have HF1 : Hid ((Wh.new 4).Fit 0) := Lib.hid (Wh.fit_new (by omega))
  clear hs1 hp1 hb1 HNN
  have HA2 := HS1.out.arm HF1.out 2 7 (by omega)
  rw [show ((2 : Nat) : Int) = 2 from rfl, show ((7 : Nat) : Int) = 7 from rfl] at HA2
  have HAA2 := Lib.hid HA2
  clear HA2
  go_upto_region 5 with (first
    | (go_at_call 15
       refine HAA2.out.mono ?_
       rintro e v2 ⟨rfl, hs2, hx2⟩))
  have HS2 : Hid (WSt w (fun _ => False) v2 p ((Wh.new 4).arm 2 7)) := Lib.hid hs2
  have HF2 : Hid (((Wh.new 4).arm 2 7).Fit 1) := Lib.hid (Wh.fit_arm HF1.out (by omega) (by omega) 7)
  clear hs2 HAA2
  generalize (Wh.new 4).armH 2 = ah2 at *
  generalize (Wh.new 4).armE 2 = ae2 at *
  have HA3 := HS2.out.arm HF2.out 1 8 (by omega)
  rw [show ((1 : Nat) : Int) = 1 from rfl, show ((8 : Nat) : Int) = 8 from rfl] at HA3
  have HAA3 := Lib.hid HA3
  clear HA3
  go_upto_region 6 with (first
    | (go_at_call 15
       refine HAA3.out.mono ?_
       rintro e v3 ⟨rfl, hs3, hx3⟩))
  have HS3 : Hid (WSt w (fun _ => False) v3 p (((Wh.new 4).arm 2 7).arm 1 8)) := Lib.hid hs3
  have HF3 : Hid ((((Wh.new 4).arm 2 7).arm 1 8).Fit 2) := Lib.hid (Wh.fit_arm HF2.out (by omega) (by omega) 8)
  clear hs3 HAA3
  generalize ((Wh.new 4).arm 2 7).armH 1 = ah3 at *
  generalize ((Wh.new 4).arm 2 7).armE 1 = ae3 at *
  clear hx2 hx3
  have HT4 := HS3.out.tick HF3.out
  rw [show ((Wh.new 4).arm 2 7).arm 1 8 = k0 from rfl, k0_told, k0_err] at HT4
  have HTT4 := Lib.hid HT4
  clear HT4
  go_upto_region 7 with (first
    | (go_at_call 16
       refine HTT4.out.mono ?_
       rintro e v4 ⟨E1, d1, rfl, ho4, hs4, hx4⟩))
  have HS4 := Lib.hid hs4
  have HF4 : Hid (k0.tick.Fit 2) := Lib.hid (Wh.fit_tick HF3.out)
  have HO4 := Lib.hid (ho4.le (Nat.zero_le _))
  clear hs4 ho4 hx4 HTT4
  obtain ⟨XROW, hxr⟩ : ∃ X : Nat → Prop, X = Or2 (fun _ => False) fun k => Value.ownBlock (.slice E1 ([⟨1, 2, 1, 8⟩] : List Tm).length d1) = some k := ⟨_, rfl⟩
  have HXR := Lib.hid hxr
  rw [← hxr] at HS4
  clear hxr
  have HA5 := HS4.out.arm HF4.out 0 9 (by omega)
  rw [show ((0 : Nat) : Int) = 0 from rfl, show ((9 : Nat) : Int) = 9 from rfl] at HA5
  have HAA5 := Lib.hid HA5
  clear HA5
  go_upto_region 8 with (first
    | (go_at_call 15
       refine HAA5.out.mono ?_
       rintro e v5 ⟨rfl, hs5, hx5⟩))
  have HS5 : Hid (WSt w XROW v5 p (k0.tick.arm 0 9)) := Lib.hid hs5
  have HF5 : Hid ((k0.tick.arm 0 9).Fit 3) := Lib.hid (Wh.fit_arm HF4.out (by omega) (by omega) 9)
  clear hs5 HAA5
  generalize (k0.tick).armH 0 = ah5 at *
  generalize (k0.tick).armE 0 = ae5 at *
  have HO5 := Lib.hid (HO4.out.keepAny fun g e => hx5 g (by rw [HXR.out]; exact .inr (by rw [e]; rfl)))
  clear hx5 HO4
  have HT6 := HS5.out.tick HF5.out
  rw [show k0.tick.arm 0 9 = k1 from rfl, k1_told, k1_err] at HT6
  have HTT6 := Lib.hid HT6
  clear HT6
  go_upto_region 9 with (first
    | (go_at_call 16
       refine HTT6.out.mono ?_
       rintro e v6 ⟨E2, d2, rfl, ho6, hs6, hx6⟩))
  have HS6 := Lib.hid hs6
  have HF6 : Hid (k1.tick.Fit 3) := Lib.hid (Wh.fit_tick HF5.out)
  have HO6 := Lib.hid (HO5.out.keepAny fun g e => hx6 g (by rw [HXR.out]; exact .inr (by rw [e]; rfl)))
  have HP6 := Lib.hid (ho6.le (Nat.zero_le _))
  clear hs6 ho6 hx6 HTT6 HO5
  obtain ⟨g1, hg1, _, _, hc1, _⟩ := HO6.out.lies (by decide)
  obtain ⟨g2, hg2, _, _, hc2, _⟩ := HP6.out.lies (by decide)
  have c1 : v6.cell? ⟨g1, 2, none⟩ = some (.int .u64 8) := hc1 2 (by decide)
  have c2 : v6.cell? ⟨g2, 2, none⟩ = some (.int .u64 7) := hc2 2 (by decide)
  have c3 : v6.cell? ⟨g2, 3 + 2, none⟩ = some (.int .u64 9) := hc2 5 (by decide)
  have c4 : v6.cell? ⟨g2, 5, none⟩ = some (.int .u64 9) := hc2 5 (by decide)
  have cap1 := HO6.out.cap
  have cap2 := HP6.out.cap
  have HW := HS6.out.now
  rw [k1_now] at HW
  have HWW := Lib.hid HW
  have HL := fun W (hb : Below v6.heap.size v6 W) => (HS6.out.step hb).len HF6.out.ok
  rw [k1_len] at HL
  have HLL := Lib.hid HL
  have HB6 := Lib.hid HS6.out.below
  subst hg1 hg2
  clear hc1 hc2 HW HL HS1 HS2 HS3 HS4 HS5 HF1 HF2 HF3 HF4 HF5 HXR
  simp only [List.length_cons, List.length_nil, Nat.zero_add] at cap1 cap2 ⊢
  go_wp2_with (first
    | (go_at_call 11
       refine HWW.out.mono ?_
       rintro e v7 ⟨rfl, hbb⟩
       have B7 := Lib.hid hbb
       clear hbb)
    | (go_at_call 12
       refine (HLL.out _ B7.out).mono ?_
       rintro e v8 ⟨rfl, hbb⟩
       have B8 := Lib.hid (B7.out.trans (hbb.mono B7.out.size))
       clear hbb))
  go_ret
  exact ⟨rfl, HB6.out.trans (B8.out.mono HB6.out.size)⟩
end Go.Proofs.Ytkmakdhlaenaoaa
