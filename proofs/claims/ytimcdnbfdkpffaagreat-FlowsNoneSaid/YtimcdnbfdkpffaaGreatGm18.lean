import Derived.Test.YtimcdnbfdkpffaaGreatGm17
/- Stage 11: the landed Due, Tick, Skip, Copy, New. -/
namespace Go.Proofs.YtimcdnbfdkpffaaGreat
set_option maxRecDepth 100000
open Go.RowKit Go.Shelf
section
variable {w : World} {p ap z g c : Nat} {A : Ar} {S : Sl} {now tn : Nat} {ta tw tt : Nat → Nat} {F : Nat → Prop}
set_option maxHeartbeats 1000000 in
theorem pdueX (h : WX w p ap z g c A S now tn ta tw tt F) (hi : Int) (k : Nat) (b : Bool) (hl : A.live hi k = b) (v : Nat) (hv : b = true → ∃ i : Nat, hi = (i : Int) ∧ i < A.has.length ∧ ta i = v) (hv0 : b = false → v = 0) : Calls Tryz.prog 58 #[.pointer (some ⟨p, 0, none⟩), .agg #[.int .i64 hi, .int .u64 (k : Int)]] w fun e w' => e = .returned (.tuple #[.int .u64 (v : Int), .bool b]) ∧ Below w.heap.size w w' := by
  have hbx := below_alloc w (.cells #[.int .i64 hi, .int .u64 (k : Int)] 95)
  have HX1 := Lib.hid (h.step hbx)
  have HB1 := Lib.hid hbx
  have HR1 : Hid ((w.alloc (.cells #[.int .i64 hi, .int .u64 (k : Int)] 95)).heap[w.heap.size]? = some (.cells #[.int .i64 hi, .int .u64 (k : Int)] 95 (0, 0))) := Lib.hid (heap_alloc_new w _)
  obtain ⟨r, hr⟩ : ∃ r, r = w.heap.size := ⟨_, rfl⟩
  rw [← hr] at HR1
  clear h hbx
  go_enter Tryz.func58, Tryz.ntmps58
  go_upto_region 1 with fail
  change Code.wp _ _ _ _ (w.alloc (.cells #[.int .i64 hi, .int .u64 (k : Int)] 95))
  rw [← hr]
  clear hr
  generalize w.alloc (.cells #[.int .i64 hi, .int .u64 (k : Int)] 95) = u1 at *
  have HMD : Hid (∀ V : Stay u1, Calls Tryz.prog 80 #[.pointer (some ⟨p, 0, none⟩)] V.w fun e w' => e = .returned (.bool true) ∧ Below V.w.heap.size V.w w') := Lib.hid fun V => pmade (HX1.out.step V.below)
  have HLV : Hid (∀ V : Stay u1, Calls Tryz.prog 89 #[.pointer (some ⟨ap, 0, none⟩), .agg #[.int .i64 hi, .int .u64 (k : Int)]] V.w fun e w' => e = .returned (.bool b) ∧ Below V.w.heap.size V.w w') := Lib.hid fun V => (HX1.out.step V.below).arq fun Fa hPA => by
    have h9 := plive_any hPA HX1.out.n hi k
    rw [hl] at h9
    exact h9
  have y0 : ∀ V : Stay u1, V.w.cell? ⟨p, 0, none⟩ = some (.pointer (some ⟨ap, 0, none⟩)) := fun V => Stay.cell (blk_cell HX1.out.blk 0) V
  have z0 : ∀ V : Stay u1, V.w.cell? ⟨r, 0, none⟩ = some (.int .i64 hi) := fun V => Stay.cell (blk_cell HR1.out 0) V
  have z1 : ∀ V : Stay u1, V.w.cell? ⟨r, 1, none⟩ = some (.int .u64 (k : Int)) := fun V => Stay.cell (blk_cell HR1.out 1) V
  refine wp_region_stay (by kernel_rfl) (by kernel_rfl) ?_
  repeat (first
    | (refine qh_row rfl 95 (.tmp 3) rfl r rfl 95 #[.int .i64 hi, .int .u64 (k : Int)] (0, 0) _ (stay_hp HR1.out) Tryz.underlying95 rfl (by kernel_rfl) ?_
       simp only [Act.put, List.setIfInBounds_toArray, List.set_cons_zero, List.set_cons_succ])
    | go_big_quiet_step (first | (go_at_call 80; with_reducible exact Calls.stay _ (HMD.out _)) | (go_at_call 89; with_reducible exact Calls.stay _ (HLV.out _))))
  refine wpQuiet_nil ?_
  intro w' hw'
  obtain ⟨V, rfl⟩ := hw'
  have HX2 := Lib.hid (HX1.out.step V.below)
  have HB2 := Lib.hid (HB1.out.trans (V.below.mono HB1.out.size))
  have HR2 := Lib.hid (box_step HR1.out V.below)
  clear y0 z0 z1 HMD HLV HX1 HB1 HR1
  generalize V.w = u2 at *
  cases b with
  | false =>
    obtain rfl := hv0 rfl
    go_wp2_with fail
    go_ret2
    exact ⟨rfl, HB2.out⟩
  | true =>
    obtain ⟨i, rfl, hlt, htv⟩ := hv rfl
    obtain ⟨m, hm⟩ : ∃ m, m = A.has.length := ⟨_, rfl⟩
    have x2 : ∀ V : Stay u2, V.w.cell? ⟨p, 2, none⟩ = some (.slice (some ⟨g, 0, none⟩) m c) := fun V => by rw [hm]; exact Stay.cell (blk_cell HX2.out.blk 2) V
    have xt : ∀ V : Stay u2, V.w.cell? ⟨g, i * 3, none⟩ = some (.int .u64 (v : Int)) := fun V => by rw [← htv]; exact Stay.cell (HX2.out.t0 hlt) V
    have y0 : ∀ V : Stay u2, V.w.cell? ⟨r, 0, none⟩ = some (.int .i64 (i : Int)) := fun V => Stay.cell (blk_cell HR2.out 0) V
    have cap := HX2.out.cap9
    have hn9 := HX2.out.n
    rw [← hm] at hlt cap hn9
    have i0 : (0 : Int) ≤ (i : Int) := by omega
    have i1 : (i : Int) < (m : Int) := by omega
    have i2 : ((i : Int)).toNat = i := by omega
    clear hv hv0 hl hm htv
    go_upto_region 3 with fail
    refine wp_region_stay (by kernel_rfl) (by kernel_rfl) ?_
    repeat (go_big_quiet_step (fail))
    refine wpQuiet_nil ?_
    intro w' hw'
    obtain ⟨V, rfl⟩ := hw'
    have HB3 := Lib.hid (HB2.out.trans (V.below.mono HB2.out.size))
    go_wp2_with fail
    go_ret2
    exact ⟨rfl, HB3.out⟩
theorem ptickX_last (h : WX w p ap z g c A S now tn ta tw tt F) (hnow : now = 18446744073709551615) : Calls Tryz.prog 46 #[.pointer (some ⟨p, 0, none⟩)] w fun e w' => e = .returned (.tuple #[.slice none 0 0, .int .i64 15]) ∧ Below w.heap.size w w' := by
  have HX := Lib.hid h
  have HM := Lib.hid (pmade h)
  subst hnow
  clear h
  go_enter Tryz.func46, Tryz.ntmps46
  go_upto_region 3 with (first
    | (go_at_call 80
       refine HM.out.mono ?_
       rintro e u1 ⟨rfl, hbb⟩
       have HX1 := Lib.hid (HX.out.step hbb)
       have HB1 := Lib.hid hbb
       clear hbb))
  have x3 : u1.cell? ⟨p, 3, none⟩ = some (.int .u64 ((18446744073709551615 : Nat) : Int)) := blk_cell HX1.out.blk 3
  go_wp2_with fail
  go_ret2
  exact ⟨rfl, HB1.out⟩
set_option maxHeartbeats 1000000 in
theorem ptickX (h : WX w p ap z g c A S now tn ta tw tt F) (hA : A.Ok) (hnow : now < 18446744073709551615) (hta : ∀ i, A.at_ i ≠ 0 → ta i < 18446744073709551616) (hp : Plc (Lse 3 (now + 1)) S A ta (fun _ => False)) :
    Calls Tryz.prog 46 #[.pointer (some ⟨p, 0, none⟩)] w fun e w' => ∃ (S1 : Sl) (D : List Nat), Plc (Lse 0 (now + 1)) S1 A ta (fun _ => False) ∧ D.Perm (S1.at_ (slt 0 (now + 1))) ∧ D.Pairwise (fun x y => ¬ tt y < tt x) ∧ ∃ E dE F' S2 ta2 tw2 tt2, e = .returned (.tuple #[.slice E D.length dE, .int .i64 0]) ∧ OwnC w' w.heap.size 108 3 E D.length dE (rwc 3 fev (D.map fun x => (⟨x, A.at_ x, now + 1, tw x⟩ : Tm))) ∧
      WX w' p ap z g c (goneL A D) S2 (now + 1) tn ta2 tw2 tt2 F' ∧ Ext F F' w w' ∧ (∀ k, Value.ownBlock (.slice E D.length dE) = some k → ¬ F' k) ∧ Plc (Lse 0 (now + 1)) S2 (goneL A D) ta2 (fun _ => False) ∧ ∀ i, ¬ i ∈ D → ta2 i = ta i ∧ tw2 i = tw i ∧ tt2 i = tt i := by
  have HX := Lib.hid h
  have HM := Lib.hid (pmade h)
  have HA := Lib.hid hA
  have HTA := Lib.hid hta
  have HP := Lib.hid hp
  have n1 : ((now : Int) == 18446744073709551615) = false := by simp; omega
  have zn : IntKind.u64.wrap ((now : Int) + 1) = (now : Int) + 1 := by rw [IntKind.wrap_u64]; omega
  clear h hA hta hp
  go_enter Tryz.func46, Tryz.ntmps46
  go_upto_region 3 with (first
    | (go_at_call 80
       refine HM.out.mono ?_
       rintro e u1 ⟨rfl, hbb⟩
       have HX1 := Lib.hid (HX.out.step hbb)
       have HE1 := Lib.hid ((Ext.refl F w).step hbb)
       clear hbb))
  have x3 : u1.cell? ⟨p, 3, none⟩ = some (.int .u64 (now : Int)) := blk_cell HX1.out.blk 3
  have y3 := blk_free HX1.out.blk 3
  have HX2 : Hid (WX (u1.setCell ⟨p, 3, none⟩ (.int .u64 ((now : Int) + 1))) p ap z g c A S (now + 1) tn ta tw tt F) := Lib.hid (by
    have := HX1.out.setNow (now + 1)
    rwa [show ((now + 1 : Nat) : Int) = (now : Int) + 1 by omega] at this)
  have HE2 := Lib.hid (HE1.out.setCell (p := ⟨p, 3, none⟩) HX1.out.mp (.int .u64 ((now : Int) + 1)))
  go_upto_region 6 with fail
  clear x3 y3 HX1 HE1 HM HX
  generalize u1.setCell ⟨p, 3, none⟩ (.int .u64 ((now : Int) + 1)) = u2 at *
  have HLY := Lib.hid (pwlayAnew HX2.out (by omega) (by omega) HTA.out HP.out)
  go_upto_region 7 with (first
    | (go_at_call 93
       refine HLY.out.mono ?_
       rintro e u3 ⟨rfl, S1, F3, hx3, he3, hp3⟩
       have HX3 := Lib.hid hx3
       have HE3 := Lib.hid (HE2.out.trans he3)
       have HP3 := Lib.hid hp3
       clear hx3 he3 hp3 HX2 HE2 HLY))
  have HFR := Lib.hid (pwfire HX3.out HA.out (by omega) HP3.out)
  go_wp2_with (first
    | (go_at_call 94
       refine HFR.out.mono ?_
       rintro e u4 ⟨D, hpm, hpw, E, dE, F4, S2, ta2, tw2, tt2, rfl, ho, hx4, he4, hnf, hp4, hs4⟩
       have HPM := Lib.hid hpm
       have HPW := Lib.hid hpw
       have HO := Lib.hid (ho.le HE3.out.kept.size)
       have HX4 := Lib.hid hx4
       have HE4 := Lib.hid (HE3.out.trans he4)
       have HNF := Lib.hid hnf
       have HP4 := Lib.hid hp4
       have HS4 := Lib.hid hs4
       clear hpm hpw ho hx4 he4 hnf hp4 hs4 HFR))
  go_ret2
  exact ⟨S1, D, HP3.out, HPM.out, HPW.out, E, dE, F4, S2, ta2, tw2, tt2, rfl, HO.out, HX4.out, HE4.out, HNF.out, HP4.out, HS4.out⟩
end
end Go.Proofs.YtimcdnbfdkpffaaGreat
/- Stage 11: the landed Copy, New. -/
namespace Go.Proofs.YtimcdnbfdkpffaaGreat
set_option maxRecDepth 100000
open Go.RowKit Go.Shelf
theorem Tryz.infoTM : (Tryz.prog.info? 161).map (fun i => (i.zero, i.size, i.bytes)) = some (some (.agg #[.int .u64 0, .int .u64 0, .int .u64 0]), 3, 24) := by kernel_rfl
set_option maxHeartbeats 1000000 in
theorem pcloneT {w : World} {g n c : Nat} {f : Nat → Value} (h : OwnC w 0 161 3 (some ⟨g, 0, none⟩) n c f) (hpos : 0 < n) (hn : n ≤ 70000) (hone : ∀ k, (f k).oneCell' = true) : Calls Tryz.prog 83 #[.slice (some ⟨g, 0, none⟩) n c] w fun e w' => ∃ g2 c2, e = .returned (.slice (some ⟨g2, 0, none⟩) n c2) ∧ w.heap.size ≤ g2 ∧ OwnC w' w.heap.size 161 3 (some ⟨g2, 0, none⟩) n c2 f ∧ Below w.heap.size w w' := by
  obtain ⟨i0, hi0, hz0, hz1, hz2⟩ := info_parts Tryz.infoTM
  have HI0 := Lib.hid hi0
  have HZ0 := Lib.hid hz0
  have HZ1 := Lib.hid hz1
  have HZ2 := Lib.hid hz2
  have HO4 : Hid (OwnC (w.alloc (.cells #[] 161)) w.heap.size 161 3 (some ⟨w.heap.size, 0, none⟩) 0 0 (fun _ => .int .u64 0)) := Lib.hid (OwnC.fresh w _ _ rfl (Nat.le_refl _) _ _ _)
  have HR4 := Lib.hid (h.below (below_alloc w (.cells #[] 161))).rd
  clear hi0 hz0 hz1 hz2 h
  have hnil : ∀ W, (binOp .eql 138 (.slice (some ⟨g, 0, none⟩) n c) (.slice none 0 0)).run Tryz.prog W = .ok (.bool false) W := fun W => by kernel_rfl
  go_enter Tryz.func83, Tryz.ntmps83
  go_wp2_with (first
    | (at_builtin
       refine wpList_append_vals rfl (.tmp 5) (.tmp 6) 138 rfl w.heap.size 161 i0 (.agg #[.int .u64 0, .int .u64 0, .int .u64 0]) 3 Tryz.underlying138 HI0.out HZ0.out HZ1.out rfl (by decide) rfl HO4.out rfl HR4.out (fun k _ => hone k) (by unfold maxLen; omega) (by rw [HZ2.out]; omega) (alloc_le w _) ?_
       intro A2 c2 u5 hown5 hg5 _
       have HO5 : Hid (OwnC u5 w.heap.size 161 3 A2 n c2 f) := Lib.hid (by
         rw [Nat.zero_add] at hown5
         exact hown5.same fun k _ => by unfold catV; rw [if_neg (by omega)]; rfl)
       have HB5 : Hid (Below w.heap.size w u5) := Lib.hid ((below_alloc w _).grown hg5 (alloc_le w _) fun k hk => HO4.out.at_ k hk)
       rw [Nat.zero_add]
       clear hown5 hg5))
  go_ret
  obtain ⟨g2, hg2, hgb, _⟩ := HO5.out.lies hpos
  subst hg2
  exact ⟨g2, c2, rfl, hgb, HO5.out, HB5.out⟩
theorem pz_copy {w : World} {p : Nat} {s : Sl} {F : Nat → Prop} (hs : s.Fit) (h : PZ w p s F) : Calls Tryz.prog 82 #[.pointer (some ⟨p, 0, none⟩)] w fun e w' => ∃ b F', e = .returned (.pointer (some ⟨b, 0, none⟩)) ∧ PZ w' b s F' ∧ (∀ k, F' k → w.heap.size ≤ k ∧ k < w'.heap.size) ∧ Below w.heap.size w w' := by
  obtain ⟨A, h⟩ := h
  exact pa_copy hs h
set_option maxHeartbeats 2000000 in
theorem pwcopyX {w : World} {p ap z g c : Nat} {A : Ar} {S : Sl} {now tn : Nat} {ta tw tt : Nat → Nat} {F : Nat → Prop} (h : WX w p ap z g c A S now tn ta tw tt F) (hS : S.Fit) : Calls Tryz.prog 40 #[.pointer (some ⟨p, 0, none⟩)] w fun e w' => ∃ b a2 z2 g2 c2 F', e = .returned (.pointer (some ⟨b, 0, none⟩)) ∧ WX w' b a2 z2 g2 c2 A S now tn ta tw tt F' ∧ (∀ k, F' k → w.heap.size ≤ k ∧ k < w'.heap.size) ∧ Below w.heap.size w w' := by
  have HX := Lib.hid h
  have HMD := Lib.hid (pmade h)
  have HFIT := Lib.hid hS
  have HPOS := Lib.hid h.pos
  have hn9 := h.n
  obtain ⟨m, hm⟩ : ∃ m, m = A.has.length := ⟨_, rfl⟩
  have HMM := Lib.hid hm
  rw [← hm] at hn9
  clear h hS
  go_enter Tryz.func40, Tryz.ntmps40
  go_upto_region 3 with (first
    | (go_at_call 80
       refine HMD.out.mono ?_
       rintro e u1 ⟨rfl, hbb⟩
       have HX1 := Lib.hid (HX.out.step hbb)
       have HB1 := Lib.hid hbb
       clear hbb HX HMD))
  have hblk : u1.heap[p]? = some (.cells #[.pointer (some ⟨ap, 0, none⟩), .pointer (some ⟨z, 0, none⟩), .slice (some ⟨g, 0, none⟩) m c, .int .u64 (now : Int), .int .u64 (tn : Int)] 140 (0, 0)) := by rw [hm]; exact HX1.out.blk
  have HBK := Lib.hid hblk
  clear hblk hm
  go_upto_region 4 with (first
    | (refine wpList_load_row rfl 140 (.tmp 8) rfl p rfl 140 #[.pointer (some ⟨ap, 0, none⟩), .pointer (some ⟨z, 0, none⟩), .slice (some ⟨g, 0, none⟩) m c, .int .u64 (now : Int), .int .u64 (tn : Int)] (0, 0) _ HBK.out Tryz.underlying140 rfl (by kernel_rfl) ?_))
  have HM2 : Hid ((u1.alloc (.cells #[.pointer (some ⟨ap, 0, none⟩), .pointer (some ⟨z, 0, none⟩), .slice (some ⟨g, 0, none⟩) m c, .int .u64 (now : Int), .int .u64 (tn : Int)] 140)).heap[u1.heap.size]? = some (.cells #[.pointer (some ⟨ap, 0, none⟩), .pointer (some ⟨z, 0, none⟩), .slice (some ⟨g, 0, none⟩) m c, .int .u64 (now : Int), .int .u64 (tn : Int)] 140 (0, 0))) := Lib.hid (heap_alloc_new u1 _)
  have HB2 := Lib.hid (HB1.out.alloc HB1.out.size (.cells #[.pointer (some ⟨ap, 0, none⟩), .pointer (some ⟨z, 0, none⟩), .slice (some ⟨g, 0, none⟩) m c, .int .u64 (now : Int), .int .u64 (tn : Int)] 140))
  have HX2 := Lib.hid (HX1.out.step (below_alloc u1 (.cells #[.pointer (some ⟨ap, 0, none⟩), .pointer (some ⟨z, 0, none⟩), .slice (some ⟨g, 0, none⟩) m c, .int .u64 (now : Int), .int .u64 (tn : Int)] 140)))
  have HBL : Hid (w.heap.size ≤ u1.heap.size) := Lib.hid HB1.out.size
  have HBN : Hid (∀ k, F k → k < u1.heap.size) := Lib.hid HX1.out.old
  change Code.wp _ _ _ _ (u1.alloc (.cells #[.pointer (some ⟨ap, 0, none⟩), .pointer (some ⟨z, 0, none⟩), .slice (some ⟨g, 0, none⟩) m c, .int .u64 (now : Int), .int .u64 (tn : Int)] 140))
  generalize u1.heap.size = b at *
  generalize u1.alloc (.cells #[.pointer (some ⟨ap, 0, none⟩), .pointer (some ⟨z, 0, none⟩), .slice (some ⟨g, 0, none⟩) m c, .int .u64 (now : Int), .int .u64 (tn : Int)] 140) = u2 at *
  have x0 : u2.cell? ⟨p, 0, none⟩ = some (.pointer (some ⟨ap, 0, none⟩)) := blk_cell HX2.out.blk 0
  obtain ⟨Fa0, Fz0, hpa0, hpz0, har⟩ := HX2.out.ar
  have HPA0 := Lib.hid hpa0
  have HPZ0 := Lib.hid hpz0
  have HNBZ : Hid (∀ k, Fz0 k → ¬ k = b) := Lib.hid fun k hk e => by
    have h1 := HBN.out k (har.2.1 k hk).1
    omega
  clear hpa0 hpz0 har
  go_upto_region 5 with (first
    | (go_at_call 81
       refine (pcopy_new HX2.out.n HPA0.out).mono ?_
       rintro e u3 ⟨a2, Fa, rfl, hpa, hfa, hb⟩
       have HM3 : Hid (u3.heap[b]? = some (.cells #[.pointer (some ⟨ap, 0, none⟩), .pointer (some ⟨z, 0, none⟩), .slice (some ⟨g, 0, none⟩) m c, .int .u64 (now : Int), .int .u64 (tn : Int)] 140 (0, 0))) := Lib.hid ((hb.block _ (lt_heap HM2.out)).trans HM2.out)
       have HX3 := Lib.hid (HX2.out.step hb)
       have HB3 := Lib.hid (HB2.out.trans (hb.mono HB2.out.size))
       have HPZ3 := Lib.hid (HPZ0.out.keep (Kept.of_below hb fun _ => False) fun _ _ q => q)
       have HPA3 := Lib.hid hpa
       have HFA3 : Hid (∀ k, Fa k → b < k) := Lib.hid fun k hk => Nat.lt_of_lt_of_le (lt_heap HM2.out) (hfa k hk).1
       have x3 : u3.cell? ⟨b, 0, none⟩ = some (.pointer (some ⟨ap, 0, none⟩)) := blk_cell HM3.out 0
       have y3 := blk_free HM3.out 0
       clear hpa hfa hb x0))
  have HM4 : Hid ((u3.setCell ⟨b, 0, none⟩ (.pointer (some ⟨a2, 0, none⟩))).heap[b]? = some (.cells #[.pointer (some ⟨a2, 0, none⟩), .pointer (some ⟨z, 0, none⟩), .slice (some ⟨g, 0, none⟩) m c, .int .u64 (now : Int), .int .u64 (tn : Int)] 140 (0, 0))) := Lib.hid (blk_set HM3.out 0 _)
  have hk4 : Kept (fun k => k = b) u3 (u3.setCell ⟨b, 0, none⟩ (.pointer (some ⟨a2, 0, none⟩))) := Kept.setCell (R := fun k => k = b) (Kept.refl _ u3) (p := ⟨b, 0, none⟩) (.inl rfl) _
  have HNB2 : Hid (∀ k, F k → ¬ k = b) := Lib.hid fun k hF e => by
    have h1 := HBN.out k hF
    omega
  have HX4 := Lib.hid (HX3.out.keep hk4 HNB2.out)
  have HPA4 := Lib.hid (HPA3.out.keep hk4 fun k hk e => by have := HFA3.out k hk; omega)
  have HPZ4 := Lib.hid (HPZ3.out.keep hk4 fun k hk e => HNBZ.out k hk e)
  have HB4 := Lib.hid (HB3.out.setCell (p := ⟨b, 0, none⟩) HBL.out (.pointer (some ⟨a2, 0, none⟩)))
  clear x3 y3 hk4 HX3 HPA3 HPZ3 HB3 HM3
  generalize u3.setCell ⟨b, 0, none⟩ (.pointer (some ⟨a2, 0, none⟩)) = u4 at *
  have x1 : u4.cell? ⟨p, 1, none⟩ = some (.pointer (some ⟨z, 0, none⟩)) := blk_cell HX4.out.blk 1
  go_upto_region 6 with (first
    | (go_at_call 82
       refine (pz_copy HFIT.out HPZ4.out).mono ?_
       rintro e u5 ⟨z2, Fz, rfl, hpz, hfz, hb⟩
       have HM5 : Hid (u5.heap[b]? = some (.cells #[.pointer (some ⟨a2, 0, none⟩), .pointer (some ⟨z, 0, none⟩), .slice (some ⟨g, 0, none⟩) m c, .int .u64 (now : Int), .int .u64 (tn : Int)] 140 (0, 0))) := Lib.hid ((hb.block _ (lt_heap HM4.out)).trans HM4.out)
       have HX5 := Lib.hid (HX4.out.step hb)
       have HB5 := Lib.hid (HB4.out.trans (hb.mono HB4.out.size))
       have HPA5 := Lib.hid (HPA4.out.step hb)
       have HPZ5 := Lib.hid hpz
       have HFZ5 : Hid (∀ k, Fz k → b < k ∧ ¬ Fa k) := Lib.hid fun k hk => ⟨Nat.lt_of_lt_of_le (lt_heap HM4.out) (hfz k hk).1, fun hF => by have := HPA4.out.old k hF; have := (hfz k hk).1; omega⟩
       have x3 : u5.cell? ⟨b, 1, none⟩ = some (.pointer (some ⟨z, 0, none⟩)) := blk_cell HM5.out 1
       have y3 := blk_free HM5.out 1
       clear hpz hfz hb x1))
  have HM6 : Hid ((u5.setCell ⟨b, 1, none⟩ (.pointer (some ⟨z2, 0, none⟩))).heap[b]? = some (.cells #[.pointer (some ⟨a2, 0, none⟩), .pointer (some ⟨z2, 0, none⟩), .slice (some ⟨g, 0, none⟩) m c, .int .u64 (now : Int), .int .u64 (tn : Int)] 140 (0, 0))) := Lib.hid (blk_set HM5.out 1 _)
  have hk6 : Kept (fun k => k = b) u5 (u5.setCell ⟨b, 1, none⟩ (.pointer (some ⟨z2, 0, none⟩))) := Kept.setCell (R := fun k => k = b) (Kept.refl _ u5) (p := ⟨b, 1, none⟩) (.inl rfl) _
  have HX6 := Lib.hid (HX5.out.keep hk6 HNB2.out)
  have HPA6 := Lib.hid (HPA5.out.keep hk6 fun k hk e => by have := HFA3.out k hk; omega)
  have HPZ6 := Lib.hid (HPZ5.out.keep hk6 fun k hk e => by have := HFZ5.out k hk; omega)
  have HB6 := Lib.hid (HB5.out.setCell (p := ⟨b, 1, none⟩) HBL.out (.pointer (some ⟨z2, 0, none⟩)))
  clear x3 y3 hk6 HX5 HPA5 HPZ5 HB5 HM5
  generalize u5.setCell ⟨b, 1, none⟩ (.pointer (some ⟨z2, 0, none⟩)) = u6 at *
  have x2 : u6.cell? ⟨p, 2, none⟩ = some (.slice (some ⟨g, 0, none⟩) m c) := by rw [HMM.out]; exact blk_cell HX6.out.blk 2
  have HCL := Lib.hid (pcloneT HX6.out.row HPOS.out (by rw [← HMM.out]; omega) (wcell_one ta tw tt))
  rw [← HMM.out] at HCL
  go_upto_region 7 with (first
    | (go_at_call 83
       refine HCL.out.mono ?_
       rintro e u7 ⟨g2, c2, rfl, hg2, ho, hb⟩
       have HM7 : Hid (u7.heap[b]? = some (.cells #[.pointer (some ⟨a2, 0, none⟩), .pointer (some ⟨z2, 0, none⟩), .slice (some ⟨g, 0, none⟩) m c, .int .u64 (now : Int), .int .u64 (tn : Int)] 140 (0, 0))) := Lib.hid ((hb.block _ (lt_heap HM6.out)).trans HM6.out)
       have HB7 := Lib.hid (HB6.out.trans (hb.mono HB6.out.size))
       have HPA7 := Lib.hid (HPA6.out.step hb)
       have HPZ7 := Lib.hid (HPZ6.out.keep (Kept.of_below hb fun _ => False) fun _ _ q => q)
       have HO7 := Lib.hid (ho.le (Nat.zero_le _))
       have HG7 : Hid (b < g2 ∧ ¬ Fa g2 ∧ ¬ Fz g2) := Lib.hid ⟨Nat.lt_of_lt_of_le (lt_heap HM6.out) hg2, fun hF => by have := HPA6.out.old _ hF; omega, fun hF => by have := HPZ6.out.old _ hF; omega⟩
       have x3 : u7.cell? ⟨b, 2, none⟩ = some (.slice (some ⟨g, 0, none⟩) m c) := blk_cell HM7.out 2
       have y3 := blk_free HM7.out 2
       clear ho hg2 hb x2 HCL))
  have HM8 : Hid ((u7.setCell ⟨b, 2, none⟩ (.slice (some ⟨g2, 0, none⟩) m c2)).heap[b]? = some (.cells #[.pointer (some ⟨a2, 0, none⟩), .pointer (some ⟨z2, 0, none⟩), .slice (some ⟨g2, 0, none⟩) m c2, .int .u64 (now : Int), .int .u64 (tn : Int)] 140 (0, 0))) := Lib.hid (blk_set HM7.out 2 _)
  have hk8 : Kept (fun k => k = b) u7 (u7.setCell ⟨b, 2, none⟩ (.slice (some ⟨g2, 0, none⟩) m c2)) := Kept.setCell (R := fun k => k = b) (Kept.refl _ u7) (p := ⟨b, 2, none⟩) (.inl rfl) _
  have HPA8 := Lib.hid (HPA7.out.keep hk8 fun k hk e => by have := HFA3.out k hk; omega)
  have HPZ8 := Lib.hid (HPZ7.out.keep hk8 fun k hk e => by have := HFZ5.out k hk; omega)
  have HO8 : Hid (OwnC (u7.setCell ⟨b, 2, none⟩ (.slice (some ⟨g2, 0, none⟩) m c2)) 0 161 3 (some ⟨g2, 0, none⟩) m c2 (wcell ta tw tt)) := Lib.hid (HO7.out.block (Below.heap_setCell u7 ⟨b, 2, none⟩ _ g2 (fun e => absurd (show g2 = b from e) (Nat.ne_of_gt HG7.out.1))))
  have HB8 := Lib.hid (HB7.out.setCell (p := ⟨b, 2, none⟩) HBL.out (.slice (some ⟨g2, 0, none⟩) m c2))
  go_wp2_with fail
  go_ret
  have hg8 := HO8.out.ltA
  have hb8 := lt_heap HM8.out
  refine ⟨b, a2, z2, g2, c2, fun k => k = b ∨ k = g2 ∨ Fa k ∨ Fz k, rfl, ⟨?_, ?_, ⟨Fa, Fz, HPA8.out, HPZ8.out, fun k q => .inr (.inr (.inl q)), fun k q => ⟨.inr (.inr (.inr q)), (HFZ5.out k q).2⟩, fun q => by have := HFA3.out b q; omega, HG7.out.2.1, fun q => by have := (HFZ5.out b q).1; omega, HG7.out.2.2⟩, .inl rfl, .inr (.inl rfl), fun k hk => ?_, by rw [← HMM.out]; exact hn9⟩, fun k hk => ?_, HB8.out⟩
  · rw [← HMM.out]
    exact HM8.out
  · rw [← HMM.out]
    exact HO8.out
  · rcases hk with rfl | rfl | hk | hk
    · exact hb8
    · exact hg8
    · exact HPA8.out.old k hk
    · exact HPZ8.out.old k hk
  · have hw := HBL.out
    rcases hk with rfl | rfl | hk | hk
    · exact ⟨hw, hb8⟩
    · have := HG7.out.1
      exact ⟨by omega, hg8⟩
    · have := HFA3.out k hk
      exact ⟨by omega, HPA8.out.old k hk⟩
    · have := (HFZ5.out k hk).1
      exact ⟨by omega, HPZ8.out.old k hk⟩
theorem pwnew_bad (w : World) (n : Int) (h : n < 1 ∨ 65536 < n) : Calls Tryz.prog 30 #[.int .i64 n] w (ret (.tuple #[.pointer none, .int .i64 2]) w) := by
  have HN := Lib.hid (pnew_bad w n h)
  clear h
  go_enter Tryz.func30, Tryz.ntmps30
  go_wp2_with (first
    | (go_at_call 65
       refine HN.out.mono ?_
       rintro e u1 ⟨rfl, hbb⟩
       have HB1 := Lib.hid hbb
       clear hbb))
  go_ret2
  exact ⟨rfl, HB1.out⟩
set_option maxHeartbeats 1000000 in
theorem pwnewX (w : World) (n : Nat) (h1 : 1 ≤ n) (h2 : n ≤ 65536) : Calls Tryz.prog 30 #[.int .i64 (n : Int)] w fun e w' => ∃ p ap z g F, e = .returned (.tuple #[.pointer (some ⟨p, 0, none⟩), .int .i64 0]) ∧ WX w' p ap z g n (Ar.new n) (Sl.new 1024 n) 0 0 (fun _ => 0) (fun _ => 0) (fun _ => 0) F ∧ (∀ k, F k → w.heap.size ≤ k) ∧ Below w.heap.size w w' := by
  obtain ⟨i0, hi0, hz0, hz1, hz2⟩ := info_parts Tryz.infoTM
  have hmk : ∀ W : World, ∃ w', (Instr.makeSlice 138 (.int .i64 (n : Int)) (.int .i64 (n : Int))).run Tryz.prog W = .ok (.slice (some ⟨W.heap.size, 0, none⟩) n n) w' ∧ OwnC w' W.heap.size 161 3 (some ⟨W.heap.size, 0, none⟩) n n (wcell (fun _ => 0) (fun _ => 0) (fun _ => 0)) ∧ W.grownBy w' none := fun W => by
    obtain ⟨w', h1, h2, h3⟩ := run_make_full (P := Tryz.prog) (w := W) W.heap.size 138 161 i0 (.agg #[.int .u64 0, .int .u64 0, .int .u64 0]) 3 Tryz.underlying138 hi0 hz0 hz1 .i64 .i64 n (by rw [hz2]; omega) (by unfold maxLen; omega) (Nat.le_refl _)
    refine ⟨w', h1, ?_, h3⟩
    unfold OwnC
    have e1 : (madeCells (Value.agg #[.int .u64 0, .int .u64 0, .int .u64 0]).cells (n * 3)).toList = vals (n * 3) (wcell (fun _ => 0) (fun _ => 0) (fun _ => 0)) := by
      refine vals_eq (by simp [size_madeCells]) fun k hk => ?_
      show (madeCells #[.int .u64 0, .int .u64 0, .int .u64 0] (n * 3)).toList[k]? = _
      unfold wcell
      simp [madeCells]
      refine ⟨k, List.getElem?_range hk, ?_⟩
      rcases (show k % 3 = 0 ∨ k % 3 = 1 ∨ k % 3 = 2 by omega) with e | e | e
      · rw [e]; rfl
      · rw [e]; rfl
      · rw [e]; rfl
    rw [← e1]
    exact h2
  have HMK := Lib.hid hmk
  have HN := Lib.hid (pnew_st w n h1 h2)
  have HPN := Lib.hid fun W => pa_new W n 1024 h1 h2 (by omega) (by omega)
  clear hmk hi0 hz0 hz1 hz2
  go_enter Tryz.func30, Tryz.ntmps30
  go_upto_region 4 with (first
    | (go_at_call 65
       refine HN.out.mono ?_
       rintro e u1 ⟨ap, Fa, rfl, hpa, hfa, hbb⟩
       have HPA1 := Lib.hid hpa
       have HFA := Lib.hid hfa
       have HB1 := Lib.hid hbb
       clear hpa hfa hbb HN))
  go_upto_region 7 with (first
    | (go_at_call 66
       refine (HPN.out u1).mono ?_
       rintro e u2 ⟨z, Fz, rfl, hpz, hfz, hbb⟩
       have HPA2 := Lib.hid (HPA1.out.step hbb)
       have HPZ2 := Lib.hid hpz
       have HFZ : Hid (∀ k, Fz k → w.heap.size ≤ k ∧ ¬ Fa k) := Lib.hid fun k hk => ⟨Nat.le_trans HB1.out.size (hfz k hk).1, fun hF => by have := HPA1.out.old k hF; have := (hfz k hk).1; omega⟩
       have HB2 := Lib.hid (HB1.out.trans (hbb.mono HB1.out.size))
       clear hpz hfz hbb HPN HPA1 HB1))
  obtain ⟨u3, hm, ho, hg⟩ := HMK.out u2
  have hb3 : Below u2.heap.size u2 u3 := (Below.refl _ _).grown hg (Nat.le_refl _) (fun _ h => nomatch h)
  have HO3 := Lib.hid ho
  have HPA3 := Lib.hid (HPA2.out.step hb3)
  have HPZ3 := Lib.hid (HPZ2.out.keep (Kept.of_below hb3 fun _ => False) fun _ _ q => q)
  have HB3 := Lib.hid (HB2.out.trans (hb3.mono HB2.out.size))
  have HG3 : Hid (w.heap.size ≤ u2.heap.size ∧ ¬ Fa u2.heap.size ∧ ¬ Fz u2.heap.size) := Lib.hid ⟨HB2.out.size, fun hF => absurd (HPA2.out.old _ hF) (Nat.lt_irrefl _), fun hF => absurd (HPZ2.out.old _ hF) (Nat.lt_irrefl _)⟩
  clear ho hg hb3 HMK HPA2 HPZ2 HB2
  generalize u2.heap.size = g at *
  have hbd : ∀ w, (Instr.build 140 #[(0, .pointer (some ⟨ap, 0, none⟩)), (1, .pointer (some ⟨z, 0, none⟩)), (2, .slice (some ⟨g, 0, none⟩) n n)]).run Tryz.prog w = .ok (.agg #[.pointer (some ⟨ap, 0, none⟩), .pointer (some ⟨z, 0, none⟩), .slice (some ⟨g, 0, none⟩) n n, .int .u64 0, .int .u64 0]) w := fun w => by kernel_rfl
  go_wp2_with fail
  go_ret2
  have hl : (Ar.new n).has.length = n := List.length_replicate
  have hal := below_alloc u3 (.cells #[.pointer (some ⟨ap, 0, none⟩), .pointer (some ⟨z, 0, none⟩), .slice (some ⟨g, 0, none⟩) n n, .int .u64 0, .int .u64 0] 140)
  have hz : (u3.alloc (.cells #[.pointer (some ⟨ap, 0, none⟩), .pointer (some ⟨z, 0, none⟩), .slice (some ⟨g, 0, none⟩) n n, .int .u64 0, .int .u64 0] 140)).heap.size = u3.heap.size + 1 := by simp
  have hg3 := HO3.out.ltA
  have hw3 := HB3.out.size
  refine ⟨u3.heap.size, ap, z, g, fun k => k = u3.heap.size ∨ k = g ∨ Fa k ∨ Fz k, rfl, ⟨?_, ?_, ⟨Fa, Fz, HPA3.out.step hal, HPZ3.out.keep (Kept.of_below hal fun _ => False) (fun _ _ q => q), fun k q => .inr (.inr (.inl q)), fun k q => ⟨.inr (.inr (.inr q)), (HFZ.out k q).2⟩, fun q => absurd (HPA3.out.old _ q) (Nat.lt_irrefl _), HG3.out.2.1, fun q => absurd (HPZ3.out.old _ q) (Nat.lt_irrefl _), HG3.out.2.2⟩, .inl rfl, .inr (.inl rfl), fun k hk => ?_, by rw [hl]; exact h2⟩, fun k hk => ?_, HB3.out.trans (hal.mono hw3)⟩
  · rw [hl]
    exact heap_alloc_new u3 _
  · rw [hl]
    exact (HO3.out.le (Nat.zero_le _)).below hal
  · rcases hk with rfl | rfl | hk | hk
    · omega
    · omega
    · have := HPA3.out.old k hk
      omega
    · have := HPZ3.out.old k hk
      omega
  · rcases hk with rfl | rfl | hk | hk
    · exact hw3
    · exact HG3.out.1
    · exact HFA.out k hk
    · exact (HFZ.out k hk).1
end Go.Proofs.YtimcdnbfdkpffaaGreat
