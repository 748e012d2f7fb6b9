import Derived.Test.YtkmakdhlaenaoaaGm29
/- Stage 11: the landed Copy, New. -/
namespace Go.Proofs.Ytkmakdhlaenaoaa
set_option maxRecDepth 100000
open Go.RowKit Go.Shelf
theorem Try.infoTM : (Try.prog.info? 81).map (fun i => (i.zero, i.size, i.bytes)) = some (some (.agg #[.int .u64 0, .int .u64 0, .int .u64 0]), 3, 24) := by kernel_rfl
set_option maxHeartbeats 1000000 in
theorem pcloneT {w : World} {g n c : Nat} {f : Nat → Value} (h : OwnC w 0 81 3 (some ⟨g, 0, none⟩) n c f) (hpos : 0 < n) (hn : n ≤ 70000) (hone : ∀ k, (f k).oneCell' = true) : Calls Try.prog 42 #[.slice (some ⟨g, 0, none⟩) n c] w fun e w' => ∃ g2 c2, e = .returned (.slice (some ⟨g2, 0, none⟩) n c2) ∧ w.heap.size ≤ g2 ∧ OwnC w' w.heap.size 81 3 (some ⟨g2, 0, none⟩) n c2 f ∧ Below w.heap.size w w' := by
  obtain ⟨i0, hi0, hz0, hz1, hz2⟩ := info_parts Try.infoTM
  have HI0 := Lib.hid hi0
  have HZ0 := Lib.hid hz0
  have HZ1 := Lib.hid hz1
  have HZ2 := Lib.hid hz2
  have HO4 : Hid (OwnC (w.alloc (.cells #[] 81)) w.heap.size 81 3 (some ⟨w.heap.size, 0, none⟩) 0 0 (fun _ => .int .u64 0)) := Lib.hid (OwnC.fresh w _ _ rfl (Nat.le_refl _) _ _ _)
  have HR4 := Lib.hid (h.below (below_alloc w (.cells #[] 81))).rd
  clear hi0 hz0 hz1 hz2 h
  have hnil : ∀ W, (binOp .eql 62 (.slice (some ⟨g, 0, none⟩) n c) (.slice none 0 0)).run Try.prog W = .ok (.bool false) W := fun W => by kernel_rfl
  go_enter Try.func42, Try.ntmps42
  go_wp2_with (first
    | (at_builtin
       refine wpList_append_vals rfl (.tmp 5) (.tmp 6) 62 rfl w.heap.size 81 i0 (.agg #[.int .u64 0, .int .u64 0, .int .u64 0]) 3 Try.underlying62 HI0.out HZ0.out HZ1.out rfl (by decide) rfl HO4.out rfl HR4.out (fun k _ => hone k) (by unfold maxLen; omega) (by rw [HZ2.out]; omega) (alloc_le w _) ?_
       intro A2 c2 u5 hown5 hg5 _
       have HO5 : Hid (OwnC u5 w.heap.size 81 3 A2 n c2 f) := Lib.hid (by
         rw [Nat.zero_add] at hown5
         exact hown5.same fun k _ => by unfold catV; rw [if_neg (by omega)]; rfl)
       have HB5 : Hid (Below w.heap.size w u5) := Lib.hid ((below_alloc w _).grown hg5 (alloc_le w _) fun k hk => HO4.out.at_ k hk)
       rw [Nat.zero_add]
       clear hown5 hg5))
  go_ret
  obtain ⟨g2, hg2, hgb, _⟩ := HO5.out.lies hpos
  subst hg2
  exact ⟨g2, c2, rfl, hgb, HO5.out, HB5.out⟩

theorem pz_copy {w : World} {p : Nat} {s : Sl} {F : Nat → Prop} (hs : s.Fit) (h : PZ w p s F) : Calls Try.prog 41 #[.pointer (some ⟨p, 0, none⟩)] w fun e w' => ∃ b F', e = .returned (.pointer (some ⟨b, 0, none⟩)) ∧ PZ w' b s F' ∧ (∀ k, F' k → w.heap.size ≤ k ∧ k < w'.heap.size) ∧ Below w.heap.size w w' := by
  obtain ⟨A, h⟩ := h
  exact pa_copy hs h
set_option maxHeartbeats 2000000 in
theorem pwcopyX {w : World} {p ap z g c : Nat} {A : Ar} {S : Sl} {now tn : Nat} {ta tw tt : Nat → Nat} {F : Nat → Prop} (h : WX w p ap z g c A S now tn ta tw tt F) (hS : S.Fit) : Calls Try.prog 19 #[.pointer (some ⟨p, 0, none⟩)] w fun e w' => ∃ b a2 z2 g2 c2 F', e = .returned (.pointer (some ⟨b, 0, none⟩)) ∧ WX w' b a2 z2 g2 c2 A S now tn ta tw tt F' ∧ (∀ k, F' k → w.heap.size ≤ k ∧ k < w'.heap.size) ∧ Below w.heap.size w w' := by
  have HX := Lib.hid h
  have HMD := Lib.hid (pmade h)
  have HFIT := Lib.hid hS
  have HPOS := Lib.hid h.pos
  have hn9 := h.n
  obtain ⟨m, hm⟩ : ∃ m, m = A.has.length := ⟨_, rfl⟩
  have HMM := Lib.hid hm
  rw [← hm] at hn9
  clear h hS
  go_enter Try.func19, Try.ntmps19
  go_upto_region 3 with (first
    | (go_at_call 22
       refine HMD.out.mono ?_
       rintro e u1 ⟨rfl, hbb⟩
       have HX1 := Lib.hid (HX.out.step hbb)
       have HB1 := Lib.hid hbb
       clear hbb HX HMD))
  have hblk : u1.heap[p]? = some (.cells #[.pointer (some ⟨ap, 0, none⟩), .pointer (some ⟨z, 0, none⟩), .slice (some ⟨g, 0, none⟩) m c, .int .u64 (now : Int), .int .u64 (tn : Int)] 64 (0, 0)) := by rw [hm]; exact HX1.out.blk
  have HBK := Lib.hid hblk
  clear hblk hm
  go_upto_region 4 with (first
    | (refine wpList_load_row rfl 64 (.tmp 8) rfl p rfl 64 #[.pointer (some ⟨ap, 0, none⟩), .pointer (some ⟨z, 0, none⟩), .slice (some ⟨g, 0, none⟩) m c, .int .u64 (now : Int), .int .u64 (tn : Int)] (0, 0) _ HBK.out Try.underlying64 rfl (by kernel_rfl) ?_))
  have HM2 : Hid ((u1.alloc (.cells #[.pointer (some ⟨ap, 0, none⟩), .pointer (some ⟨z, 0, none⟩), .slice (some ⟨g, 0, none⟩) m c, .int .u64 (now : Int), .int .u64 (tn : Int)] 64)).heap[u1.heap.size]? = some (.cells #[.pointer (some ⟨ap, 0, none⟩), .pointer (some ⟨z, 0, none⟩), .slice (some ⟨g, 0, none⟩) m c, .int .u64 (now : Int), .int .u64 (tn : Int)] 64 (0, 0))) := Lib.hid (heap_alloc_new u1 _)
  have HB2 := Lib.hid (HB1.out.alloc HB1.out.size (.cells #[.pointer (some ⟨ap, 0, none⟩), .pointer (some ⟨z, 0, none⟩), .slice (some ⟨g, 0, none⟩) m c, .int .u64 (now : Int), .int .u64 (tn : Int)] 64))
  have HX2 := Lib.hid (HX1.out.step (below_alloc u1 (.cells #[.pointer (some ⟨ap, 0, none⟩), .pointer (some ⟨z, 0, none⟩), .slice (some ⟨g, 0, none⟩) m c, .int .u64 (now : Int), .int .u64 (tn : Int)] 64)))
  have HBL : Hid (w.heap.size ≤ u1.heap.size) := Lib.hid HB1.out.size
  have HBN : Hid (∀ k, F k → k < u1.heap.size) := Lib.hid HX1.out.old
  change Code.wp _ _ _ _ (u1.alloc (.cells #[.pointer (some ⟨ap, 0, none⟩), .pointer (some ⟨z, 0, none⟩), .slice (some ⟨g, 0, none⟩) m c, .int .u64 (now : Int), .int .u64 (tn : Int)] 64))
  generalize u1.heap.size = b at *
  generalize u1.alloc (.cells #[.pointer (some ⟨ap, 0, none⟩), .pointer (some ⟨z, 0, none⟩), .slice (some ⟨g, 0, none⟩) m c, .int .u64 (now : Int), .int .u64 (tn : Int)] 64) = u2 at *
  have x0 : u2.cell? ⟨p, 0, none⟩ = some (.pointer (some ⟨ap, 0, none⟩)) := blk_cell HX2.out.blk 0
  obtain ⟨Fa0, Fz0, hpa0, hpz0, har⟩ := HX2.out.ar
  have HPA0 := Lib.hid hpa0
  have HPZ0 := Lib.hid hpz0
  have HNBZ : Hid (∀ k, Fz0 k → ¬ k = b) := Lib.hid fun k hk e => by
    have h1 := HBN.out k (har.2.1 k hk).1
    omega
  clear hpa0 hpz0 har
  go_upto_region 5 with (first
    | (go_at_call 40
       refine (pcopy_new HX2.out.n HPA0.out).mono ?_
       rintro e u3 ⟨a2, Fa, rfl, hpa, hfa, hb⟩
       have HM3 : Hid (u3.heap[b]? = some (.cells #[.pointer (some ⟨ap, 0, none⟩), .pointer (some ⟨z, 0, none⟩), .slice (some ⟨g, 0, none⟩) m c, .int .u64 (now : Int), .int .u64 (tn : Int)] 64 (0, 0))) := Lib.hid ((hb.block _ (lt_heap HM2.out)).trans HM2.out)
       have HX3 := Lib.hid (HX2.out.step hb)
       have HB3 := Lib.hid (HB2.out.trans (hb.mono HB2.out.size))
       have HPZ3 := Lib.hid (HPZ0.out.keep (Kept.of_below hb fun _ => False) fun _ _ q => q)
       have HPA3 := Lib.hid hpa
       have HFA3 : Hid (∀ k, Fa k → b < k) := Lib.hid fun k hk => Nat.lt_of_lt_of_le (lt_heap HM2.out) (hfa k hk).1
       have x3 : u3.cell? ⟨b, 0, none⟩ = some (.pointer (some ⟨ap, 0, none⟩)) := blk_cell HM3.out 0
       have y3 := blk_free HM3.out 0
       clear hpa hfa hb x0))
  have HM4 : Hid ((u3.setCell ⟨b, 0, none⟩ (.pointer (some ⟨a2, 0, none⟩))).heap[b]? = some (.cells #[.pointer (some ⟨a2, 0, none⟩), .pointer (some ⟨z, 0, none⟩), .slice (some ⟨g, 0, none⟩) m c, .int .u64 (now : Int), .int .u64 (tn : Int)] 64 (0, 0))) := Lib.hid (blk_set HM3.out 0 _)
  have hk4 : Kept (fun k => k = b) u3 (u3.setCell ⟨b, 0, none⟩ (.pointer (some ⟨a2, 0, none⟩))) := Kept.setCell (R := fun k => k = b) (Kept.refl _ u3) (p := ⟨b, 0, none⟩) (.inl rfl) _
  have HNB2 : Hid (∀ k, F k → ¬ k = b) := Lib.hid fun k hF e => by
    have h1 := HBN.out k hF
    omega
  have HX4 := Lib.hid (HX3.out.keep hk4 HNB2.out)
  have HPA4 := Lib.hid (HPA3.out.keep hk4 fun k hk e => by have := HFA3.out k hk; omega)
  have HPZ4 := Lib.hid (HPZ3.out.keep hk4 fun k hk e => HNBZ.out k hk e)
  have HB4 := Lib.hid (HB3.out.setCell (p := ⟨b, 0, none⟩) HBL.out (.pointer (some ⟨a2, 0, none⟩)))
  clear x3 y3 hk4 HX3 HPA3 HPZ3 HB3 HM3
  generalize u3.setCell ⟨b, 0, none⟩ (.pointer (some ⟨a2, 0, none⟩)) = u4 at *
  have x1 : u4.cell? ⟨p, 1, none⟩ = some (.pointer (some ⟨z, 0, none⟩)) := blk_cell HX4.out.blk 1
  go_upto_region 6 with (first
    | (go_at_call 41
       refine (pz_copy HFIT.out HPZ4.out).mono ?_
       rintro e u5 ⟨z2, Fz, rfl, hpz, hfz, hb⟩
       have HM5 : Hid (u5.heap[b]? = some (.cells #[.pointer (some ⟨a2, 0, none⟩), .pointer (some ⟨z, 0, none⟩), .slice (some ⟨g, 0, none⟩) m c, .int .u64 (now : Int), .int .u64 (tn : Int)] 64 (0, 0))) := Lib.hid ((hb.block _ (lt_heap HM4.out)).trans HM4.out)
       have HX5 := Lib.hid (HX4.out.step hb)
       have HB5 := Lib.hid (HB4.out.trans (hb.mono HB4.out.size))
       have HPA5 := Lib.hid (HPA4.out.step hb)
       have HPZ5 := Lib.hid hpz
       have HFZ5 : Hid (∀ k, Fz k → b < k ∧ ¬ Fa k) := Lib.hid fun k hk => ⟨Nat.lt_of_lt_of_le (lt_heap HM4.out) (hfz k hk).1, fun hF => by have := HPA4.out.old k hF; have := (hfz k hk).1; omega⟩
       have x3 : u5.cell? ⟨b, 1, none⟩ = some (.pointer (some ⟨z, 0, none⟩)) := blk_cell HM5.out 1
       have y3 := blk_free HM5.out 1
       clear hpz hfz hb x1))
  have HM6 : Hid ((u5.setCell ⟨b, 1, none⟩ (.pointer (some ⟨z2, 0, none⟩))).heap[b]? = some (.cells #[.pointer (some ⟨a2, 0, none⟩), .pointer (some ⟨z2, 0, none⟩), .slice (some ⟨g, 0, none⟩) m c, .int .u64 (now : Int), .int .u64 (tn : Int)] 64 (0, 0))) := Lib.hid (blk_set HM5.out 1 _)
  have hk6 : Kept (fun k => k = b) u5 (u5.setCell ⟨b, 1, none⟩ (.pointer (some ⟨z2, 0, none⟩))) := Kept.setCell (R := fun k => k = b) (Kept.refl _ u5) (p := ⟨b, 1, none⟩) (.inl rfl) _
  have HX6 := Lib.hid (HX5.out.keep hk6 HNB2.out)
  have HPA6 := Lib.hid (HPA5.out.keep hk6 fun k hk e => by have := HFA3.out k hk; omega)
  have HPZ6 := Lib.hid (HPZ5.out.keep hk6 fun k hk e => by have := HFZ5.out k hk; omega)
  have HB6 := Lib.hid (HB5.out.setCell (p := ⟨b, 1, none⟩) HBL.out (.pointer (some ⟨z2, 0, none⟩)))
  clear x3 y3 hk6 HX5 HPA5 HPZ5 HB5 HM5
  generalize u5.setCell ⟨b, 1, none⟩ (.pointer (some ⟨z2, 0, none⟩)) = u6 at *
  have x2 : u6.cell? ⟨p, 2, none⟩ = some (.slice (some ⟨g, 0, none⟩) m c) := by rw [HMM.out]; exact blk_cell HX6.out.blk 2
  have HCL := Lib.hid (pcloneT HX6.out.row HPOS.out (by rw [← HMM.out]; omega) (wcell_one ta tw tt))
  rw [← HMM.out] at HCL
  go_upto_region 7 with (first
    | (go_at_call 42
       refine HCL.out.mono ?_
       rintro e u7 ⟨g2, c2, rfl, hg2, ho, hb⟩
       have HM7 : Hid (u7.heap[b]? = some (.cells #[.pointer (some ⟨a2, 0, none⟩), .pointer (some ⟨z2, 0, none⟩), .slice (some ⟨g, 0, none⟩) m c, .int .u64 (now : Int), .int .u64 (tn : Int)] 64 (0, 0))) := Lib.hid ((hb.block _ (lt_heap HM6.out)).trans HM6.out)
       have HB7 := Lib.hid (HB6.out.trans (hb.mono HB6.out.size))
       have HPA7 := Lib.hid (HPA6.out.step hb)
       have HPZ7 := Lib.hid (HPZ6.out.keep (Kept.of_below hb fun _ => False) fun _ _ q => q)
       have HO7 := Lib.hid (ho.le (Nat.zero_le _))
       have HG7 : Hid (b < g2 ∧ ¬ Fa g2 ∧ ¬ Fz g2) := Lib.hid ⟨Nat.lt_of_lt_of_le (lt_heap HM6.out) hg2, fun hF => by have := HPA6.out.old _ hF; omega, fun hF => by have := HPZ6.out.old _ hF; omega⟩
       have x3 : u7.cell? ⟨b, 2, none⟩ = some (.slice (some ⟨g, 0, none⟩) m c) := blk_cell HM7.out 2
       have y3 := blk_free HM7.out 2
       clear ho hg2 hb x2 HCL))
  have HM8 : Hid ((u7.setCell ⟨b, 2, none⟩ (.slice (some ⟨g2, 0, none⟩) m c2)).heap[b]? = some (.cells #[.pointer (some ⟨a2, 0, none⟩), .pointer (some ⟨z2, 0, none⟩), .slice (some ⟨g2, 0, none⟩) m c2, .int .u64 (now : Int), .int .u64 (tn : Int)] 64 (0, 0))) := Lib.hid (blk_set HM7.out 2 _)
  have hk8 : Kept (fun k => k = b) u7 (u7.setCell ⟨b, 2, none⟩ (.slice (some ⟨g2, 0, none⟩) m c2)) := Kept.setCell (R := fun k => k = b) (Kept.refl _ u7) (p := ⟨b, 2, none⟩) (.inl rfl) _
  have HPA8 := Lib.hid (HPA7.out.keep hk8 fun k hk e => by have := HFA3.out k hk; omega)
  have HPZ8 := Lib.hid (HPZ7.out.keep hk8 fun k hk e => by have := HFZ5.out k hk; omega)
  have HO8 : Hid (OwnC (u7.setCell ⟨b, 2, none⟩ (.slice (some ⟨g2, 0, none⟩) m c2)) 0 81 3 (some ⟨g2, 0, none⟩) m c2 (wcell ta tw tt)) := Lib.hid (HO7.out.block (Below.heap_setCell u7 ⟨b, 2, none⟩ _ g2 (fun e => absurd (show g2 = b from e) (Nat.ne_of_gt HG7.out.1))))
  have HB8 := Lib.hid (HB7.out.setCell (p := ⟨b, 2, none⟩) HBL.out (.slice (some ⟨g2, 0, none⟩) m c2))
  go_wp2_with fail
  go_ret
  have hg8 := HO8.out.ltA
  have hb8 := lt_heap HM8.out
  refine ⟨b, a2, z2, g2, c2, fun k => k = b ∨ k = g2 ∨ Fa k ∨ Fz k, rfl, ⟨?_, ?_, ⟨Fa, Fz, HPA8.out, HPZ8.out, fun k q => .inr (.inr (.inl q)), fun k q => ⟨.inr (.inr (.inr q)), (HFZ5.out k q).2⟩, fun q => by have := HFA3.out b q; omega, HG7.out.2.1, fun q => by have := (HFZ5.out b q).1; omega, HG7.out.2.2⟩, .inl rfl, .inr (.inl rfl), fun k hk => ?_, by rw [← HMM.out]; exact hn9⟩, fun k hk => ?_, HB8.out⟩
  · rw [← HMM.out]
    exact HM8.out
  · rw [← HMM.out]
    exact HO8.out
  · rcases hk with rfl | rfl | hk | hk
    · exact hb8
    · exact hg8
    · exact HPA8.out.old k hk
    · exact HPZ8.out.old k hk
  · have hw := HBL.out
    rcases hk with rfl | rfl | hk | hk
    · exact ⟨hw, hb8⟩
    · have := HG7.out.1
      exact ⟨by omega, hg8⟩
    · have := HFA3.out k hk
      exact ⟨by omega, HPA8.out.old k hk⟩
    · have := (HFZ5.out k hk).1
      exact ⟨by omega, HPZ8.out.old k hk⟩
theorem pwnew_bad (w : World) (n : Int) (h : n < 1 ∨ 65536 < n) : Calls Try.prog 7 #[.int .i64 n] w (ret (.tuple #[.pointer none, .int .i64 2]) w) := by
  have HN := Lib.hid (pnew_bad w n h)
  clear h
  go_enter Try.func7, Try.ntmps7
  go_wp2_with (first
    | (go_at_call 20
       refine HN.out.mono ?_
       rintro e u1 ⟨rfl, hbb⟩
       have HB1 := Lib.hid hbb
       clear hbb))
  go_ret2
  exact ⟨rfl, HB1.out⟩
set_option maxHeartbeats 1000000 in
theorem pwnewX (w : World) (n : Nat) (h1 : 1 ≤ n) (h2 : n ≤ 65536) : Calls Try.prog 7 #[.int .i64 (n : Int)] w fun e w' => ∃ p ap z g F, e = .returned (.tuple #[.pointer (some ⟨p, 0, none⟩), .int .i64 0]) ∧ WX w' p ap z g n (Ar.new n) (Sl.new 1024 n) 0 0 (fun _ => 0) (fun _ => 0) (fun _ => 0) F ∧ (∀ k, F k → w.heap.size ≤ k) ∧ Below w.heap.size w w' := by
  obtain ⟨i0, hi0, hz0, hz1, hz2⟩ := info_parts Try.infoTM
  have hmk : ∀ W : World, ∃ w', (Instr.makeSlice 62 (.int .i64 (n : Int)) (.int .i64 (n : Int))).run Try.prog W = .ok (.slice (some ⟨W.heap.size, 0, none⟩) n n) w' ∧ OwnC w' W.heap.size 81 3 (some ⟨W.heap.size, 0, none⟩) n n (wcell (fun _ => 0) (fun _ => 0) (fun _ => 0)) ∧ W.grownBy w' none := fun W => by
    obtain ⟨w', h1, h2, h3⟩ := run_make_full (P := Try.prog) (w := W) W.heap.size 62 81 i0 (.agg #[.int .u64 0, .int .u64 0, .int .u64 0]) 3 Try.underlying62 hi0 hz0 hz1 .i64 .i64 n (by rw [hz2]; omega) (by unfold maxLen; omega) (Nat.le_refl _)
    refine ⟨w', h1, ?_, h3⟩
    unfold OwnC
    have e1 : (madeCells (Value.agg #[.int .u64 0, .int .u64 0, .int .u64 0]).cells (n * 3)).toList = vals (n * 3) (wcell (fun _ => 0) (fun _ => 0) (fun _ => 0)) := by
      refine vals_eq (by simp [size_madeCells]) fun k hk => ?_
      show (madeCells #[.int .u64 0, .int .u64 0, .int .u64 0] (n * 3)).toList[k]? = _
      unfold wcell
      simp [madeCells]
      refine ⟨k, List.getElem?_range hk, ?_⟩
      rcases (show k % 3 = 0 ∨ k % 3 = 1 ∨ k % 3 = 2 by omega) with e | e | e
      · rw [e]; rfl
      · rw [e]; rfl
      · rw [e]; rfl
    rw [← e1]
    exact h2
  have HMK := Lib.hid hmk
  have HN := Lib.hid (pnew_st w n h1 h2)
  have HPN := Lib.hid fun W => pa_new W n 1024 h1 h2 (by omega) (by omega)
  clear hmk hi0 hz0 hz1 hz2
  go_enter Try.func7, Try.ntmps7
  go_upto_region 4 with (first
    | (go_at_call 20
       refine HN.out.mono ?_
       rintro e u1 ⟨ap, Fa, rfl, hpa, hfa, hbb⟩
       have HPA1 := Lib.hid hpa
       have HFA := Lib.hid hfa
       have HB1 := Lib.hid hbb
       clear hpa hfa hbb HN))
  go_upto_region 7 with (first
    | (go_at_call 21
       refine (HPN.out u1).mono ?_
       rintro e u2 ⟨z, Fz, rfl, hpz, hfz, hbb⟩
       have HPA2 := Lib.hid (HPA1.out.step hbb)
       have HPZ2 := Lib.hid hpz
       have HFZ : Hid (∀ k, Fz k → w.heap.size ≤ k ∧ ¬ Fa k) := Lib.hid fun k hk => ⟨Nat.le_trans HB1.out.size (hfz k hk).1, fun hF => by have := HPA1.out.old k hF; have := (hfz k hk).1; omega⟩
       have HB2 := Lib.hid (HB1.out.trans (hbb.mono HB1.out.size))
       clear hpz hfz hbb HPN HPA1 HB1))
  obtain ⟨u3, hm, ho, hg⟩ := HMK.out u2
  have hb3 : Below u2.heap.size u2 u3 := (Below.refl _ _).grown hg (Nat.le_refl _) (fun _ h => nomatch h)
  have HO3 := Lib.hid ho
  have HPA3 := Lib.hid (HPA2.out.step hb3)
  have HPZ3 := Lib.hid (HPZ2.out.keep (Kept.of_below hb3 fun _ => False) fun _ _ q => q)
  have HB3 := Lib.hid (HB2.out.trans (hb3.mono HB2.out.size))
  have HG3 : Hid (w.heap.size ≤ u2.heap.size ∧ ¬ Fa u2.heap.size ∧ ¬ Fz u2.heap.size) := Lib.hid ⟨HB2.out.size, fun hF => absurd (HPA2.out.old _ hF) (Nat.lt_irrefl _), fun hF => absurd (HPZ2.out.old _ hF) (Nat.lt_irrefl _)⟩
  clear ho hg hb3 HMK HPA2 HPZ2 HB2
  generalize u2.heap.size = g at *
  have hbd : ∀ w, (Instr.build 64 #[(0, .pointer (some ⟨ap, 0, none⟩)), (1, .pointer (some ⟨z, 0, none⟩)), (2, .slice (some ⟨g, 0, none⟩) n n)]).run Try.prog w = .ok (.agg #[.pointer (some ⟨ap, 0, none⟩), .pointer (some ⟨z, 0, none⟩), .slice (some ⟨g, 0, none⟩) n n, .int .u64 0, .int .u64 0]) w := fun w => by kernel_rfl
  go_wp2_with fail
  go_ret2
  have hl : (Ar.new n).has.length = n := List.length_replicate
  have hal := below_alloc u3 (.cells #[.pointer (some ⟨ap, 0, none⟩), .pointer (some ⟨z, 0, none⟩), .slice (some ⟨g, 0, none⟩) n n, .int .u64 0, .int .u64 0] 64)
  have hz : (u3.alloc (.cells #[.pointer (some ⟨ap, 0, none⟩), .pointer (some ⟨z, 0, none⟩), .slice (some ⟨g, 0, none⟩) n n, .int .u64 0, .int .u64 0] 64)).heap.size = u3.heap.size + 1 := by simp
  have hg3 := HO3.out.ltA
  have hw3 := HB3.out.size
  refine ⟨u3.heap.size, ap, z, g, fun k => k = u3.heap.size ∨ k = g ∨ Fa k ∨ Fz k, rfl, ⟨?_, ?_, ⟨Fa, Fz, HPA3.out.step hal, HPZ3.out.keep (Kept.of_below hal fun _ => False) (fun _ _ q => q), fun k q => .inr (.inr (.inl q)), fun k q => ⟨.inr (.inr (.inr q)), (HFZ.out k q).2⟩, fun q => absurd (HPA3.out.old _ q) (Nat.lt_irrefl _), HG3.out.2.1, fun q => absurd (HPZ3.out.old _ q) (Nat.lt_irrefl _), HG3.out.2.2⟩, .inl rfl, .inr (.inl rfl), fun k hk => ?_, by rw [hl]; exact h2⟩, fun k hk => ?_, HB3.out.trans (hal.mono hw3)⟩
  · rw [hl]
    exact heap_alloc_new u3 _
  · rw [hl]
    exact (HO3.out.le (Nat.zero_le _)).below hal
  · rcases hk with rfl | rfl | hk | hk
    · omega
    · omega
    · have := HPA3.out.old k hk
      omega
    · have := HPZ3.out.old k hk
      omega
  · rcases hk with rfl | rfl | hk | hk
    · exact hw3
    · exact HG3.out.1
    · exact HFA.out k hk
    · exact (HFZ.out k hk).1
end Go.Proofs.Ytkmakdhlaenaoaa
/- Stage 11: the landed wheel's calls, by what they stand for; what is not there. -/
namespace Go.Proofs.Ytkmakdhlaenaoaa
set_option maxRecDepth 100000
open Go.RowKit Go.Shelf
/-- The landed wheel at p stands for s. -/
def PW (w : World) (p : Nat) (s : Wh) (F : Nat → Prop) : Prop := ∃ ap z g c S ta tw tt, WX w p ap z g c s.a S s.now s.tn ta tw tt F ∧ WRep s S ta tw tt
theorem over_eq (s : Wh) (at_ : Nat) : s.over at_ = ovr s.now at_ := rfl
theorem nxt_eq (s : Wh) (at_ : Nat) : s.nxt at_ = max at_ (s.now + 1) := by
  unfold Wh.nxt
  split <;> omega
theorem ovr_now {now at_ : Nat} (h : ovr now at_ = false) (hn : now < 18446744073709551616) : now < 18446744073709551615 := by
  unfold ovr at h
  simp at h
  omega
section
variable {w w' : World} {p : Nat} {s : Wh} {F : Nat → Prop} {m : Nat}
theorem PW.keep {R : Nat → Prop} (h : PW w p s F) (hk : Kept R w w') (hd : ∀ k, F k → ¬ R k) : PW w' p s F := by
  obtain ⟨ap, z, g, c, S, ta, tw, tt, hx, hr⟩ := h
  exact ⟨ap, z, g, c, S, ta, tw, tt, hx.keep hk hd, hr⟩
theorem PW.old (h : PW w p s F) : ∀ k, F k → k < w.heap.size := by
  obtain ⟨ap, z, g, c, S, ta, tw, tt, hx, hr⟩ := h
  exact hx.old
theorem PW.ptr (h : PW w p s F) : F p := by
  obtain ⟨ap, z, g, c, S, ta, tw, tt, hx, hr⟩ := h
  exact hx.mp
theorem pw_arm (h : PW w p s F) (hs : s.Fit m) (at_ what : Nat) (ha : at_ < 18446744073709551616) : Calls Try.prog 15 #[.pointer (some ⟨p, 0, none⟩), .int .u64 (at_ : Int), .int .u64 (what : Int)] w fun e w' => e = .returned (.tuple #[.agg (s.armH at_), .int .i64 (s.armE at_)]) ∧ ∃ F', PW w' p (s.arm at_ what) F' ∧ Ext F F' w w' := by
  obtain ⟨ap, z, g, c, S, ta, tw, tt, hx, hr⟩ := h
  have hser := hs.ser
  have htn := hs.tn
  have hm := hs.m
  cases ho : ovr s.now at_ with
  | true =>
    have ho' : s.over at_ = true := ho
    have e1 : s.armE at_ = 15 := if_pos ho'
    have e2 : s.armH at_ = #[.int .i64 0, .int .u64 0] := if_pos ho'
    have e3 : s.arm at_ what = s := if_pos ho'
    rw [e1, e2, e3]
    refine (parmX_over hx at_ what ha ho).mono ?_
    rintro e w' ⟨rfl, F', hx', he⟩
    exact ⟨rfl, F', ⟨ap, z, g, c, S, ta, tw, tt, hx', hr⟩, he⟩
  | false =>
    have ho' : ¬ s.over at_ = true := by rw [over_eq, ho]; decide
    cases hw : s.a.which with
    | none =>
      have e1 : s.armE at_ = 9 := by unfold Wh.armE; rw [if_neg ho', hw]
      have e2 : s.armH at_ = #[.int .i64 0, .int .u64 0] := by unfold Wh.armH; rw [if_neg ho', hw]
      have e3 : s.arm at_ what = s := by unfold Wh.arm; rw [if_neg ho', hw]
      rw [e1, e2, e3]
      refine (parmX_full hx hs.ok.a (by omega) at_ what ha ho hw).mono ?_
      rintro e w' ⟨rfl, F', hx', he⟩
      exact ⟨rfl, F', ⟨ap, z, g, c, S, ta, tw, tt, hx', hr⟩, he⟩
    | some i =>
      have e1 : s.armE at_ = 0 := by unfold Wh.armE; rw [if_neg ho', hw]
      have e2 : s.armH at_ = #[.int .i64 (i : Int), .int .u64 ((s.a.serial : Int) + 1)] := by unfold Wh.armH; rw [if_neg ho', hw]
      have e3 : s.arm at_ what = ⟨s.a.taken i, s.l ++ [⟨i, s.a.serial + 1, s.nxt at_, what⟩], s.now, s.tn + 1⟩ := by unfold Wh.arm; rw [if_neg ho', hw]
      have hr' := hr.arm (what := what) hs.ok ha (by rw [over_eq]; exact ho) hw
      rw [e1, e2]
      refine (parmX_ok hx hs.ok.a (hr.lie.fit hs.n) (by omega) (by omega) (ovr_now ho hs.ok.now) at_ what ha ho i hw).mono ?_
      rintro e w' ⟨rfl, F', hx', he⟩
      rw [← nxt_eq] at hx'
      refine ⟨rfl, F', ⟨ap, z, g, c, _, _, _, _, ?_, hr'⟩, he⟩
      rw [e3]
      exact hx'
theorem pw_again (h : PW w p s F) (hs : s.Fit m) (hi : Int) (k : Nat) (at_ : Nat) (ha : at_ < 18446744073709551616) : Calls Try.prog 17 #[.pointer (some ⟨p, 0, none⟩), .agg #[.int .i64 hi, .int .u64 (k : Int)], .int .u64 (at_ : Int)] w fun e w' => e = .returned (.int .i64 (s.againE hi k at_)) ∧ ∃ F', PW w' p (s.again hi k at_) F' ∧ Ext F F' w w' := by
  obtain ⟨ap, z, g, c, S, ta, tw, tt, hx, hr⟩ := h
  have htn := hs.tn
  have hm := hs.m
  cases hl : s.a.live hi k with
  | false =>
    have hf := (Wh.not_live hs.ok hl).1
    have e1 : s.againE hi k at_ = 14 := by unfold Wh.againE; rw [hl]; rfl
    have e3 : s.again hi k at_ = s := by unfold Wh.again; rw [hf]
    rw [e1, e3]
    refine (pagainX_no hx hi k hl at_).mono ?_
    rintro e w' ⟨rfl, F', hx', he⟩
    exact ⟨rfl, F', ⟨ap, z, g, c, S, ta, tw, tt, hx', hr⟩, he⟩
  | true =>
    obtain ⟨t, ht, h1, h2, hf⟩ := Wh.live_ent hs.ok hl
    cases ho : ovr s.now at_ with
    | true =>
      have ho' : s.over at_ = true := ho
      have e1 : s.againE hi k at_ = 15 := by unfold Wh.againE; rw [if_pos hl, if_pos ho']
      have e3 : s.again hi k at_ = s := by unfold Wh.again; rw [hf]; exact if_pos ho'
      rw [e1, e3]
      refine (pagainX_over hx hi k hl at_ ha ho).mono ?_
      rintro e w' ⟨rfl, F', hx', he⟩
      exact ⟨rfl, F', ⟨ap, z, g, c, S, ta, tw, tt, hx', hr⟩, he⟩
    | false =>
      have ho' : ¬ s.over at_ = true := by rw [over_eq, ho]; decide
      have e1 : s.againE hi k at_ = 0 := by unfold Wh.againE; rw [if_pos hl, if_neg ho']
      subst h1
      have hin : t.i < s.a.has.length := by
        rcases Nat.lt_or_ge t.i s.a.has.length with q | q
        · exact q
        · obtain ⟨q1, q2⟩ := hs.ok.ent t ht
          rw [Ar.at_out q] at q1
          omega
      have hr' := hr.again hs.ok ha (by rw [over_eq]; exact ho) hl
      have e3 : (s.again (t.i : Int) k at_).a = s.a ∧ (s.again (t.i : Int) k at_).now = s.now ∧ (s.again (t.i : Int) k at_).tn = s.tn + 1 := by
        unfold Wh.again
        rw [hf]
        dsimp only
        rw [if_neg ho']
        exact ⟨rfl, rfl, rfl⟩
      rw [e1]
      refine (pagainX_ok hx (hr.lie.fit hs.n) (by omega) (ovr_now ho hs.ok.now) t.i k hin hl at_ ha ho).mono ?_
      rintro e w' ⟨rfl, F', hx', he⟩
      rw [← nxt_eq] at hx'
      refine ⟨rfl, F', ⟨ap, z, g, c, _, _, _, _, ?_, hr'⟩, he⟩
      rw [e3.1, e3.2.1, e3.2.2]
      exact hx'
theorem pw_cancel (h : PW w p s F) (hs : s.Fit m) (hi : Int) (k : Nat) : Calls Try.prog 18 #[.pointer (some ⟨p, 0, none⟩), .agg #[.int .i64 hi, .int .u64 (k : Int)]] w fun e w' => e = .returned (.int .i64 (s.cancelE hi k)) ∧ ∃ F', PW w' p (s.cancel hi k) F' ∧ Ext F F' w w' := by
  obtain ⟨ap, z, g, c, S, ta, tw, tt, hx, hr⟩ := h
  cases hl : s.a.live hi k with
  | false =>
    have e1 : s.cancelE hi k = 14 := by unfold Wh.cancelE; rw [hl]; rfl
    have e3 : s.cancel hi k = s := by unfold Wh.cancel; rw [hl]; rfl
    rw [e1, e3]
    refine (pcancelX_no hx hi k hl).mono ?_
    rintro e w' ⟨rfl, F', hx', he⟩
    exact ⟨rfl, F', ⟨ap, z, g, c, S, ta, tw, tt, hx', hr⟩, he⟩
  | true =>
    have e1 : s.cancelE hi k = 0 := if_pos hl
    obtain ⟨t, ht, h1, h2, hf⟩ := Wh.live_ent hs.ok hl
    subst h1
    have e3 : s.cancel (t.i : Int) k = ⟨s.a.gone t.i, Wh.drop s.l (t.i : Int) k, s.now, s.tn⟩ := by
      unfold Wh.cancel
      rw [if_pos hl]
      rfl
    rw [e1]
    refine (pcancelX_ok hx hs.ok.a (hr.lie.fit hs.n) t.i k hl).mono ?_
    rintro e w' ⟨rfl, F', hx', he⟩
    have hr' := hr.cancel (ta' := updN ta t.i 0) (tw' := updN tw t.i 0) (tt' := updN tt t.i 0) hs.ok hl (fun j hj => updN_ne hj) (fun j hj => updN_ne hj) (fun j hj => updN_ne hj)
    refine ⟨rfl, F', ⟨ap, z, g, c, _, _, _, _, ?_, hr'⟩, he⟩
    rw [e3]
    exact hx'
theorem pw_due (h : PW w p s F) (hs : s.Fit m) (hi : Int) (k : Nat) : Calls Try.prog 13 #[.pointer (some ⟨p, 0, none⟩), .agg #[.int .i64 hi, .int .u64 (k : Int)]] w (ret (.tuple (s.due hi k)) w) := by
  obtain ⟨ap, z, g, c, S, ta, tw, tt, hx, hr⟩ := h
  cases hl : s.a.live hi k with
  | false =>
    have hf := (Wh.not_live hs.ok hl).1
    have e1 : s.due hi k = #[.int .u64 ((0 : Nat) : Int), .bool false] := by unfold Wh.due; rw [hf]; rfl
    rw [e1]
    exact pdueX hx hi k false hl 0 (fun h => nomatch h) fun _ => rfl
  | true =>
    obtain ⟨t, ht, h1, h2, hf⟩ := Wh.live_ent hs.ok hl
    have e1 : s.due hi k = #[.int .u64 (t.at_ : Int), .bool true] := by unfold Wh.due; rw [hf]
    rw [e1]
    refine pdueX hx hi k true hl t.at_ (fun _ => ⟨t.i, h1.symm, ?_, (hr.ent t ht).1⟩) (fun h => nomatch h)
    rcases Nat.lt_or_ge t.i s.a.has.length with q | q
    · exact q
    · obtain ⟨q1, q2⟩ := hs.ok.ent t ht
      rw [Ar.at_out q] at q1
      omega
theorem pw_tick (h : PW w p s F) (hs : s.Fit m) : Calls Try.prog 16 #[.pointer (some ⟨p, 0, none⟩)] w fun e w' => ∃ E dE, e = .returned (.tuple #[.slice E s.told.length dE, .int .i64 s.tickE]) ∧ OwnC w' w.heap.size 58 3 E s.told.length dE (rwc 3 fev s.told) ∧ ∃ F', PW w' p s.tick F' ∧ Ext F F' w w' ∧ ∀ k, Value.ownBlock (.slice E s.told.length dE) = some k → ¬ F' k := by
  obtain ⟨ap, z, g, c, S, ta, tw, tt, hx, hr⟩ := h
  by_cases hl : s.now = 18446744073709551615
  · have e1 : s.told = [] := if_pos hl
    have e2 : s.tickE = 15 := if_pos hl
    have e3 : s.tick = s := if_pos hl
    rw [e1, e2, e3]
    refine (ptickX_last hx hl).mono ?_
    rintro e w' ⟨rfl, hb⟩
    exact ⟨none, 0, rfl, OwnC.nil_ _ _ _ _ _, F, ⟨ap, z, g, c, S, ta, tw, tt, hx.step hb, hr⟩, .of_below hb, fun k e => by cases e⟩
  · have e1 : s.told = s.fires := if_neg hl
    have e2 : s.tickE = 0 := if_neg hl
    have e3 : s.tick = s.ticked := if_neg hl
    have hlt : s.now < 18446744073709551615 := by have := hs.ok.now; omega
    rw [e1, e2, e3]
    have hta : ∀ i, s.a.at_ i ≠ 0 → ta i < 18446744073709551616 := fun i hi => by
      obtain ⟨t, ht, rfl⟩ := hs.ok.all i hi
      rw [(hr.ent t ht).1]
      exact (hs.ok.fut t ht).2
    refine (ptickX hx hs.ok.a hlt hta hr.next).mono ?_
    rintro e w' ⟨S1, D, hp1, hpm, hpw, E, dE, F', S2, ta2, tw2, tt2, rfl, ho, hx', he, hnf, hp2, hs2⟩
    have hD := due_sorted hr hs.ok hp1 hpm hpw
    have hmap : (D.map fun x => (⟨x, s.a.at_ x, s.now + 1, tw x⟩ : Tm)) = s.fires := by
      rw [hD, List.map_map]
      conv => rhs; rw [← List.map_id s.fires]
      refine List.map_congr_left fun t ht => ?_
      obtain ⟨q1, q2⟩ := Wh.mem_fires.1 ht
      show (⟨t.i, s.a.at_ t.i, s.now + 1, tw t.i⟩ : Tm) = t
      rw [(hs.ok.ent t q1).1, (hr.ent t q1).2.1, ← q2]
    have hlen : D.length = s.fires.length := by rw [hD, List.length_map]
    rw [hmap] at ho
    rw [hlen] at ho hnf ⊢
    rw [hD] at hx' hp2 hs2
    exact ⟨E, dE, rfl, ho, F', ⟨ap, z, g, c, S2, ta2, tw2, tt2, hx', hr.ticked (S' := S) hs.ok hp2 (fun j hj => (hs2 j hj).1) (fun j hj => (hs2 j hj).2.1) (fun j hj => (hs2 j hj).2.2)⟩, he, hnf⟩
theorem pw_skip (h : PW w p s F) (hs : s.Fit m) (t9 : Nat) (ht : t9 < 18446744073709551616) : Calls Try.prog 8 #[.pointer (some ⟨p, 0, none⟩), .int .u64 (t9 : Int)] w fun e w' => e = .returned (.int .i64 (s.skipE t9)) ∧ ∃ F', PW w' p (s.skip t9) F' ∧ Ext F F' w w' := by
  obtain ⟨ap, z, g, c, S, ta, tw, tt, hx, hr⟩ := h
  have hc := hs.ok.cnt
  refine (pskipX hx t9 ht).mono ?_
  rintro e w' ⟨rfl, hx', he⟩
  rw [← hc] at hx' ⊢
  refine ⟨rfl, F, ?_, he⟩
  unfold Wh.skip Wh.skipE
  by_cases h0 : s.l.length = 0
  · rw [if_pos h0] at hx' ⊢
    by_cases h1 : t9 < s.now
    · rw [if_pos h1] at hx' ⊢
      rw [if_neg (by decide)]
      exact ⟨ap, z, g, c, S, ta, tw, tt, hx', hr⟩
    · rw [if_neg h1] at hx' ⊢
      rw [if_pos rfl]
      exact ⟨ap, z, g, c, S, ta, tw, tt, hx', hr.skip hs.ok h0⟩
  · rw [if_neg h0] at hx' ⊢
    rw [if_neg (by decide)]
    exact ⟨ap, z, g, c, S, ta, tw, tt, hx', hr⟩
theorem pw_now (h : PW w p s F) : Calls Try.prog 11 #[.pointer (some ⟨p, 0, none⟩)] w (ret (.int .u64 (s.now : Int)) w) := by
  obtain ⟨ap, z, g, c, S, ta, tw, tt, hx, hr⟩ := h
  exact pnow hx
theorem pw_len (h : PW w p s F) (hs : s.Ok) : Calls Try.prog 12 #[.pointer (some ⟨p, 0, none⟩)] w (ret (.int .i64 (s.l.length : Int)) w) := by
  obtain ⟨ap, z, g, c, S, ta, tw, tt, hx, hr⟩ := h
  rw [hs.cnt]
  exact pwlen hx
theorem pw_copy (h : PW w p s F) (hs : s.Fit m) : Calls Try.prog 19 #[.pointer (some ⟨p, 0, none⟩)] w fun e w' => ∃ b F', e = .returned (.pointer (some ⟨b, 0, none⟩)) ∧ PW w' b s F' ∧ (∀ k, F' k → w.heap.size ≤ k ∧ k < w'.heap.size) ∧ Below w.heap.size w w' := by
  obtain ⟨ap, z, g, c, S, ta, tw, tt, hx, hr⟩ := h
  refine (pwcopyX hx (hr.lie.fit hs.n)).mono ?_
  rintro e w' ⟨b, a2, z2, g2, c2, F', rfl, hx', hF, hb⟩
  exact ⟨b, F', rfl, ⟨a2, z2, g2, c2, S, ta, tw, tt, hx', hr⟩, hF, hb⟩
end
theorem pw_new (w : World) (n : Nat) (h1 : 1 ≤ n) (h2 : n ≤ 65536) : Calls Try.prog 7 #[.int .i64 (n : Int)] w fun e w' => ∃ p F, e = .returned (.tuple #[.pointer (some ⟨p, 0, none⟩), .int .i64 0]) ∧ PW w' p (Wh.new n) F ∧ (∀ k, F k → w.heap.size ≤ k) ∧ Below w.heap.size w w' := by
  refine (pwnewX w n h1 h2).mono ?_
  rintro e w' ⟨p, ap, z, g, F, rfl, hx, hF, hb⟩
  exact ⟨p, F, rfl, ⟨ap, z, g, n, _, _, _, _, hx, WRep.new n⟩, hF, hb⟩
section
variable {w : World} {pa : Option Addr}
theorem ntick (HM : Calls Try.prog 22 #[.pointer pa] w (ret (.bool false) w)) : Calls Try.prog 16 #[.pointer pa] w (ret (.tuple #[.slice none 0 0, .int .i64 1]) w) := by
  have HMD := Lib.hid HM
  clear HM
  go_enter Try.func16, Try.ntmps16
  go_wp2_with (first
    | (go_at_call 22
       refine HMD.out.mono ?_
       rintro e u1 ⟨rfl, hbb⟩
       have HB1 := Lib.hid hbb
       clear hbb))
  go_ret2
  exact ⟨rfl, HB1.out⟩
theorem nskip (t9 : Int) (HM : Calls Try.prog 22 #[.pointer pa] w (ret (.bool false) w)) : Calls Try.prog 8 #[.pointer pa, .int .u64 t9] w (ret (.int .i64 1) w) := by
  have HMD := Lib.hid HM
  clear HM
  go_enter Try.func8, Try.ntmps8
  go_wp2_with (first
    | (go_at_call 22
       refine HMD.out.mono ?_
       rintro e u1 ⟨rfl, hbb⟩
       have HB1 := Lib.hid hbb
       clear hbb))
  go_ret
  exact ⟨rfl, HB1.out⟩
theorem ncopy (HM : Calls Try.prog 22 #[.pointer pa] w (ret (.bool false) w)) : Calls Try.prog 19 #[.pointer pa] w (ret (.pointer none) w) := by
  have HMD := Lib.hid HM
  clear HM
  go_enter Try.func19, Try.ntmps19
  go_wp2_with (first
    | (go_at_call 22
       refine HMD.out.mono ?_
       rintro e u1 ⟨rfl, hbb⟩
       have HB1 := Lib.hid hbb
       clear hbb))
  go_ret
  exact ⟨rfl, HB1.out⟩
theorem nagain (hi hk at_ : Int) (HM : ∀ W, Below w.heap.size w W → Calls Try.prog 22 #[.pointer pa] W (ret (.bool false) W)) : Calls Try.prog 17 #[.pointer pa, .agg #[.int .i64 hi, .int .u64 hk], .int .u64 at_] w (ret (.int .i64 1) w) := by
  have HB0 : Hid (Below w.heap.size w (w.alloc (.cells #[.int .i64 hi, .int .u64 hk] 46))) := Lib.hid (below_alloc w _)
  have HMD := Lib.hid (HM _ HB0.out)
  clear HM
  go_enter Try.func17, Try.ntmps17
  go_upto_region 1 with fail
  change Code.wp _ _ _ _ (w.alloc (.cells #[.int .i64 hi, .int .u64 hk] 46))
  generalize w.alloc (.cells #[.int .i64 hi, .int .u64 hk] 46) = u0 at *
  go_wp2_with (first
    | (go_at_call 22
       refine HMD.out.mono ?_
       rintro e u1 ⟨rfl, hbb⟩
       have HB1 := Lib.hid (HB0.out.trans (hbb.mono HB0.out.size))
       clear hbb))
  go_ret
  exact ⟨rfl, HB1.out⟩
theorem ncancel (hi hk : Int) (HM : ∀ W, Below w.heap.size w W → Calls Try.prog 22 #[.pointer pa] W (ret (.bool false) W)) : Calls Try.prog 18 #[.pointer pa, .agg #[.int .i64 hi, .int .u64 hk]] w (ret (.int .i64 1) w) := by
  have HB0 : Hid (Below w.heap.size w (w.alloc (.cells #[.int .i64 hi, .int .u64 hk] 46))) := Lib.hid (below_alloc w _)
  have HMD := Lib.hid (HM _ HB0.out)
  clear HM
  go_enter Try.func18, Try.ntmps18
  go_upto_region 1 with fail
  change Code.wp _ _ _ _ (w.alloc (.cells #[.int .i64 hi, .int .u64 hk] 46))
  generalize w.alloc (.cells #[.int .i64 hi, .int .u64 hk] 46) = u0 at *
  go_wp2_with (first
    | (go_at_call 22
       refine HMD.out.mono ?_
       rintro e u1 ⟨rfl, hbb⟩
       have HB1 := Lib.hid (HB0.out.trans (hbb.mono HB0.out.size))
       clear hbb))
  go_ret
  exact ⟨rfl, HB1.out⟩
theorem narm (at_ what : Int) (HM : ∀ W, Below w.heap.size w W → Calls Try.prog 22 #[.pointer pa] W (ret (.bool false) W)) : Calls Try.prog 15 #[.pointer pa, .int .u64 at_, .int .u64 what] w (ret (.tuple #[.agg #[.int .i64 0, .int .u64 0], .int .i64 1]) w) := by
  have HB0 : Hid (Below w.heap.size w (w.alloc (.cells #[.int .i64 0, .int .u64 0] 46))) := Lib.hid (below_alloc w _)
  have HR0 : Hid ((w.alloc (.cells #[.int .i64 0, .int .u64 0] 46)).heap[w.heap.size]? = some (.cells #[.int .i64 0, .int .u64 0] 46 (0, 0))) := Lib.hid (heap_alloc_new w _)
  have HMD := Lib.hid (HM _ HB0.out)
  obtain ⟨r, hr⟩ : ∃ r, r = w.heap.size := ⟨_, rfl⟩
  have HRW := Lib.hid hr
  rw [← hr] at HR0
  clear HM
  go_enter Try.func15, Try.ntmps15
  go_upto_region 1 with fail
  change Code.wp _ _ _ _ (w.alloc (.cells #[.int .i64 0, .int .u64 0] 46))
  rw [← hr]
  clear hr
  generalize w.alloc (.cells #[.int .i64 0, .int .u64 0] 46) = u0 at *
  go_wp2_with (first
    | (go_at_call 22
       refine HMD.out.mono ?_
       rintro e u3 ⟨rfl, hbb⟩
       have HB3 := Lib.hid (HB0.out.trans (hbb.mono HB0.out.size))
       have HR3 := Lib.hid (box_step HR0.out hbb)
       clear hbb)
    | (refine wpList_store_row rfl 46 (.tmp 6) (.tmp 13) rfl r #[.int .i64 0, .int .u64 0] rfl rfl 46 #[.int .i64 0, .int .u64 0] HR3.out (by kernel_rfl) rfl (by simp [Value.oneCell']) ?_))
  refine bodyPost_ret (v := .tuple #[.agg #[.int .i64 0, .int .u64 0], .int .i64 1]) (results_rowa Try.results15 _ _ r 46 #[.int .i64 0, .int .u64 0] (0, 0) _ rfl (setRow_heap _ r _ #[.int .i64 0, .int .u64 0] _ _ HR3.out) Try.underlying46 rfl (by kernel_rfl)) rfl ?_
  exact ⟨rfl, below_setRow HB3.out (by rw [HRW.out]; exact Nat.le_refl _) _⟩
theorem ndue (hi hk : Int) (HM : ∀ W, Below w.heap.size w W → Calls Try.prog 22 #[.pointer pa] W (ret (.bool false) W)) : Calls Try.prog 13 #[.pointer pa, .agg #[.int .i64 hi, .int .u64 hk]] w (ret (.tuple #[.int .u64 0, .bool false]) w) := by
  have HB0 : Hid (Below w.heap.size w (w.alloc (.cells #[.int .i64 hi, .int .u64 hk] 46))) := Lib.hid (below_alloc w _)
  have HMD : Hid (∀ V : Stay (w.alloc (.cells #[.int .i64 hi, .int .u64 hk] 46)), Calls Try.prog 22 #[.pointer pa] V.w fun e w' => e = .returned (.bool false) ∧ Below V.w.heap.size V.w w') := Lib.hid fun V => HM _ (HB0.out.trans (V.below.mono HB0.out.size))
  clear HM
  go_enter Try.func13, Try.ntmps13
  go_upto_region 1 with fail
  change Code.wp _ _ _ _ (w.alloc (.cells #[.int .i64 hi, .int .u64 hk] 46))
  generalize w.alloc (.cells #[.int .i64 hi, .int .u64 hk] 46) = u0 at *
  refine wp_region_stay (by kernel_rfl) (by kernel_rfl) ?_
  repeat (go_big_quiet_step (first | (go_at_call 22; with_reducible exact Calls.stay _ (HMD.out _))))
  refine wpQuiet_nil ?_
  intro w' hw'
  obtain ⟨V, rfl⟩ := hw'
  have HB3 := Lib.hid (HB0.out.trans (V.below.mono HB0.out.size))
  go_wp2_with fail
  go_ret2
  exact ⟨rfl, HB3.out⟩
end
end Go.Proofs.Ytkmakdhlaenaoaa
