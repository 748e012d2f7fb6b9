import Derived.Test.YthjghofjdcepmaaGm19
/- Stage 14: the document's Copy. -/
namespace Go.Proofs.Ythjghofjdcepmaa
set_option maxRecDepth 100000
open Go.RowKit Go.Shelf
section
variable {w w' : World} {q qn qx : Nat} {s : Gr} {G Gn Gx : Nat → Prop}
theorem rtcopy_c {t : Tb} {K : Nat → Prop} {p : Nat} (h : RTA w p t K) : Calls Try.prog 48 #[.pointer (some ⟨p, 0, none⟩)] w fun e w' => ∃ b B, e = .returned (.pointer (some ⟨b, 0, none⟩)) ∧ RTA w' b t B ∧ (∀ k, B k → K k ∨ (w.heap.size ≤ k ∧ k < w'.heap.size)) ∧ Below w.heap.size w w' := by
  obtain ⟨AF, cF, AM, cM, AE, cE, hX'⟩ := h
  refine (rtcopy_any hX').mono ?_
  rintro e w' ⟨b, B, he, ha, hs, hb⟩
  exact ⟨b, B, he, ha, fun k hk => (hs k hk).imp (·.1) id, hb⟩
set_option maxHeartbeats 4000000 in
theorem rgcopy_any (h : RG w q qn qx s G Gn Gx) (hs : s.Ok) : Calls Try.prog 17 #[.pointer (some ⟨q, 0, none⟩)] w fun e w' => ∃ c G', e = .returned (.pointer (some ⟨c, 0, none⟩)) ∧ RGA w' c s G' ∧ (∀ k, G' k → G k ∨ (w.heap.size ≤ k ∧ k < w'.heap.size)) ∧ Below w.heap.size w w' := by
  have HG := Lib.hid h
  cases hmv : s.mv with
  | true =>
    have HMV := Lib.hid hmv
    clear hmv
    have HQ : Hid (w.heap[q]? = some (.cells #[.pointer (some ⟨qn, 0, none⟩), .pointer (some ⟨qx, 0, none⟩), .bool true, .int .i64 (s.most : Int), .int .i64 (s.at_ : Int)] 63 (0, 0))) := Lib.hid (by
      have hq := HG.out.blk
      rw [HMV.out] at hq
      exact hq)
    obtain ⟨c, hc⟩ : ∃ c, c = w.heap.size := ⟨_, rfl⟩
    have HB1 : Hid (Below w.heap.size w ((w.alloc (.cells #[.pointer none, .pointer none, .bool false, .int .i64 0, .int .i64 0] 63)).setRow c #[.pointer (some ⟨qn, 0, none⟩), .pointer (some ⟨qx, 0, none⟩), .bool true, .int .i64 (s.most : Int), .int .i64 (s.at_ : Int)])) := Lib.hid (by rw [hc]; exact below_setRow (below_alloc w _) (Nat.le_refl _) _)
    have HC1 : Hid (((w.alloc (.cells #[.pointer none, .pointer none, .bool false, .int .i64 0, .int .i64 0] 63)).setRow c #[.pointer (some ⟨qn, 0, none⟩), .pointer (some ⟨qx, 0, none⟩), .bool true, .int .i64 (s.most : Int), .int .i64 (s.at_ : Int)]).heap[c]? = some (.cells #[.pointer (some ⟨qn, 0, none⟩), .pointer (some ⟨qx, 0, none⟩), .bool true, .int .i64 (s.most : Int), .int .i64 (s.at_ : Int)] 63 (0, 0))) := Lib.hid (by rw [hc]; exact setRow_heap _ _ _ _ _ _ (heap_alloc_new w _))
    have HS1 : Hid (((w.alloc (.cells #[.pointer none, .pointer none, .bool false, .int .i64 0, .int .i64 0] 63)).setRow c #[.pointer (some ⟨qn, 0, none⟩), .pointer (some ⟨qx, 0, none⟩), .bool true, .int .i64 (s.most : Int), .int .i64 (s.at_ : Int)]).heap.size = c + 1) := Lib.hid (by rw [hc]; simp)
    have HC := Lib.hid hc
    have HZ : Hid ((w.alloc (.cells #[.pointer none, .pointer none, .bool false, .int .i64 0, .int .i64 0] 63)).heap[w.heap.size]? = some (.cells #[.pointer none, .pointer none, .bool false, .int .i64 0, .int .i64 0] 63 (0, 0))) := Lib.hid (heap_alloc_new w _)
    clear h hs
    go_enter Try.func17, Try.ntmps17
    go_upto_region 2 with (first
      | (refine wpList_load_row rfl 63 (.tmp 5) rfl q rfl 63 #[.pointer (some ⟨qn, 0, none⟩), .pointer (some ⟨qx, 0, none⟩), .bool true, .int .i64 (s.most : Int), .int .i64 (s.at_ : Int)] (0, 0) _ HQ.out Try.underlying63 rfl (by kernel_rfl) ?_)
      | (refine wpList_store_row rfl 63 (.tmp 3) (.tmp 6) rfl w.heap.size #[.pointer (some ⟨qn, 0, none⟩), .pointer (some ⟨qx, 0, none⟩), .bool true, .int .i64 (s.most : Int), .int .i64 (s.at_ : Int)] rfl rfl 63 #[.pointer none, .pointer none, .bool false, .int .i64 0, .int .i64 0] HZ.out (by kernel_rfl) rfl (by simp [Value.oneCell']) ?_))
    clear HZ
    rw [← hc]
    clear hc
    generalize (w.alloc (.cells #[.pointer none, .pointer none, .bool false, .int .i64 0, .int .i64 0] 63)).setRow c #[.pointer (some ⟨qn, 0, none⟩), .pointer (some ⟨qx, 0, none⟩), .bool true, .int .i64 (s.most : Int), .int .i64 (s.at_ : Int)] = u1 at *
    have HG1 := Lib.hid (HG.out.step HB1.out)
    have HCN := Lib.hid (rtcopy_c HG1.out.now)
    have hq1 := HG1.out.blk
    rw [HMV.out] at hq1
    have x0 : u1.cell? ⟨q, 0, none⟩ = some (.pointer (some ⟨qn, 0, none⟩)) := blk_cell hq1 0
    clear hq1
    go_upto_region 3 with (first
      | (go_at_call 48
         refine HCN.out.mono ?_
         rintro e u2 ⟨bn, Bn, rfl, ha, hs, hb⟩
         have HA2 := Lib.hid ha
         have HN2 := Lib.hid hs
         have HB2 := Lib.hid hb
         have HC2 : Hid (u2.heap[c]? = some (.cells #[.pointer (some ⟨qn, 0, none⟩), .pointer (some ⟨qx, 0, none⟩), .bool true, .int .i64 (s.most : Int), .int .i64 (s.at_ : Int)] 63 (0, 0))) := Lib.hid ((hb.block c (lt_heap HC1.out)).trans HC1.out)
         have y0 : u2.cell? ⟨c, 0, none⟩ = some (.pointer (some ⟨qn, 0, none⟩)) := blk_cell HC2.out 0
         have f0 := blk_free HC2.out 0
         clear ha hs hb x0))
    have HC3 : Hid ((u2.setCell ⟨c, 0, none⟩ (.pointer (some ⟨bn, 0, none⟩))).heap[c]? = some (.cells #[.pointer (some ⟨bn, 0, none⟩), .pointer (some ⟨qx, 0, none⟩), .bool true, .int .i64 (s.most : Int), .int .i64 (s.at_ : Int)] 63 (0, 0))) := Lib.hid (blk_set HC2.out 0 _)
    have HK3 : Hid (Kept (fun k => k = c) u2 (u2.setCell ⟨c, 0, none⟩ (.pointer (some ⟨bn, 0, none⟩)))) := Lib.hid ((Kept.refl (fun k => k = c) u2).setCell (p := ⟨c, 0, none⟩) (.inl rfl) _)
    clear y0 f0
    generalize u2.setCell ⟨c, 0, none⟩ (.pointer (some ⟨bn, 0, none⟩)) = u3 at *
    have HB3 : Hid (Below w.heap.size w u3) := Lib.hid ((HB1.out.trans (HB2.out.mono HB1.out.size)).trans (HK3.out.below (HB1.out.trans (HB2.out.mono HB1.out.size)).size fun k e => by rw [e, HC.out]; exact Nat.le_refl _))
    have HG3 := Lib.hid (HG.out.step HB3.out)
    have hq3 := HG3.out.blk
    rw [HMV.out] at hq3
    have x2 : u3.cell? ⟨q, 2, none⟩ = some (.bool true) := blk_cell hq3 2
    have HNc : Hid (¬ Bn c) := Lib.hid fun h => by
      have e1 := HC.out
      have e2 := HS1.out
      rcases HN2.out c h with r | r
      · have := HG.out.old c (HG.out.subN c r)
        omega
      · omega
    have HA3 := Lib.hid (HA2.out.keep HK3.out fun k hk e => HNc.out (by rw [← e]; exact hk))
    have x1 : u3.cell? ⟨q, 1, none⟩ = some (.pointer (some ⟨qx, 0, none⟩)) := blk_cell hq3 1
    have HCX := Lib.hid (rtcopy_c (HG3.out.next HMV.out))
    clear hq3
    go_upto_region 5 with (first
      | (go_at_call 48
         refine HCX.out.mono ?_
         rintro e u4 ⟨bx, Bx, rfl, ha, hs, hb⟩
         have HX4 := Lib.hid ha
         have HX2 := Lib.hid hs
         have HB4 := Lib.hid hb
         have HC4 : Hid (u4.heap[c]? = some (.cells #[.pointer (some ⟨bn, 0, none⟩), .pointer (some ⟨qx, 0, none⟩), .bool true, .int .i64 (s.most : Int), .int .i64 (s.at_ : Int)] 63 (0, 0))) := Lib.hid ((hb.block c (lt_heap HC3.out)).trans HC3.out)
         have y1 : u4.cell? ⟨c, 1, none⟩ = some (.pointer (some ⟨qx, 0, none⟩)) := blk_cell HC4.out 1
         have f1 := blk_free HC4.out 1
         clear ha hs hb x1))
    have HC5 : Hid ((u4.setCell ⟨c, 1, none⟩ (.pointer (some ⟨bx, 0, none⟩))).heap[c]? = some (.cells #[.pointer (some ⟨bn, 0, none⟩), .pointer (some ⟨bx, 0, none⟩), .bool true, .int .i64 (s.most : Int), .int .i64 (s.at_ : Int)] 63 (0, 0))) := Lib.hid (blk_set HC4.out 1 _)
    have HK5 : Hid (Kept (fun k => k = c) u4 (u4.setCell ⟨c, 1, none⟩ (.pointer (some ⟨bx, 0, none⟩)))) := Lib.hid ((Kept.refl (fun k => k = c) u4).setCell (p := ⟨c, 1, none⟩) (.inl rfl) _)
    clear y1 f1
    generalize u4.setCell ⟨c, 1, none⟩ (.pointer (some ⟨bx, 0, none⟩)) = u5 at *
    go_wp2_with fail
    go_ret
    have h1 := HC.out
    have h2 := HS1.out
    have h3 := HB2.out.size
    have h4 := HK3.out.size
    have h5 := HB4.out.size
    have h6 := HK5.out.size
    have hb4 := HB3.out.trans (HB4.out.mono HB3.out.size)
    have hxc : ¬ Bx c := fun h => by
      rcases HX2.out c h with r | r
      · have := HG.out.old c (HG.out.subX HMV.out c r)
        omega
      · omega
    refine ⟨c, fun k => k = c ∨ Bn k ∨ Bx k, rfl, ⟨bn, bx, Bn, Bx, by rw [HMV.out]; exact HC5.out, (HA3.out.step HB4.out).keep HK5.out fun k hk e => HNc.out (by rw [← e]; exact hk), fun _ => HX4.out.keep HK5.out fun k hk e => hxc (by rw [← e]; exact hk), .inl rfl, fun k hk => .inr (.inl hk), fun _ k hk => .inr (.inr hk), HNc.out, fun _ => ⟨hxc, fun k hk hn => ?_⟩, fun k hk => ?_⟩, fun k hk => ?_, hb4.trans (HK5.out.below hb4.size fun k e => by rw [e, HC.out]; exact Nat.le_refl _)⟩
    · rcases HX2.out k hk with r | r
      · have := HG.out.old k (HG.out.subX HMV.out k r)
        rcases HN2.out k hn with r' | r'
        · exact (HG.out.apX HMV.out).2 k r r'
        · omega
      · rcases HN2.out k hn with r' | r'
        · have := HG.out.old k (HG.out.subN k r')
          omega
        · omega
    · rcases hk with rfl | hk | hk
      · omega
      · rcases HN2.out k hk with r | r
        · have := HG.out.old k (HG.out.subN k r)
          omega
        · omega
      · rcases HX2.out k hk with r | r
        · have := HG.out.old k (HG.out.subX HMV.out k r)
          omega
        · omega
    · rcases hk with rfl | hk | hk
      · exact .inr (by omega)
      · rcases HN2.out k hk with r | r
        · exact .inl (HG.out.subN k r)
        · exact .inr (by omega)
      · rcases HX2.out k hk with r | r
        · exact .inl (HG.out.subX HMV.out k r)
        · exact .inr (by omega)
  | false =>
    have HMV := Lib.hid hmv
    clear hmv
    have HQ : Hid (w.heap[q]? = some (.cells #[.pointer (some ⟨qn, 0, none⟩), .pointer none, .bool false, .int .i64 (s.most : Int), .int .i64 (s.at_ : Int)] 63 (0, 0))) := Lib.hid (by
      have hq := HG.out.blk
      rw [HMV.out] at hq
      exact hq)
    obtain ⟨c, hc⟩ : ∃ c, c = w.heap.size := ⟨_, rfl⟩
    have HB1 : Hid (Below w.heap.size w ((w.alloc (.cells #[.pointer none, .pointer none, .bool false, .int .i64 0, .int .i64 0] 63)).setRow c #[.pointer (some ⟨qn, 0, none⟩), .pointer none, .bool false, .int .i64 (s.most : Int), .int .i64 (s.at_ : Int)])) := Lib.hid (by rw [hc]; exact below_setRow (below_alloc w _) (Nat.le_refl _) _)
    have HC1 : Hid (((w.alloc (.cells #[.pointer none, .pointer none, .bool false, .int .i64 0, .int .i64 0] 63)).setRow c #[.pointer (some ⟨qn, 0, none⟩), .pointer none, .bool false, .int .i64 (s.most : Int), .int .i64 (s.at_ : Int)]).heap[c]? = some (.cells #[.pointer (some ⟨qn, 0, none⟩), .pointer none, .bool false, .int .i64 (s.most : Int), .int .i64 (s.at_ : Int)] 63 (0, 0))) := Lib.hid (by rw [hc]; exact setRow_heap _ _ _ _ _ _ (heap_alloc_new w _))
    have HS1 : Hid (((w.alloc (.cells #[.pointer none, .pointer none, .bool false, .int .i64 0, .int .i64 0] 63)).setRow c #[.pointer (some ⟨qn, 0, none⟩), .pointer none, .bool false, .int .i64 (s.most : Int), .int .i64 (s.at_ : Int)]).heap.size = c + 1) := Lib.hid (by rw [hc]; simp)
    have HC := Lib.hid hc
    have HZ : Hid ((w.alloc (.cells #[.pointer none, .pointer none, .bool false, .int .i64 0, .int .i64 0] 63)).heap[w.heap.size]? = some (.cells #[.pointer none, .pointer none, .bool false, .int .i64 0, .int .i64 0] 63 (0, 0))) := Lib.hid (heap_alloc_new w _)
    clear h hs
    go_enter Try.func17, Try.ntmps17
    go_upto_region 2 with (first
      | (refine wpList_load_row rfl 63 (.tmp 5) rfl q rfl 63 #[.pointer (some ⟨qn, 0, none⟩), .pointer none, .bool false, .int .i64 (s.most : Int), .int .i64 (s.at_ : Int)] (0, 0) _ HQ.out Try.underlying63 rfl (by kernel_rfl) ?_)
      | (refine wpList_store_row rfl 63 (.tmp 3) (.tmp 6) rfl w.heap.size #[.pointer (some ⟨qn, 0, none⟩), .pointer none, .bool false, .int .i64 (s.most : Int), .int .i64 (s.at_ : Int)] rfl rfl 63 #[.pointer none, .pointer none, .bool false, .int .i64 0, .int .i64 0] HZ.out (by kernel_rfl) rfl (by simp [Value.oneCell']) ?_))
    clear HZ
    rw [← hc]
    clear hc
    generalize (w.alloc (.cells #[.pointer none, .pointer none, .bool false, .int .i64 0, .int .i64 0] 63)).setRow c #[.pointer (some ⟨qn, 0, none⟩), .pointer none, .bool false, .int .i64 (s.most : Int), .int .i64 (s.at_ : Int)] = u1 at *
    have HG1 := Lib.hid (HG.out.step HB1.out)
    have HCN := Lib.hid (rtcopy_c HG1.out.now)
    have hq1 := HG1.out.blk
    rw [HMV.out] at hq1
    have x0 : u1.cell? ⟨q, 0, none⟩ = some (.pointer (some ⟨qn, 0, none⟩)) := blk_cell hq1 0
    clear hq1
    go_upto_region 3 with (first
      | (go_at_call 48
         refine HCN.out.mono ?_
         rintro e u2 ⟨bn, Bn, rfl, ha, hs, hb⟩
         have HA2 := Lib.hid ha
         have HN2 := Lib.hid hs
         have HB2 := Lib.hid hb
         have HC2 : Hid (u2.heap[c]? = some (.cells #[.pointer (some ⟨qn, 0, none⟩), .pointer none, .bool false, .int .i64 (s.most : Int), .int .i64 (s.at_ : Int)] 63 (0, 0))) := Lib.hid ((hb.block c (lt_heap HC1.out)).trans HC1.out)
         have y0 : u2.cell? ⟨c, 0, none⟩ = some (.pointer (some ⟨qn, 0, none⟩)) := blk_cell HC2.out 0
         have f0 := blk_free HC2.out 0
         clear ha hs hb x0))
    have HC3 : Hid ((u2.setCell ⟨c, 0, none⟩ (.pointer (some ⟨bn, 0, none⟩))).heap[c]? = some (.cells #[.pointer (some ⟨bn, 0, none⟩), .pointer none, .bool false, .int .i64 (s.most : Int), .int .i64 (s.at_ : Int)] 63 (0, 0))) := Lib.hid (blk_set HC2.out 0 _)
    have HK3 : Hid (Kept (fun k => k = c) u2 (u2.setCell ⟨c, 0, none⟩ (.pointer (some ⟨bn, 0, none⟩)))) := Lib.hid ((Kept.refl (fun k => k = c) u2).setCell (p := ⟨c, 0, none⟩) (.inl rfl) _)
    clear y0 f0
    generalize u2.setCell ⟨c, 0, none⟩ (.pointer (some ⟨bn, 0, none⟩)) = u3 at *
    have HB3 : Hid (Below w.heap.size w u3) := Lib.hid ((HB1.out.trans (HB2.out.mono HB1.out.size)).trans (HK3.out.below (HB1.out.trans (HB2.out.mono HB1.out.size)).size fun k e => by rw [e, HC.out]; exact Nat.le_refl _))
    have HG3 := Lib.hid (HG.out.step HB3.out)
    have hq3 := HG3.out.blk
    rw [HMV.out] at hq3
    have x2 : u3.cell? ⟨q, 2, none⟩ = some (.bool false) := blk_cell hq3 2
    have HNc : Hid (¬ Bn c) := Lib.hid fun h => by
      have e1 := HC.out
      have e2 := HS1.out
      rcases HN2.out c h with r | r
      · have := HG.out.old c (HG.out.subN c r)
        omega
      · omega
    have HA3 := Lib.hid (HA2.out.keep HK3.out fun k hk e => HNc.out (by rw [← e]; exact hk))
    clear hq3
    go_wp2_with fail
    go_ret
    have h1 := HC.out
    have h2 := HS1.out
    have h3 := HB2.out.size
    have h4 := HK3.out.size
    refine ⟨c, fun k => k = c ∨ Bn k, rfl, ⟨bn, qx, Bn, fun _ => False, by rw [HMV.out]; exact HC3.out, HA3.out, fun e => absurd e (by rw [HMV.out]; exact Bool.false_ne_true), .inl rfl, fun k hk => .inr hk, fun e => absurd e (by rw [HMV.out]; exact Bool.false_ne_true), HNc.out, fun e => absurd e (by rw [HMV.out]; exact Bool.false_ne_true), fun k hk => ?_⟩, fun k hk => ?_, HB3.out⟩
    · rcases hk with rfl | hk
      · omega
      · rcases HN2.out k hk with r | r
        · have := HG.out.old k (HG.out.subN k r)
          omega
        · omega
    · rcases hk with rfl | hk
      · exact .inr (by omega)
      · rcases HN2.out k hk with r | r
        · exact .inl (HG.out.subN k r)
        · exact .inr (by omega)
end
end Go.Proofs.Ythjghofjdcepmaa
