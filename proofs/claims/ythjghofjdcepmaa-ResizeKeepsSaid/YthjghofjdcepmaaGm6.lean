import Derived.Test.YthjghofjdcepmaaGm5
/- Stage 13: the document's Put. -/
namespace Go.Proofs.Ythjghofjdcepmaa
set_option maxRecDepth 100000
open Go.RowKit Go.Shelf
section
variable {w w' : World} {q : Nat} {AF AM AE : Option Addr} {cF cM cE : Nat} {s : Tb} {G : Nat → Prop}
set_option maxHeartbeats 4000000 in
theorem rputX_any (h : RT w q AF cF AM cM AE cE s G) (hs : s.Ok) (H X : Nat) (hH : H < 18446744073709551616) (_hX : X < 4294967296) : Calls Try.prog 38 #[.pointer (some ⟨q, 0, none⟩), .agg #[.int .u64 (H : Int), .int .u32 (X : Int)]] w fun e w' =>
    (s.free H = none ∧ e = .returned (.tuple #[.int .i64 0, .int .i64 9]) ∧ Below w.heap.size w w') ∨
    (∃ i, s.free H = some i ∧ e = .returned (.tuple #[.int .i64 (s.st H i : Int), .int .i64 0]) ∧ RTA w' q (s.put (s.st H i) H X) (fun j => j = q ∨ w.heap.size ≤ j ∧ j < w'.heap.size) ∧ Kept (fun j => j = q) w w') := by
  have HS := Lib.hid hs
  have HX0 := Lib.hid h
  have HM0 : Hid ((w.alloc (.cells #[.int .u64 (H : Int), .int .u32 (X : Int)] 34)).heap[w.heap.size]? = some (.cells #[.int .u64 (H : Int), .int .u32 (X : Int)] 34 (0, 0))) := Lib.hid (heap_alloc_new w _)
  have HB0 : Hid (Below w.heap.size w (w.alloc (.cells #[.int .u64 (H : Int), .int .u32 (X : Int)] 34))) := Lib.hid (below_alloc w _)
  have HX1 := Lib.hid (h.step HB0.out)
  have HQW : Hid (q < w.heap.size) := Lib.hid (lt_heap h.blk)
  have HZ0 : Hid (w.heap.size ≤ (w.alloc (.cells #[.int .u64 (H : Int), .int .u32 (X : Int)] 34)).heap.size) := Lib.hid (alloc_le w _)
  obtain ⟨r, hr⟩ : ∃ r, r = w.heap.size := ⟨_, rfl⟩
  have HRW := Lib.hid hr
  rw [← hr] at HM0
  clear h hs
  go_enter Try.func38, Try.ntmps38
  go_upto_region 1 with fail
  change Code.wp _ _ _ _ (w.alloc (.cells #[.int .u64 (H : Int), .int .u32 (X : Int)] 34))
  rw [← hr]
  clear hr
  generalize w.alloc (.cells #[.int .u64 (H : Int), .int .u32 (X : Int)] 34) = u0 at *
  have HQ0 := Lib.hid (lt_heap HX1.out.blk)
  obtain ⟨n, hn⟩ : ∃ n, n = s.n := ⟨_, rfl⟩
  have HN := Lib.hid hn
  have htop := HS.out.top
  have hpos := HS.out.pos
  rw [← hn] at htop hpos
  clear hn
  go_wp2_with fail
  go_loopw [6] (fun vi wr => ∃ i : Nat, i ≤ n ∧ vi = .int .i64 (i : Int) ∧ (∀ j, j < i → s.ful (s.st H j) = true) ∧ Below u0.heap.size u0 wr) (fun vi _ => n - (intOf vi).toNat)
  case atStart => exact ⟨0, Nat.zero_le _, rfl, fun j hj => absurd hj (Nat.not_lt_zero _), Below.refl _ _⟩
  case round =>
    obtain ⟨i, hi, rfl, hful, hb⟩ := hrel
    have HFU := Lib.hid hful
    have HB := Lib.hid hb
    have HXr := Lib.hid (HX1.out.step hb)
    have HMr : Hid (wr.heap[r]? = some (.cells #[.int .u64 (H : Int), .int .u32 (X : Int)] 34 (0, 0))) := Lib.hid ((hb.block r (lt_heap HM0.out)).trans HM0.out)
    clear hful hb
    have x2 : wr.cell? ⟨q, 2, none⟩ = some (.slice AE n cE) := by rw [HN.out]; exact blk_cell HXr.out.blk 2
    by_cases hin : i < n
    · have i1 : (i : Int) < (n : Int) := by omega
      have zi : IntKind.i64.wrap ((i : Int) + 1) = (i : Int) + 1 := by rw [IntKind.wrap_i64]; omega
      have hm := Nat.mod_lt H (show 0 < s.n from HS.out.pos)
      rw [← HN.out] at hm
      have HFM : Hid (∀ W, Below wr.heap.size wr W → Calls Try.prog 64 #[.pointer (some ⟨q, 0, none⟩), .int .u64 (H : Int)] W (ret (.int .i64 ((H % n : Nat) : Int)) W)) := Lib.hid fun W hW => by
        rw [HN.out]
        exact rfrom_any (HXr.out.step hW) HS.out H hH
      have HST : Hid (s.st H i = (H % n + i) % n) := Lib.hid (by rw [HN.out]; rfl)
      have hst : s.st H i < n := by rw [HN.out]; exact Tb.st_lt HS.out H i
      obtain ⟨y, hy⟩ : ∃ y, y = H % n := ⟨_, rfl⟩
      rw [← hy] at HFM HST hm
      clear hy
      have z1 : IntKind.i64.wrap ((y : Int) + (i : Int)) = (y : Int) + (i : Int) := by rw [IntKind.wrap_i64]; omega
      have z0 : ¬ (n : Int) = 0 := by omega
      obtain ⟨t, ht⟩ : ∃ t, t = s.st H i := ⟨_, rfl⟩
      have HT := Lib.hid ht
      rw [← ht] at HST hst
      have z2 : ((y : Int) + (i : Int)) % (n : Int) = (t : Int) := by rw [HST.out, Int.natCast_emod]; rfl
      have t0 : (0 : Int) ≤ (t : Int) := by omega
      have t1 : (t : Int) < (n : Int) := by omega
      have t2 : ((t : Int)).toNat = t := by omega
      have X2 : Hid (∀ W : Stay wr, W.w.cell? ⟨q, 2, none⟩ = some (.slice AE n cE)) := Lib.hid fun W => Stay.cell x2 W
      have R0 : Hid (∀ W : Stay wr, W.w.cell? ⟨r, 0, none⟩ = some (.int .u64 (H : Int))) := Lib.hid fun W => Stay.cell (blk_cell HMr.out 0) W
      have z3 : IntKind.i64.wrap (t : Int) = (t : Int) := by rw [IntKind.wrap_i64]; omega
      clear ht
      go_upto_region 4 with fail
      clear x2
      have y2 := X2.out
      have y0 := R0.out
      refine wp_region_stay (by kernel_rfl) (by kernel_rfl) ?_
      repeat (go_big_quiet_step (first | (go_at_call 64; with_reducible exact Calls.stay _ (HFM.out _ (Stay.below _)))))
      refine wpQuiet_nil ?_
      intro w' hw'
      obtain ⟨W, rfl⟩ := hw'
      have HB2 := Lib.hid (HB.out.trans (W.below.mono HB.out.size))
      have HX2 := Lib.hid (HXr.out.step W.below)
      have HM2 : Hid (W.w.heap[r]? = some (.cells #[.int .u64 (H : Int), .int .u32 (X : Int)] 34 (0, 0))) := Lib.hid ((W.below.block r (lt_heap HMr.out)).trans HMr.out)
      clear y2 y0 X2 R0 HFM HXr HMr HB
      generalize W.w = u1 at *
      obtain ⟨bF, oF, rfl, _, hFl, hFc⟩ := rdg_pos HX2.out.fF HS.out.pos
      have x0 : u1.cell? ⟨q, 0, none⟩ = some (.slice (some ⟨bF, oF, none⟩) n cF) := by rw [HN.out]; exact blk_cell HX2.out.blk 0
      have hc1 : n ≤ cF := by rw [HN.out]; exact HX2.out.capF.1
      have hc9 := HX2.out.capF.2
      have hFt := hFc t (by rw [← HN.out]; exact hst)
      clear hFc hFl
      cases hft : s.ful t with
      | true =>
        have xf : u1.cell? ⟨bF, oF + t, none⟩ = some (.bool true) := by rw [hFt, flg, hft]
        have HFT := Lib.hid hft
        clear hFt hft
        go_wp2_with fail
        go_roundw
        case rel =>
          refine ⟨i + 1, by omega, by go_num, fun j hj => ?_, HB2.out⟩
          rcases (show j < i ∨ j = i by omega) with e | rfl
          · exact HFU.out j e
          · rw [← HT.out]
            exact HFT.out
        case measure => simp [intOf]; omega
      | false =>
        have xf : u1.cell? ⟨bF, oF + t, none⟩ = some (.bool false) := by rw [hFt, flg, hft]
        have HFR : Hid (s.free H = some i) := Lib.hid (fstI_some.2 ⟨by rw [← HN.out]; exact hin, by rw [← HT.out, hft]; rfl, fun j hj => by rw [HFU.out j hj]; rfl⟩)
        clear hFt hft
        have HOW := Lib.hid (rown_any HX2.out HS.out)
        obtain ⟨v0, hv0⟩ : ∃ v, v = u1.heap.size := ⟨_, rfl⟩
        have HV0 := Lib.hid hv0
        rw [← hv0] at HOW
        go_upto_region 7 with (first
          | (go_at_call 65
             refine HOW.out.mono ?_
             rintro e w2 ⟨rfl, gF, cF', gM, cM', gE, cE', ho, hk1⟩
             have HO1 := Lib.hid ho
             have HK1 : Hid (Kept (fun j => j = q) w w2) := Lib.hid (((Kept.of_below HB0.out _).step HB2.out).trans hk1 fun _ _ e => e)
             have HM3 : Hid (w2.heap[r]? = some (.cells #[.int .u64 (H : Int), .int .u32 (X : Int)] 34 (0, 0))) := Lib.hid ((hk1.block r (lt_heap HM2.out) (fun e => by have := HQW.out; have := HRW.out; omega)).trans HM2.out)
             clear ho hk1))
        have HR3 : Hid (w.heap.size ≤ v0 ∧ r < v0) := Lib.hid (by
          have e1 := HB2.out.size
          have e2 := HZ0.out
          have e3 := lt_heap HM2.out
          rw [HV0.out]
          exact ⟨by omega, e3⟩)
        clear xf x0 hc1 hc9 HM2 HX2 HOW HB2 hv0 HFU
        rw [← HN.out] at HO1
        have hk : t < n := hst
        have HKA : Hid (Kept (fun j => v0 ≤ j) w2 w2) := Lib.hid (Kept.refl _ _)
        have xF : w2.cell? ⟨q, 0, none⟩ = some (.slice (some ⟨gF, 0, none⟩) n cF') := blk_cell HO1.out.blk 0
        have xFc := (HO1.out.atF (p := t) hk).1
        have xFf := (HO1.out.atF (p := t) hk).2
        obtain ⟨hcF1, hcF9⟩ := HO1.out.caps.1
        have HO2 := Lib.hid (HO1.out.setF t (.bool true))
        have HKB := Lib.hid (HKA.out.setCell (p := ⟨gF, t, none⟩) (.inl HO1.out.low.1) (.bool true))
        go_upto_region 8 with fail
        clear xF xFc xFf hcF1 hcF9 HKA
        generalize w2.setCell ⟨gF, t, none⟩ (.bool true) = u2 at *
        have xM : u2.cell? ⟨q, 1, none⟩ = some (.slice (some ⟨gM, 0, none⟩) n cM') := blk_cell HO2.out.blk 1
        have xMc := (HO2.out.atM (p := t) hk).1
        have xMf := (HO2.out.atM (p := t) hk).2
        obtain ⟨hcM1, hcM9⟩ := HO2.out.caps.2.1
        have HO3 := Lib.hid (HO2.out.setM t (.bool false))
        have HKC := Lib.hid (HKB.out.setCell (p := ⟨gM, t, none⟩) (.inl HO2.out.low.2.1) (.bool false))
        go_upto_region 9 with fail
        clear xM xMc xMf hcM1 hcM9 HO2 HKB
        generalize u2.setCell ⟨gM, t, none⟩ (.bool false) = u3 at *
        have HM5 : Hid (u3.heap[r]? = some (.cells #[.int .u64 (H : Int), .int .u32 (X : Int)] 34 (0, 0))) := Lib.hid ((HKC.out.block r (lt_heap HM3.out) (by have := HR3.out; omega)).trans HM3.out)
        have xE : u3.cell? ⟨q, 2, none⟩ = some (.slice (some ⟨gE, 0, none⟩) n cE') := blk_cell HO3.out.blk 2
        have r0 : u3.cell? ⟨r, 0, none⟩ = some (.int .u64 (H : Int)) := blk_cell HM5.out 0
        have r1 : u3.cell? ⟨r, 1, none⟩ = some (.int .u32 (X : Int)) := blk_cell HM5.out 1
        obtain ⟨hcE1, hcE9⟩ := HO3.out.caps.2.2
        go_still_tail 7, (by kernel_rfl)
        repeat still_step
        try refine wpStill_nil ?_
        change wpList _ _ _ _ _ u3.drew
        have HO4 : Hid (RTO u3.drew v0 q n gF cF' gM cM' gE cE' _ _ _) := Lib.hid HO3.out.drew
        have HKD := Lib.hid HKC.out.drew
        clear xE r0 r1 hcE1 hcE9 HO3 HKC HM5
        generalize u3.drew = u4 at *
        have xE0 := (HO4.out.atE (p := t * 2) (by omega)).1
        have xE1 := (HO4.out.atE (p := t * 2 + 1) (by omega)).1
        have xEf := (HO4.out.atE (p := t * 2) (by omega)).2
        have xEg := (HO4.out.atE (p := t * 2 + 1) (by omega)).2
        have HO5 := Lib.hid (HO4.out.setE (t * 2) (.int .u64 (H : Int)) (.int .u32 (X : Int)))
        have HK5 : Hid (Kept (fun j => j = q) w (u4.setCells gE (t * 2) [.int .u64 (H : Int), .int .u32 (X : Int)])) := Lib.hid (HK1.out.trans (HKD.out.setCells (g := gE) (.inl HO4.out.low.2.2) [.int .u64 (H : Int), .int .u32 (X : Int)] (t * 2)) fun j hj h => by have := HR3.out; omega)
        go_wp2_with fail
        go_ret2
        refine .inr ⟨i, HFR.out, by rw [← HT.out]; rfl, ?_, HK5.out⟩
        have ho5 := HO5.out
        rw [HN.out] at ho5
        rw [← HT.out]
        obtain ⟨e1, e2⟩ := HR3.out
        refine ⟨_, _, _, _, _, _, RT.mono (RTO.rt (s := s.put t H X) ho5 (fun j _ => flg_set _ _ _ _) (fun j _ => flg_set _ _ _ _) (fun j _ => ecell_set _ _ _ _ _ _)) (fun j hj => ?_) (fun j hj => ?_)⟩
        · rcases hj with h | h
          · exact .inl h
          · exact .inr ⟨by omega, h.2⟩
        · rcases hj with rfl | h
          · exact lt_heap ho5.blk
          · exact h.2
    · obtain rfl : i = n := by omega
      have i1 : ¬ (i : Int) < (i : Int) := by omega
      go_wp2_with fail
      go_ret2
      refine .inl ⟨?_, rfl, HB0.out.trans (HB.out.mono HZ0.out)⟩
      exact fstI_none.2 fun j hj => by rw [HFU.out j (by rw [HN.out]; exact hj)]; rfl
end
end Go.Proofs.Ythjghofjdcepmaa
