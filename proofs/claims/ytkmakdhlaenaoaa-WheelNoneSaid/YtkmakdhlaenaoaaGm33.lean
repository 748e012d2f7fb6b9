import Derived.Test.YtkmakdhlaenaoaaGm32
/- Stage 11: WheelNone. -/
namespace Go.Proofs.Ytkmakdhlaenaoaa
set_option maxRecDepth 100000
open Go.RowKit Go.Shelf
set_option maxHeartbeats 1000000 in
theorem none_any (w : World) (hi hk at_ : Int) : Calls Try.prog 5 #[.agg #[.int .i64 hi, .int .u64 hk], .int .u64 at_] w (ret (.bool true) w) := by
  have e1 : (w.alloc (.cells #[.int .i64 hi, .int .u64 hk] 46)).heap.size = w.heap.size + 1 := by simp
  have e2 : ((w.alloc (.cells #[.int .i64 hi, .int .u64 hk] 46)).alloc (.cells #[.pointer none, .pointer none, .slice none 0 0, .int .u64 0, .int .u64 0] 64)).heap.size = w.heap.size + 2 := by simp
  have HHB0 : Hid ((((w.alloc (.cells #[.int .i64 hi, .int .u64 hk] 46)).alloc (.cells #[.pointer none, .pointer none, .slice none 0 0, .int .u64 0, .int .u64 0] 64)).alloc (.cells #[.pointer none, .pointer (some ⟨w.heap.size + 1, 0, none⟩)] 25)).heap[w.heap.size]? = some (.cells #[.int .i64 hi, .int .u64 hk] 46 (0, 0))) := Lib.hid (blk_old (blk_old (heap_alloc_new w _) _) _)
  have HZB0 : Hid ((((w.alloc (.cells #[.int .i64 hi, .int .u64 hk] 46)).alloc (.cells #[.pointer none, .pointer none, .slice none 0 0, .int .u64 0, .int .u64 0] 64)).alloc (.cells #[.pointer none, .pointer (some ⟨w.heap.size + 1, 0, none⟩)] 25)).heap[w.heap.size + 1]? = some (.cells #[.pointer none, .pointer none, .slice none 0 0, .int .u64 0, .int .u64 0] 64 (0, 0))) := Lib.hid (by
    have h := heap_alloc_new (w.alloc (.cells #[.int .i64 hi, .int .u64 hk] 46)) (.cells #[.pointer none, .pointer none, .slice none 0 0, .int .u64 0, .int .u64 0] 64)
    rw [e1] at h
    exact blk_old h _)
  have HSB0 : Hid ((((w.alloc (.cells #[.int .i64 hi, .int .u64 hk] 46)).alloc (.cells #[.pointer none, .pointer none, .slice none 0 0, .int .u64 0, .int .u64 0] 64)).alloc (.cells #[.pointer none, .pointer (some ⟨w.heap.size + 1, 0, none⟩)] 25)).heap[w.heap.size + 2]? = some (.cells #[.pointer none, .pointer (some ⟨w.heap.size + 1, 0, none⟩)] 25 (0, 0))) := Lib.hid (by
    have h := heap_alloc_new ((w.alloc (.cells #[.int .i64 hi, .int .u64 hk] 46)).alloc (.cells #[.pointer none, .pointer none, .slice none 0 0, .int .u64 0, .int .u64 0] 64)) (.cells #[.pointer none, .pointer (some ⟨w.heap.size + 1, 0, none⟩)] 25)
    rw [e2] at h
    exact h)
  have HB0 : Hid (Below w.heap.size w (((w.alloc (.cells #[.int .i64 hi, .int .u64 hk] 46)).alloc (.cells #[.pointer none, .pointer none, .slice none 0 0, .int .u64 0, .int .u64 0] 64)).alloc (.cells #[.pointer none, .pointer (some ⟨w.heap.size + 1, 0, none⟩)] 25))) := Lib.hid (((below_alloc w _).alloc (by simp) _).alloc (by simp; omega) _)
  clear e1 e2
  have HKN := Lib.hid known_any
  go_enter Try.func5, Try.ntmps5
  go_wp2_with fail
  go_loopw [16] (fun vj wr => ∃ j : Nat, vj = .int .i64 (j : Int) ∧ j ≤ 2 ∧ Below w.heap.size w wr ∧ wr.heap[w.heap.size]? = some (.cells #[.int .i64 hi, .int .u64 hk] 46 (0, 0)) ∧ wr.heap[w.heap.size + 1]? = some (.cells #[.pointer none, .pointer none, .slice none 0 0, .int .u64 0, .int .u64 0] 64 (0, 0)) ∧ wr.heap[w.heap.size + 2]? = some (.cells #[.pointer none, .pointer (some ⟨w.heap.size + 1, 0, none⟩)] 25 (0, 0))) (fun vj _ => 2 - (intOf vj).toNat)
  case atStart => exact ⟨0, rfl, by omega, HB0.out, HHB0.out, HZB0.out, HSB0.out⟩
  case round =>
    obtain ⟨j, rfl, hj, hb, hh, hz, hs⟩ := hrel
    have HB := Lib.hid hb
    have HHB := Lib.hid hh
    have HZB := Lib.hid hz
    have HSB := Lib.hid hs
    clear hb hh hz hs HB0 HHB0 HZB0 HSB0
    have s0 : wr.cell? ⟨w.heap.size + 2, 0, none⟩ = some (.pointer none) := blk_cell HSB.out 0
    have s1 : wr.cell? ⟨w.heap.size + 2, 1, none⟩ = some (.pointer (some ⟨w.heap.size + 1, 0, none⟩)) := blk_cell HSB.out 1
    rcases (show j = 0 ∨ j = 1 ∨ j = 2 by omega) with rfl | rfl | rfl
    · clear s1
      have B0 : Hid (Below wr.heap.size wr wr) := Lib.hid (Below.refl _ _)
      have HMD : Hid (∀ W, Below wr.heap.size wr W → Calls Try.prog 22 #[.pointer none] W (ret (.bool false) W)) := Lib.hid fun W hW => pmade_0 W
      go_upto_region 6 with (first
        | (go_at_call 15
           refine (narm (pa := none) at_ 1 (fun V hV => HMD.out V (B0.out.trans (hV.mono B0.out.size)))).mono ?_
           rintro e v1 ⟨rfl, hbb⟩
           have B1 := Lib.hid (B0.out.trans (hbb.mono B0.out.size))
           clear hbb))
      have B2 := Lib.hid (B1.out.alloc B1.out.size (.cells #[.int .i64 0, .int .u64 0] 46))
      change Code.wp _ _ _ _ (v1.alloc (.cells #[.int .i64 0, .int .u64 0] 46))
      generalize v1.alloc (.cells #[.int .i64 0, .int .u64 0] 46) = v2 at *
      go_wp2_with (first
        | (go_at_call 16
           refine (ntick (pa := none) (HMD.out _ B2.out)).mono ?_
           rintro e v3 ⟨rfl, hbb⟩
           have B3 := Lib.hid (B2.out.trans (hbb.mono B2.out.size))
           clear hbb)
        | (go_at_call 13
           refine (ndue (pa := none) hi hk (fun V hV => HMD.out V (B3.out.trans (hV.mono B3.out.size)))).mono ?_
           rintro e v4 ⟨rfl, hbb⟩
           have B4 := Lib.hid (B3.out.trans (hbb.mono B3.out.size))
           clear hbb)
        | (go_at_call 17
           refine (nagain (pa := none) hi hk at_ (fun V hV => HMD.out V (B4.out.trans (hV.mono B4.out.size)))).mono ?_
           rintro e v5 ⟨rfl, hbb⟩
           have B5 := Lib.hid (B4.out.trans (hbb.mono B4.out.size))
           clear hbb)
        | (go_at_call 18
           refine (ncancel (pa := none) hi hk (fun V hV => HMD.out V (B5.out.trans (hV.mono B5.out.size)))).mono ?_
           rintro e v6 ⟨rfl, hbb⟩
           have B6 := Lib.hid (B5.out.trans (hbb.mono B5.out.size))
           clear hbb)
        | (go_at_call 8
           refine (nskip (pa := none) at_ (HMD.out _ B6.out)).mono ?_
           rintro e v7 ⟨rfl, hbb⟩
           have B7 := Lib.hid (B6.out.trans (hbb.mono B6.out.size))
           clear hbb)
        | (go_at_call 11
           refine (pnow_0 _).mono ?_
           rintro e v8 ⟨rfl, hbb⟩
           have B8 := Lib.hid (B7.out.trans (hbb.mono B7.out.size))
           clear hbb)
        | (go_at_call 12
           refine (pwlen_0 _).mono ?_
           rintro e v9 ⟨rfl, hbb⟩
           have B9 := Lib.hid (B8.out.trans (hbb.mono B8.out.size))
           clear hbb)
        | (go_at_call 19
           refine (ncopy (pa := none) (HMD.out _ B9.out)).mono ?_
           rintro e v10 ⟨rfl, hbb⟩
           have B10 := Lib.hid (B9.out.trans (hbb.mono B9.out.size))
           clear hbb)
        | (refine wpList_load_roww rfl 46 (.tmp 2) rfl w.heap.size rfl 46 #[.int .i64 hi, .int .u64 hk] (0, 0) _ (box_step HHB.out B5.out) Try.underlying46 rfl (by kernel_rfl) ?_)
        | (refine wpList_load_roww rfl 46 (.tmp 2) rfl w.heap.size rfl 46 #[.int .i64 hi, .int .u64 hk] (0, 0) _ (box_step HHB.out B4.out) Try.underlying46 rfl (by kernel_rfl) ?_)
        | (refine wpList_load_roww rfl 46 (.tmp 2) rfl w.heap.size rfl 46 #[.int .i64 hi, .int .u64 hk] (0, 0) _ (box_step HHB.out B3.out) Try.underlying46 rfl (by kernel_rfl) ?_))
      go_roundw
      case rel => exact ⟨1, by go_num, by omega, HB.out.trans (B10.out.mono HB.out.size), box_step HHB.out B10.out, box_step HZB.out B10.out, box_step HSB.out B10.out⟩
      case measure => simp [intOf]
    · clear s0
      have B0 : Hid (Below wr.heap.size wr wr) := Lib.hid (Below.refl _ _)
      have HMD : Hid (∀ W, Below wr.heap.size wr W → Calls Try.prog 22 #[.pointer (some ⟨w.heap.size + 1, 0, none⟩)] W (ret (.bool false) W)) := Lib.hid fun W hW => pmade_z W (w.heap.size + 1) (blk_cell (box_step HZB.out hW) 0)
      go_upto_region 6 with (first
        | (go_at_call 15
           refine (narm (pa := (some ⟨w.heap.size + 1, 0, none⟩)) at_ 1 (fun V hV => HMD.out V (B0.out.trans (hV.mono B0.out.size)))).mono ?_
           rintro e v1 ⟨rfl, hbb⟩
           have B1 := Lib.hid (B0.out.trans (hbb.mono B0.out.size))
           clear hbb))
      have B2 := Lib.hid (B1.out.alloc B1.out.size (.cells #[.int .i64 0, .int .u64 0] 46))
      change Code.wp _ _ _ _ (v1.alloc (.cells #[.int .i64 0, .int .u64 0] 46))
      generalize v1.alloc (.cells #[.int .i64 0, .int .u64 0] 46) = v2 at *
      go_wp2_with (first
        | (go_at_call 16
           refine (ntick (pa := (some ⟨w.heap.size + 1, 0, none⟩)) (HMD.out _ B2.out)).mono ?_
           rintro e v3 ⟨rfl, hbb⟩
           have B3 := Lib.hid (B2.out.trans (hbb.mono B2.out.size))
           clear hbb)
        | (go_at_call 13
           refine (ndue (pa := (some ⟨w.heap.size + 1, 0, none⟩)) hi hk (fun V hV => HMD.out V (B3.out.trans (hV.mono B3.out.size)))).mono ?_
           rintro e v4 ⟨rfl, hbb⟩
           have B4 := Lib.hid (B3.out.trans (hbb.mono B3.out.size))
           clear hbb)
        | (go_at_call 17
           refine (nagain (pa := (some ⟨w.heap.size + 1, 0, none⟩)) hi hk at_ (fun V hV => HMD.out V (B4.out.trans (hV.mono B4.out.size)))).mono ?_
           rintro e v5 ⟨rfl, hbb⟩
           have B5 := Lib.hid (B4.out.trans (hbb.mono B4.out.size))
           clear hbb)
        | (go_at_call 18
           refine (ncancel (pa := (some ⟨w.heap.size + 1, 0, none⟩)) hi hk (fun V hV => HMD.out V (B5.out.trans (hV.mono B5.out.size)))).mono ?_
           rintro e v6 ⟨rfl, hbb⟩
           have B6 := Lib.hid (B5.out.trans (hbb.mono B5.out.size))
           clear hbb)
        | (go_at_call 8
           refine (nskip (pa := (some ⟨w.heap.size + 1, 0, none⟩)) at_ (HMD.out _ B6.out)).mono ?_
           rintro e v7 ⟨rfl, hbb⟩
           have B7 := Lib.hid (B6.out.trans (hbb.mono B6.out.size))
           clear hbb)
        | (go_at_call 11
           refine (pnow_z _ (w.heap.size + 1) (blk_cell (box_step HZB.out B7.out) 3)).mono ?_
           rintro e v8 ⟨rfl, hbb⟩
           have B8 := Lib.hid (B7.out.trans (hbb.mono B7.out.size))
           clear hbb)
        | (go_at_call 12
           refine (pwlen_z _ (w.heap.size + 1) (blk_cell (box_step HZB.out B8.out) 0)).mono ?_
           rintro e v9 ⟨rfl, hbb⟩
           have B9 := Lib.hid (B8.out.trans (hbb.mono B8.out.size))
           clear hbb)
        | (go_at_call 19
           refine (ncopy (pa := (some ⟨w.heap.size + 1, 0, none⟩)) (HMD.out _ B9.out)).mono ?_
           rintro e v10 ⟨rfl, hbb⟩
           have B10 := Lib.hid (B9.out.trans (hbb.mono B9.out.size))
           clear hbb)
        | (refine wpList_load_roww rfl 46 (.tmp 2) rfl w.heap.size rfl 46 #[.int .i64 hi, .int .u64 hk] (0, 0) _ (box_step HHB.out B5.out) Try.underlying46 rfl (by kernel_rfl) ?_)
        | (refine wpList_load_roww rfl 46 (.tmp 2) rfl w.heap.size rfl 46 #[.int .i64 hi, .int .u64 hk] (0, 0) _ (box_step HHB.out B4.out) Try.underlying46 rfl (by kernel_rfl) ?_)
        | (refine wpList_load_roww rfl 46 (.tmp 2) rfl w.heap.size rfl 46 #[.int .i64 hi, .int .u64 hk] (0, 0) _ (box_step HHB.out B3.out) Try.underlying46 rfl (by kernel_rfl) ?_))
      go_roundw
      case rel => exact ⟨2, by go_num, by omega, HB.out.trans (B10.out.mono HB.out.size), box_step HHB.out B10.out, box_step HZB.out B10.out, box_step HSB.out B10.out⟩
      case measure => simp [intOf]
    · go_wp2_with (first
        | (go_at_call 6
           refine (HKN.out _).mono ?_
           rintro e v1 ⟨rfl, hbb⟩
           have B1 := Lib.hid (HB.out.trans (hbb.mono HB.out.size))
           clear hbb))
      go_ret
      exact ⟨rfl, B1.out⟩
end Go.Proofs.Ytkmakdhlaenaoaa
