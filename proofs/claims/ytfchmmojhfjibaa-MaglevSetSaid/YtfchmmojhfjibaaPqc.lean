/- Stage 18: the document's May, Slots. -/
import Derived.Test.YtfchmmojhfjibaaPqb
import Derived.Test.YtfchmmojhfjibaaVals
namespace Go.Proofs.Ytfchmmojhfjibaa
set_option maxRecDepth 100000
open Go.RowKit Go.Shelf
set_option maxHeartbeats 2000000 in
theorem rpmay_any (p : Pe) (w : World) : Calls Try.prog 42 #[.agg #[.int .i64 p.o, .int .i64 p.k, .int .i64 p.m]] w (ret (.bool p.may) w) := by
  have HS := Lib.hid fun W => rsize_any p.m W
  have HM0 : Hid ((w.alloc (.cells #[.int .i64 p.o, .int .i64 p.k, .int .i64 p.m] 50)).heap[w.heap.size]? = some (.cells #[.int .i64 p.o, .int .i64 p.k, .int .i64 p.m] 50 (0, 0))) := Lib.hid (heap_alloc_new w _)
  have HB0 : Hid (Below w.heap.size w (w.alloc (.cells #[.int .i64 p.o, .int .i64 p.k, .int .i64 p.m] 50))) := Lib.hid (below_alloc w _)
  obtain ⟨R, hR⟩ : ∃ R, R = p.may := ⟨_, rfl⟩
  rw [← hR]
  unfold Pe.may at hR
  cases hs : szP p.m with
  | false =>
    rw [hs] at HS
    obtain rfl : R = false := by
      rw [hR, hs]
      simp
    clear hR hs
    go_enter Try.func42, Try.ntmps42
    go_upto_region 1 with fail
    change Code.wp _ _ _ _ (w.alloc (.cells #[.int .i64 p.o, .int .i64 p.k, .int .i64 p.m] 50))
    generalize w.alloc (.cells #[.int .i64 p.o, .int .i64 p.k, .int .i64 p.m] 50) = u1 at *
    obtain ⟨q, hq⟩ : ∃ q, q = w.heap.size := ⟨_, rfl⟩
    rw [← hq] at HM0 ⊢
    clear hq
    have y2 := blk_cell HM0.out 2
    go_wp2_with (first
      | (go_at_call 22
         refine (HS.out _).mono ?_
         rintro e u2 ⟨rfl, hb⟩
         have hm := (hb.block q (lt_heap HM0.out)).trans HM0.out
         have HB2 := Lib.hid (HB0.out.trans (hb.mono HB0.out.size))
         have x0 := blk_cell hm 0
         have x1 := blk_cell hm 1
         have x2 := blk_cell hm 2
         clear hb hm))
    go_ret
    exact ⟨rfl, HB2.out⟩
  | true =>
    rw [hs] at HS
    by_cases c1 : 0 ≤ p.o
    · by_cases c2 : p.o < p.m
      · by_cases c3 : 0 < p.k
        · by_cases c4 : p.k < p.m
          · obtain rfl : R = true := by
              rw [hR, hs]
              simp [c1, c2, c3, c4]
            have dc1 := decide_eq_true c1
            have dc2 := decide_eq_true c2
            have dc3 := decide_eq_true c3
            have dc4 := decide_eq_true c4
            clear hR hs
            go_enter Try.func42, Try.ntmps42
            go_upto_region 1 with fail
            change Code.wp _ _ _ _ (w.alloc (.cells #[.int .i64 p.o, .int .i64 p.k, .int .i64 p.m] 50))
            generalize w.alloc (.cells #[.int .i64 p.o, .int .i64 p.k, .int .i64 p.m] 50) = u1 at *
            obtain ⟨q, hq⟩ : ∃ q, q = w.heap.size := ⟨_, rfl⟩
            rw [← hq] at HM0 ⊢
            clear hq
            have y2 := blk_cell HM0.out 2
            go_wp2_with (first
              | (go_at_call 22
                 refine (HS.out _).mono ?_
                 rintro e u2 ⟨rfl, hb⟩
                 have hm := (hb.block q (lt_heap HM0.out)).trans HM0.out
                 have HB2 := Lib.hid (HB0.out.trans (hb.mono HB0.out.size))
                 have x0 := blk_cell hm 0
                 have x1 := blk_cell hm 1
                 have x2 := blk_cell hm 2
                 clear hb hm))
            go_ret
            exact ⟨rfl, HB2.out⟩
          · obtain rfl : R = false := by
              rw [hR, hs]
              simp [c1, c2, c3, c4]
            have dc1 := decide_eq_true c1
            have dc2 := decide_eq_true c2
            have dc3 := decide_eq_true c3
            have dc4 := decide_eq_false c4
            clear hR hs
            go_enter Try.func42, Try.ntmps42
            go_upto_region 1 with fail
            change Code.wp _ _ _ _ (w.alloc (.cells #[.int .i64 p.o, .int .i64 p.k, .int .i64 p.m] 50))
            generalize w.alloc (.cells #[.int .i64 p.o, .int .i64 p.k, .int .i64 p.m] 50) = u1 at *
            obtain ⟨q, hq⟩ : ∃ q, q = w.heap.size := ⟨_, rfl⟩
            rw [← hq] at HM0 ⊢
            clear hq
            have y2 := blk_cell HM0.out 2
            go_wp2_with (first
              | (go_at_call 22
                 refine (HS.out _).mono ?_
                 rintro e u2 ⟨rfl, hb⟩
                 have hm := (hb.block q (lt_heap HM0.out)).trans HM0.out
                 have HB2 := Lib.hid (HB0.out.trans (hb.mono HB0.out.size))
                 have x0 := blk_cell hm 0
                 have x1 := blk_cell hm 1
                 have x2 := blk_cell hm 2
                 clear hb hm))
            go_ret
            exact ⟨rfl, HB2.out⟩
        · obtain rfl : R = false := by
            rw [hR, hs]
            simp [c1, c2, c3]
          have dc1 := decide_eq_true c1
          have dc2 := decide_eq_true c2
          have dc3 := decide_eq_false c3
          clear hR hs
          go_enter Try.func42, Try.ntmps42
          go_upto_region 1 with fail
          change Code.wp _ _ _ _ (w.alloc (.cells #[.int .i64 p.o, .int .i64 p.k, .int .i64 p.m] 50))
          generalize w.alloc (.cells #[.int .i64 p.o, .int .i64 p.k, .int .i64 p.m] 50) = u1 at *
          obtain ⟨q, hq⟩ : ∃ q, q = w.heap.size := ⟨_, rfl⟩
          rw [← hq] at HM0 ⊢
          clear hq
          have y2 := blk_cell HM0.out 2
          go_wp2_with (first
            | (go_at_call 22
               refine (HS.out _).mono ?_
               rintro e u2 ⟨rfl, hb⟩
               have hm := (hb.block q (lt_heap HM0.out)).trans HM0.out
               have HB2 := Lib.hid (HB0.out.trans (hb.mono HB0.out.size))
               have x0 := blk_cell hm 0
               have x1 := blk_cell hm 1
               have x2 := blk_cell hm 2
               clear hb hm))
          go_ret
          exact ⟨rfl, HB2.out⟩
      · obtain rfl : R = false := by
          rw [hR, hs]
          simp [c1, c2]
        have dc1 := decide_eq_true c1
        have dc2 := decide_eq_false c2
        clear hR hs
        go_enter Try.func42, Try.ntmps42
        go_upto_region 1 with fail
        change Code.wp _ _ _ _ (w.alloc (.cells #[.int .i64 p.o, .int .i64 p.k, .int .i64 p.m] 50))
        generalize w.alloc (.cells #[.int .i64 p.o, .int .i64 p.k, .int .i64 p.m] 50) = u1 at *
        obtain ⟨q, hq⟩ : ∃ q, q = w.heap.size := ⟨_, rfl⟩
        rw [← hq] at HM0 ⊢
        clear hq
        have y2 := blk_cell HM0.out 2
        go_wp2_with (first
          | (go_at_call 22
             refine (HS.out _).mono ?_
             rintro e u2 ⟨rfl, hb⟩
             have hm := (hb.block q (lt_heap HM0.out)).trans HM0.out
             have HB2 := Lib.hid (HB0.out.trans (hb.mono HB0.out.size))
             have x0 := blk_cell hm 0
             have x1 := blk_cell hm 1
             have x2 := blk_cell hm 2
             clear hb hm))
        go_ret
        exact ⟨rfl, HB2.out⟩
    · obtain rfl : R = false := by
        rw [hR, hs]
        simp [c1]
      have dc1 := decide_eq_false c1
      clear hR hs
      go_enter Try.func42, Try.ntmps42
      go_upto_region 1 with fail
      change Code.wp _ _ _ _ (w.alloc (.cells #[.int .i64 p.o, .int .i64 p.k, .int .i64 p.m] 50))
      generalize w.alloc (.cells #[.int .i64 p.o, .int .i64 p.k, .int .i64 p.m] 50) = u1 at *
      obtain ⟨q, hq⟩ : ∃ q, q = w.heap.size := ⟨_, rfl⟩
      rw [← hq] at HM0 ⊢
      clear hq
      have y2 := blk_cell HM0.out 2
      go_wp2_with (first
        | (go_at_call 22
           refine (HS.out _).mono ?_
           rintro e u2 ⟨rfl, hb⟩
           have hm := (hb.block q (lt_heap HM0.out)).trans HM0.out
           have HB2 := Lib.hid (HB0.out.trans (hb.mono HB0.out.size))
           have x0 := blk_cell hm 0
           have x1 := blk_cell hm 1
           have x2 := blk_cell hm 2
           clear hb hm))
      go_ret
      exact ⟨rfl, HB2.out⟩
end Go.Proofs.Ytfchmmojhfjibaa
