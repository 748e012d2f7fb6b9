/- Stage 18: the landed May. -/
import Derived.Test.YtdeghjhlbhpopaaPqi
import Derived.Test.YtdeghjhlbhpopaaPmz
import Derived.Test.YtdeghjhlbhpopaaHs
namespace Go.Proofs.Ytdeghjhlbhpopaa
set_option maxRecDepth 100000
open Go.RowKit Go.Shelf
set_option maxHeartbeats 2000000 in
theorem pemay_any (p : Pe) (w : World) : Calls Try.prog 8 #[.agg #[.int .i64 p.o, .int .i64 p.k, .int .i64 p.m]] w (ret (.bool p.may) w) := by
  have HS := Lib.hid fun W => pmP.size p.m W
  have HM0 : Hid ((w.alloc (.cells #[.int .i64 p.o, .int .i64 p.k, .int .i64 p.m] 23)).heap[w.heap.size]? = some (.cells #[.int .i64 p.o, .int .i64 p.k, .int .i64 p.m] 23 (0, 0))) := Lib.hid (heap_alloc_new w _)
  have HB0 : Hid (Below w.heap.size w (w.alloc (.cells #[.int .i64 p.o, .int .i64 p.k, .int .i64 p.m] 23))) := Lib.hid (below_alloc w _)
  obtain ⟨R, hR⟩ : ∃ R, R = p.may := ⟨_, rfl⟩
  rw [← hR]
  unfold Pe.may at hR
  by_cases c1 : 0 ≤ p.o
  · by_cases c2 : p.o < p.m
    · by_cases c3 : 1 ≤ p.k
      · by_cases c4 : p.k < p.m
        · obtain rfl : R = szP p.m := by
            rw [hR]
            have c5 : 0 < p.k := by omega
            simp [c1, c2, c5, c4]
          obtain ⟨S, hS⟩ : ∃ S, S = szP p.m := ⟨_, rfl⟩
          rw [← hS] at HS ⊢
          clear hR hS
          go_enter Try.func8, Try.ntmps8
          go_upto_region 1 with fail
          change Code.wp _ _ _ _ (w.alloc (.cells #[.int .i64 p.o, .int .i64 p.k, .int .i64 p.m] 23))
          generalize w.alloc (.cells #[.int .i64 p.o, .int .i64 p.k, .int .i64 p.m] 23) = u1 at *
          obtain ⟨q, hq⟩ : ∃ q, q = w.heap.size := ⟨_, rfl⟩
          rw [← hq] at HM0 ⊢
          clear hq
          have y0 := blk_cell HM0.out 0
          have y1 := blk_cell HM0.out 1
          have y2 := blk_cell HM0.out 2
          go_wp2_with (first
            | (go_at_call 14
               refine (HS.out _).mono ?_
               rintro e u2 ⟨rfl, hb⟩
               have HB2 := Lib.hid (HB0.out.trans (hb.mono HB0.out.size))
               clear hb))
          go_ret
          exact ⟨rfl, HB2.out⟩
        · obtain rfl : R = false := by
            have c5 : 0 < p.k := by omega
            rw [hR]
            simp [c1, c2, c4, c5]
          clear hR
          go_enter Try.func8, Try.ntmps8
          go_upto_region 1 with fail
          change Code.wp _ _ _ _ (w.alloc (.cells #[.int .i64 p.o, .int .i64 p.k, .int .i64 p.m] 23))
          generalize w.alloc (.cells #[.int .i64 p.o, .int .i64 p.k, .int .i64 p.m] 23) = u1 at *
          obtain ⟨q, hq⟩ : ∃ q, q = w.heap.size := ⟨_, rfl⟩
          rw [← hq] at HM0 ⊢
          clear hq
          have y0 := blk_cell HM0.out 0
          have y1 := blk_cell HM0.out 1
          have y2 := blk_cell HM0.out 2
          go_wp2_with fail
          go_ret
          exact ⟨rfl, HB0.out⟩
      · obtain rfl : R = false := by
          have c5 : ¬ 0 < p.k := by omega
          rw [hR]
          simp [c1, c2, c5]
        clear hR
        go_enter Try.func8, Try.ntmps8
        go_upto_region 1 with fail
        change Code.wp _ _ _ _ (w.alloc (.cells #[.int .i64 p.o, .int .i64 p.k, .int .i64 p.m] 23))
        generalize w.alloc (.cells #[.int .i64 p.o, .int .i64 p.k, .int .i64 p.m] 23) = u1 at *
        obtain ⟨q, hq⟩ : ∃ q, q = w.heap.size := ⟨_, rfl⟩
        rw [← hq] at HM0 ⊢
        clear hq
        have y0 := blk_cell HM0.out 0
        have y1 := blk_cell HM0.out 1
        have y2 := blk_cell HM0.out 2
        go_wp2_with fail
        go_ret
        exact ⟨rfl, HB0.out⟩
    · obtain rfl : R = false := by
        rw [hR]
        simp [c1, c2]
      clear hR
      go_enter Try.func8, Try.ntmps8
      go_upto_region 1 with fail
      change Code.wp _ _ _ _ (w.alloc (.cells #[.int .i64 p.o, .int .i64 p.k, .int .i64 p.m] 23))
      generalize w.alloc (.cells #[.int .i64 p.o, .int .i64 p.k, .int .i64 p.m] 23) = u1 at *
      obtain ⟨q, hq⟩ : ∃ q, q = w.heap.size := ⟨_, rfl⟩
      rw [← hq] at HM0 ⊢
      clear hq
      have y0 := blk_cell HM0.out 0
      have y1 := blk_cell HM0.out 1
      have y2 := blk_cell HM0.out 2
      go_wp2_with fail
      go_ret
      exact ⟨rfl, HB0.out⟩
  · obtain rfl : R = false := by
      rw [hR]
      simp [c1]
    clear hR
    go_enter Try.func8, Try.ntmps8
    go_upto_region 1 with fail
    change Code.wp _ _ _ _ (w.alloc (.cells #[.int .i64 p.o, .int .i64 p.k, .int .i64 p.m] 23))
    generalize w.alloc (.cells #[.int .i64 p.o, .int .i64 p.k, .int .i64 p.m] 23) = u1 at *
    obtain ⟨q, hq⟩ : ∃ q, q = w.heap.size := ⟨_, rfl⟩
    rw [← hq] at HM0 ⊢
    clear hq
    have y0 := blk_cell HM0.out 0
    have y1 := blk_cell HM0.out 1
    have y2 := blk_cell HM0.out 2
    go_wp2_with fail
    go_ret
    exact ⟨rfl, HB0.out⟩
end Go.Proofs.Ytdeghjhlbhpopaa
