/- Stage 15: known, FlowstateTells. -/
import Derived.Test.YtpdomapkagicaaaFsb
import Derived.Test.YtpdomapkagicaaaRnd
namespace Go.Proofs.Ytpdomapkagicaaa
set_option maxRecDepth 100000
open Go.RowKit Go.Shelf
set_option maxHeartbeats 1000000 in
theorem fknown_any (HP : FsP) (w : World) : Calls Try.prog 14 #[] w (ret (.bool true) w) := by
  have H1 : Hid (∀ W : World, Calls Try.prog 7 #[.int .u8 2, .int .u8 16] W (ret (.tuple #[.int .u8 1, .int .u8 3, .int .i64 0]) W)) := Lib.hid fun W => HP.next 2 16 W (by decide) (by decide)
  have H2 : Hid (∀ W : World, Calls Try.prog 7 #[.int .u8 4, .int .u8 2] W (ret (.tuple #[.int .u8 3, .int .u8 2, .int .i64 0]) W)) := Lib.hid fun W => HP.next 4 2 W (by decide) (by decide)
  have H3 : Hid (∀ W : World, Calls Try.prog 7 #[.int .u8 3, .int .u8 20] W (ret (.tuple #[.int .u8 2, .int .u8 3, .int .i64 0]) W)) := Lib.hid fun W => HP.next 3 20 W (by decide) (by decide)
  clear HP
  go_enter Try.func14, Try.ntmps14
  go_upto_region 2 with (first
    | (go_at_call 7
       refine (H1.out _).mono ?_
       rintro e u1 ⟨rfl, hb⟩
       have HB1 := Lib.hid hb
       clear hb))
  go_upto_region 3 with (first
    | (go_at_call 7
       refine (H2.out _).mono ?_
       rintro e u2 ⟨rfl, hb⟩
       have HB2 := Lib.hid (HB1.out.trans (hb.mono HB1.out.size))
       clear hb))
  go_wp2_with (first
    | (go_at_call 7
       refine (H3.out _).mono ?_
       rintro e u3 ⟨rfl, hb⟩
       have HB3 := Lib.hid (HB2.out.trans (hb.mono HB2.out.size))
       clear hb))
  go_ret
  exact ⟨rfl, HB3.out⟩
set_option maxHeartbeats 8000000 in
theorem ftells_any (HP : FsP) (p s f a b c d : Nat) (hp : p < 256) (hs : s < 256) (hf : f < 256) (ha : a < 4294967296) (hb : b < 4294967296) (hc : c < 4294967296) (hd : d < 4294967296) (w : World) : Calls Try.prog 3 #[.int .u8 (p : Int), .int .u8 (s : Int), .int .u8 (f : Int), .agg #[.int .u32 (a : Int), .int .u32 (b : Int), .int .u32 (c : Int), .int .u32 (d : Int)]] w (ret (.bool true) w) := by
  have HK := Lib.hid fun W => fknown_any HP W
  have H1 := Lib.hid fun W => HP.first p f W hp hf
  have H2 := Lib.hid fun W => rfirst_any p f W hp hf
  have H3 := Lib.hid fun W => HP.next s f W hs hf
  have H4 := Lib.hid fun W => rnext_any s f W hs hf
  have H5 := Lib.hid fun W => HP.may s W hs
  have H6 := Lib.hid fun W => HP.mayT a b c d W ha hb hc hd
  have H7 := Lib.hid fun W => rmayT_any a b c d W
  have H8 := Lib.hid fun W => HP.ticks a b c d s W ha hb hc hd hs
  have H9 := Lib.hid fun W => rticks_any a b c d s W hs
  have HM : Hid ((w.alloc (.cells #[.int .u32 (a : Int), .int .u32 (b : Int), .int .u32 (c : Int), .int .u32 (d : Int)] 24)).heap[w.heap.size]? = some (.cells #[.int .u32 (a : Int), .int .u32 (b : Int), .int .u32 (c : Int), .int .u32 (d : Int)] 24 (0, 0))) := Lib.hid (heap_alloc_new w _)
  have HB0 : Hid (Below w.heap.size w (w.alloc (.cells #[.int .u32 (a : Int), .int .u32 (b : Int), .int .u32 (c : Int), .int .u32 (d : Int)] 24))) := Lib.hid (below_alloc w _)
  obtain ⟨x1, hx1⟩ : ∃ x, x = (fsF p f).1 := ⟨_, rfl⟩
  obtain ⟨x2, hx2⟩ : ∃ x, x = (fsF p f).2 := ⟨_, rfl⟩
  obtain ⟨y1, hy1⟩ : ∃ x, x = (fsN s f).1 := ⟨_, rfl⟩
  obtain ⟨y2, hy2⟩ : ∃ x, x = (fsN s f).2.1 := ⟨_, rfl⟩
  obtain ⟨y3, hy3⟩ : ∃ x, x = (fsN s f).2.2 := ⟨_, rfl⟩
  obtain ⟨m, hm⟩ : ∃ x, x = fsM s := ⟨_, rfl⟩
  obtain ⟨t, ht⟩ : ∃ x, x = fsT a b c d := ⟨_, rfl⟩
  obtain ⟨k, hk⟩ : ∃ x, x = fsK a b c d s := ⟨_, rfl⟩
  rw [← hx1, ← hx2] at H1 H2
  rw [← hy1, ← hy2, ← hy3] at H3 H4
  rw [← hm] at H5
  rw [← ht] at H6 H7
  rw [← hk] at H8 H9
  have e1 : ((x1 : Int) == (x1 : Int)) = true := by simp
  have e2 : (x2 == x2) = true := by simp
  have e3 : ((y1 : Int) == (y1 : Int)) = true := by simp
  have e4 : ((y2 : Int) == (y2 : Int)) = true := by simp
  have e5 : (y3 == y3) = true := by simp
  have e6 : (t == t) = true := by simp
  have e7 : ((k : Int) == (k : Int)) = true := by simp
  unfold fsM at hm
  have HMM := Lib.hid hm
  clear HP hx1 hx2 hy1 hy2 hy3 hm ht hk hp hf ha hb hc hd
  go_enter Try.func3, Try.ntmps3
  go_upto_region 1 with fail
  change Code.wp _ _ _ _ (w.alloc (.cells #[.int .u32 (a : Int), .int .u32 (b : Int), .int .u32 (c : Int), .int .u32 (d : Int)] 24))
  generalize w.alloc (.cells #[.int .u32 (a : Int), .int .u32 (b : Int), .int .u32 (c : Int), .int .u32 (d : Int)] 24) = u0 at *
  obtain ⟨q, hq⟩ : ∃ q, q = w.heap.size := ⟨_, rfl⟩
  rw [← hq] at HM ⊢
  clear hq
  go_upto_region 5 with (first
    | (go_at_call 5
       refine (H1.out _).mono ?_
       rintro e u1 ⟨rfl, hb⟩
       have HB1 := Lib.hid (HB0.out.trans (hb.mono HB0.out.size))
       have HM1 := Lib.hid ((hb.block q (lt_heap HM.out)).trans HM.out)
       clear hb)
    | (go_at_call 6
       refine (H2.out _).mono ?_
       rintro e u2 ⟨rfl, hb⟩
       have HB2 := Lib.hid (HB1.out.trans (hb.mono HB1.out.size))
       have HM2 := Lib.hid ((hb.block q (lt_heap HM1.out)).trans HM1.out)
       clear hb)
    | (go_at_call 7
       refine (H3.out _).mono ?_
       rintro e u3 ⟨rfl, hb⟩
       have HB3 := Lib.hid (HB2.out.trans (hb.mono HB2.out.size))
       have HM3 := Lib.hid ((hb.block q (lt_heap HM2.out)).trans HM2.out)
       clear hb)
    | (go_at_call 8
       refine (H4.out _).mono ?_
       rintro e u4 ⟨rfl, hb⟩
       have HB4 := Lib.hid (HB3.out.trans (hb.mono HB3.out.size))
       have HM4 := Lib.hid ((hb.block q (lt_heap HM3.out)).trans HM3.out)
       clear hb))
  have Z0 : ∀ W : Stay u4, W.w.cell? ⟨q, 0, none⟩ = some (.int .u32 (a : Int)) := fun W => Stay.cell (blk_cell HM4.out 0) W
  have Z1 : ∀ W : Stay u4, W.w.cell? ⟨q, 1, none⟩ = some (.int .u32 (b : Int)) := fun W => Stay.cell (blk_cell HM4.out 1) W
  have Z2 : ∀ W : Stay u4, W.w.cell? ⟨q, 2, none⟩ = some (.int .u32 (c : Int)) := fun W => Stay.cell (blk_cell HM4.out 2) W
  have Z3 : ∀ W : Stay u4, W.w.cell? ⟨q, 3, none⟩ = some (.int .u32 (d : Int)) := fun W => Stay.cell (blk_cell HM4.out 3) W
  clear H1 H2 H3 H4 HM HM1 HM2 HM3
  by_cases s1 : s < 1
  · have q1 : ¬ (1 : Int) ≤ (s : Int) := by omega
    obtain rfl : m = false := by
      rw [HMM.out, show decide (1 ≤ s) = false from decide_eq_false (by omega)]
      rfl
    clear s1 hs
    refine wp_region_stay (by kernel_rfl) (by kernel_rfl) ?_
    repeat (go_big_quiet_step (first
      | (go_at_call 9; with_reducible exact Calls.stay _ (H5.out _))
      | (go_at_call 10; with_reducible exact Calls.stay _ (H6.out _))
      | (go_at_call 11; with_reducible exact Calls.stay _ (H7.out _))
      | (go_at_call 12; with_reducible exact Calls.stay _ (H8.out _))
      | (go_at_call 13; with_reducible exact Calls.stay _ (H9.out _))
      | (go_at_call 14; with_reducible exact Calls.stay _ (HK.out _))))
    refine wpQuiet_nil ?_
    intro w' hw'
    obtain ⟨W, rfl⟩ := hw'
    go_wp2_with fail
    go_ret
    exact ⟨rfl, HB4.out.trans (W.below.mono HB4.out.size)⟩
  · have q1 : (1 : Int) ≤ (s : Int) := by omega
    by_cases s4 : s ≤ 4
    · have q2 : (s : Int) ≤ 4 := by omega
      obtain rfl : m = true := by
        rw [HMM.out, show decide (1 ≤ s) = true from decide_eq_true (by omega), show decide (s ≤ 4) = true from decide_eq_true s4]
        rfl
      clear s1 s4 hs
      refine wp_region_stay (by kernel_rfl) (by kernel_rfl) ?_
      repeat (go_big_quiet_step (first
        | (go_at_call 9; with_reducible exact Calls.stay _ (H5.out _))
        | (go_at_call 10; with_reducible exact Calls.stay _ (H6.out _))
        | (go_at_call 11; with_reducible exact Calls.stay _ (H7.out _))
        | (go_at_call 12; with_reducible exact Calls.stay _ (H8.out _))
        | (go_at_call 13; with_reducible exact Calls.stay _ (H9.out _))
        | (go_at_call 14; with_reducible exact Calls.stay _ (HK.out _))))
      refine wpQuiet_nil ?_
      intro w' hw'
      obtain ⟨W, rfl⟩ := hw'
      go_wp2_with fail
      go_ret
      exact ⟨rfl, HB4.out.trans (W.below.mono HB4.out.size)⟩
    · have q2 : ¬ (s : Int) ≤ 4 := by omega
      obtain rfl : m = false := by
        rw [HMM.out, show decide (s ≤ 4) = false from decide_eq_false s4, Bool.and_false]
      clear s1 s4 hs
      refine wp_region_stay (by kernel_rfl) (by kernel_rfl) ?_
      repeat (go_big_quiet_step (first
        | (go_at_call 9; with_reducible exact Calls.stay _ (H5.out _))
        | (go_at_call 10; with_reducible exact Calls.stay _ (H6.out _))
        | (go_at_call 11; with_reducible exact Calls.stay _ (H7.out _))
        | (go_at_call 12; with_reducible exact Calls.stay _ (H8.out _))
        | (go_at_call 13; with_reducible exact Calls.stay _ (H9.out _))
        | (go_at_call 14; with_reducible exact Calls.stay _ (HK.out _))))
      refine wpQuiet_nil ?_
      intro w' hw'
      obtain ⟨W, rfl⟩ := hw'
      go_wp2_with fail
      go_ret
      exact ⟨rfl, HB4.out.trans (W.below.mono HB4.out.size)⟩
end Go.Proofs.Ytpdomapkagicaaa
