/- Stage 18: PermOnce, whatever comes in. -/
import Derived.Test.YtdeghjhlbhpopaaPqk
namespace Go.Proofs.Ytdeghjhlbhpopaa
set_option maxRecDepth 100000
open Go.RowKit Go.Shelf
set_option maxHeartbeats 4000000 in
theorem qonce_out {g : Nat} (HP : PeP g) (S : ByteArray) (m i : Int) (h : 200 < S.size ∨ 3000 < m ∨ i < 0 ∨ 1099511627776 < i) (w : World) : Calls Try.prog 4 #[.string S, .int .i64 m, .int .i64 i] w (ret (.bool true) w) := by
  have HK := Lib.hid fun W => qknown_any HP W
  clear HP
  go_enter Try.func4, Try.ntmps4
  by_cases h1 : 200 < S.size
  · have s2 : (200 : Int) < (S.size : Int) := by omega
    go_wp2_with (first
      | (go_at_call 5
         refine (HK.out _).mono ?_
         rintro e v1 ⟨rfl, hb⟩
         have HB1 := Lib.hid hb
         clear hb))
    go_ret
    exact ⟨rfl, HB1.out⟩
  have s2 : ¬ (200 : Int) < (S.size : Int) := by omega
  by_cases h2 : 3000 < m
  · clear h
    go_wp2_with (first
      | (go_at_call 5
         refine (HK.out _).mono ?_
         rintro e v1 ⟨rfl, hb⟩
         have HB1 := Lib.hid hb
         clear hb))
    go_ret
    exact ⟨rfl, HB1.out⟩
  by_cases h3 : i < 0
  · clear h
    go_wp2_with (first
      | (go_at_call 5
         refine (HK.out _).mono ?_
         rintro e v1 ⟨rfl, hb⟩
         have HB1 := Lib.hid hb
         clear hb))
    go_ret
    exact ⟨rfl, HB1.out⟩
  have h4 : 1099511627776 < i := by omega
  clear h
  · skip
    go_wp2_with (first
      | (go_at_call 5
         refine (HK.out _).mono ?_
         rintro e v1 ⟨rfl, hb⟩
         have HB1 := Lib.hid hb
         clear hb))
    go_ret
    exact ⟨rfl, HB1.out⟩
set_option maxHeartbeats 4000000 in
theorem qonce_no {g : Nat} (HP : PeP g) (S : ByteArray) (hS : S.size ≤ 200) (m i : Int) (hm : m ≤ 3000) (hi : 0 ≤ i) (hi9 : i ≤ 1099511627776) (hof : ∀ W : World, Calls Try.prog 6 #[.string S, .int .i64 m] W (ret (.tuple #[.agg #[.int .i64 0, .int .i64 0, .int .i64 0], .int .i64 2]) W)) (w : World) : Calls Try.prog 4 #[.string S, .int .i64 m, .int .i64 i] w (ret (.bool true) w) := by
  have HK := Lib.hid fun W => qknown_any HP W
  have HOF := Lib.hid hof
  have s2 : ¬ (200 : Int) < (S.size : Int) := by omega
  have m3 : ¬ 3000 < m := by omega
  have i0 : ¬ i < 0 := by omega
  have i9 : ¬ 1099511627776 < i := by omega
  clear HP hof hS hm hi hi9
  go_enter Try.func4, Try.ntmps4
  go_upto_region 4 with (first
    | (go_at_call 6
       refine (HOF.out _).mono ?_
       rintro e v1 ⟨rfl, hb⟩
       have HB1 := Lib.hid hb
       have hz1 := heap_alloc_new v1 (.cells #[.int .i64 0, .int .i64 0, .int .i64 0] 23)
       clear hb))
  change Code.wp _ _ _ _ (v1.alloc (.cells #[.int .i64 0, .int .i64 0, .int .i64 0] 23))
  have hb2 := below_alloc v1 (.cells #[.int .i64 0, .int .i64 0, .int .i64 0] 23)
  have HM2 := Lib.hid (heap_alloc_new v1 (.cells #[.int .i64 0, .int .i64 0, .int .i64 0] 23))
  have HB2 := Lib.hid (HB1.out.trans (hb2.mono HB1.out.size))
  clear hz1 hb2
  generalize v1.alloc (.cells #[.int .i64 0, .int .i64 0, .int .i64 0] 23) = v2 at *
  obtain ⟨b0, hb0⟩ : ∃ q, q = v1.heap.size := ⟨_, rfl⟩
  rw [← hb0] at HM2 ⊢
  clear hb0
  have x0 := blk_cell HM2.out 0
  have x1 := blk_cell HM2.out 1
  have x2 := blk_cell HM2.out 2
  go_wp2_with (first
    | (go_at_call 5
       refine (HK.out _).mono ?_
       rintro e v3 ⟨rfl, hb⟩
       have HB3 := Lib.hid (HB2.out.trans (hb.mono HB2.out.size))
       clear hb))
  go_ret
  exact ⟨rfl, HB3.out⟩
theorem qonce_any {g : Nat} (HP : PeP g) (n : Nat) (f : Nat → Int) (hf : Byt f) (hn : n ≤ 4611686018427387904) (m i : Int) (w : World) : Calls Try.prog 4 #[.string (strOfNums (nums n f)), .int .i64 m, .int .i64 i] w (ret (.bool true) w) := by
  have hz : (strOfNums (nums n f)).size = n := by rw [strOfNums_size, nums_len]
  by_cases h : 200 < n ∨ 3000 < m ∨ i < 0 ∨ 1099511627776 < i
  · exact qonce_out HP _ m i (by rw [hz]; exact h) w
  · obtain ⟨I, rfl⟩ := Int.eq_ofNat_of_zero_le (show 0 ≤ i by omega)
    rcases Bool.eq_false_or_eq_true (szP m) with q | q
    · obtain ⟨M, rfl, h7, h9, hp⟩ := szP_int q
      have hof := fun W => HP.of n f hf hn (M : Int) W
      unfold peV peE at hof
      rw [if_pos q, if_pos q, Int.toNat_natCast] at hof
      have h1 : peO n f M < M := Nat.mod_lt _ (by omega)
      have h2 : seedN 2 (nb f) n % (M - 1) < M - 1 := Nat.mod_lt _ (by omega)
      exact qonce_in HP _ (by rw [hz]; omega) (peO n f M) (peK n f M) M I ⟨rfl, rfl, rfl, q, h1, by unfold peK; omega, by unfold peK; omega⟩ (by omega) (by omega) hof w
    · have hof := fun W => HP.of n f hf hn m W
      unfold peV peE at hof
      rw [if_neg (by rw [q]; exact Bool.false_ne_true), if_neg (by rw [q]; exact Bool.false_ne_true)] at hof
      exact qonce_no HP _ (by rw [hz]; omega) m (I : Int) (by omega) (by omega) (by omega) hof w
end Go.Proofs.Ytdeghjhlbhpopaa
