/- Stage 18: the page's example. -/
import Derived.Test.YtdeghjhlbhpopaaPqe
namespace Go.Proofs.Ytdeghjhlbhpopaa
set_option maxRecDepth 100000
open Go.RowKit Go.Shelf
def pe7 : Pe := ⟨3, 4, 7⟩
theorem pe7_ok : pe7.Ok 3 4 7 := ⟨rfl, rfl, rfl, szP_of (x := 7) (by decide) (by decide) (ld_is (by decide) ⟨by decide, by decide, fun k hk hk7 => by
  rcases (show k = 2 ∨ k = 3 ∨ k = 4 ∨ k = 5 ∨ k = 6 by omega) with rfl | rfl | rfl | rfl | rfl <;> decide⟩), by decide, by decide, by decide⟩
set_option maxHeartbeats 4000000 in
theorem qknown_any {g : Nat} (HP : PeP g) (w : World) : Calls Try.prog 5 #[] w (ret (.bool true) w) := by
  have HA : Hid (∀ i : Nat, i < 7 → ∀ W : World, Calls Try.prog 12 #[.agg #[.int .i64 3, .int .i64 4, .int .i64 7], .int .i64 (i : Int)] W (ret (.int .i64 (slN 3 4 7 i : Int)) W)) := Lib.hid fun i _ W => by
    have := HP.at_ pe7 (i : Int) W
    rw [pe7_ok.at_] at this
    exact this
  have HW : Hid (∀ i : Nat, i < 7 → ∀ W : World, Calls Try.prog 13 #[.agg #[.int .i64 3, .int .i64 4, .int .i64 7], .int .i64 (slN 3 4 7 i : Int)] W (ret (.int .i64 (i : Int)) W)) := Lib.hid fun i hi W => by
    have := HP.wh pe7 (slN 3 4 7 i : Int) W
    rw [pe7_ok.wh hi] at this
    exact this
  have HMY : Hid (∀ W : World, Calls Try.prog 8 #[.agg #[.int .i64 3, .int .i64 4, .int .i64 7]] W (ret (.bool true) W)) := Lib.hid fun W => by
    have := HP.may pe7 W
    rw [pe7_ok.may_] at this
    exact this
  have HM : Hid (Mem w ((w.alloc (.cells #[.int .i64 3, .int .i64 4, .int .i64 7] 23)).alloc (.cells #[.int .i64 3, .int .i64 0, .int .i64 4, .int .i64 1, .int .i64 5, .int .i64 2, .int .i64 6] 36)) [(w.heap.size, .cells #[.int .i64 3, .int .i64 4, .int .i64 7] 23 (0, 0)), (w.heap.size + 1, .cells #[.int .i64 3, .int .i64 0, .int .i64 4, .int .i64 1, .int .i64 5, .int .i64 2, .int .i64 6] 36 (0, 0))]) := Lib.hid (by
    have h := ((Mem.nil w).alloc (.cells #[.int .i64 3, .int .i64 4, .int .i64 7] 23)).alloc (.cells #[.int .i64 3, .int .i64 0, .int .i64 4, .int .i64 1, .int .i64 5, .int .i64 2, .int .i64 6] 36)
    simpa using h)
  clear HP
  go_enter Try.func5, Try.ntmps5
  go_upto_region 3 with fail
  change Code.wp _ _ _ _ ((w.alloc (.cells #[.int .i64 3, .int .i64 4, .int .i64 7] 23)).alloc (.cells #[.int .i64 3, .int .i64 0, .int .i64 4, .int .i64 1, .int .i64 5, .int .i64 2, .int .i64 6] 36))
  generalize (w.alloc (.cells #[.int .i64 3, .int .i64 4, .int .i64 7] 23)).alloc (.cells #[.int .i64 3, .int .i64 0, .int .i64 4, .int .i64 1, .int .i64 5, .int .i64 2, .int .i64 6] 36) = u at *
  obtain ⟨b1, hb1⟩ : ∃ b, b = w.heap.size := ⟨_, rfl⟩
  obtain ⟨b2, hb2⟩ : ∃ b, b = w.heap.size + 1 := ⟨_, rfl⟩
  rw [← hb2, ← hb1] at HM
  rw [← hb2, ← hb1]
  clear hb1 hb2
  have HMU := HM
  have a0 := blk_cell (HM.out.get 1 rfl) 0
  have a1 := blk_cell (HM.out.get 1 rfl) 1
  have a2 := blk_cell (HM.out.get 1 rfl) 2
  have a3 := blk_cell (HM.out.get 1 rfl) 3
  have a4 := blk_cell (HM.out.get 1 rfl) 4
  have a5 := blk_cell (HM.out.get 1 rfl) 5
  have a6 := blk_cell (HM.out.get 1 rfl) 6
  go_wp2_with fail
  clear a0 a1 a2 a3 a4 a5 a6
  go_loopw [8] (fun vi wr => ∃ i : Nat, i ≤ 7 ∧ vi = .int .i64 (i : Int) ∧ Below u.heap.size u wr) (fun vi _ => 7 - (intOf vi).toNat)
  case atStart => exact ⟨0, Nat.zero_le _, rfl, Below.refl _ _⟩
  case round =>
    obtain ⟨i, hi, rfl, hb⟩ := hrel
    have HB := Lib.hid hb
    have HMr := Lib.hid (HMU.out.step hb)
    have x0 := blk_cell (HMr.out.get 0 rfl) 0
    have x1 := blk_cell (HMr.out.get 0 rfl) 1
    have x2 := blk_cell (HMr.out.get 0 rfl) 2
    clear hb
    rcases (show i = 0 ∨ i = 1 ∨ i = 2 ∨ i = 3 ∨ i = 4 ∨ i = 5 ∨ i = 6 ∨ i = 7 by omega) with rfl | rfl | rfl | rfl | rfl | rfl | rfl | rfl
    · have HAI : Hid (∀ W : World, Calls Try.prog 12 #[.agg #[.int .i64 3, .int .i64 4, .int .i64 7], .int .i64 0] W (ret (.int .i64 3) W)) := Lib.hid fun W => HA.out 0 (by decide) W
      have HWI : Hid (∀ W : World, Calls Try.prog 13 #[.agg #[.int .i64 3, .int .i64 4, .int .i64 7], .int .i64 3] W (ret (.int .i64 0) W)) := Lib.hid fun W => HW.out 0 (by decide) W
      have ix : ∀ W : World, (Instr.index 36 (.agg #[.int .i64 3, .int .i64 0, .int .i64 4, .int .i64 1, .int .i64 5, .int .i64 2, .int .i64 6]) (.int .i64 0)).run Try.prog W = .ok (.int .i64 3) W := fun _ => by kernel_rfl
      rw [show (((0 : Nat)) : Int) = 0 from rfl]
      go_wp2_with (first
        | (go_at_call 12
           refine (HAI.out _).mono ?_
           rintro e v1 ⟨rfl, hb⟩
           have HB1 := Lib.hid (HB.out.trans (hb.mono HB.out.size))
           have hm1 := HMr.out.step hb
           have y0 := blk_cell (hm1.get 0 rfl) 0
           have y1 := blk_cell (hm1.get 0 rfl) 1
           have y2 := blk_cell (hm1.get 0 rfl) 2
           clear hb hm1)
        | (go_at_call 13
           refine (HWI.out _).mono ?_
           rintro e v2 ⟨rfl, hb⟩
           have HB2 := Lib.hid (HB1.out.trans (hb.mono HB1.out.size))
           clear hb))
      go_roundw
      case rel => exact ⟨1, by omega, by go_num, HB2.out⟩
      case measure => simp [intOf]
    · have HAI : Hid (∀ W : World, Calls Try.prog 12 #[.agg #[.int .i64 3, .int .i64 4, .int .i64 7], .int .i64 1] W (ret (.int .i64 0) W)) := Lib.hid fun W => HA.out 1 (by decide) W
      have HWI : Hid (∀ W : World, Calls Try.prog 13 #[.agg #[.int .i64 3, .int .i64 4, .int .i64 7], .int .i64 0] W (ret (.int .i64 1) W)) := Lib.hid fun W => HW.out 1 (by decide) W
      have ix : ∀ W : World, (Instr.index 36 (.agg #[.int .i64 3, .int .i64 0, .int .i64 4, .int .i64 1, .int .i64 5, .int .i64 2, .int .i64 6]) (.int .i64 1)).run Try.prog W = .ok (.int .i64 0) W := fun _ => by kernel_rfl
      rw [show (((1 : Nat)) : Int) = 1 from rfl]
      go_wp2_with (first
        | (go_at_call 12
           refine (HAI.out _).mono ?_
           rintro e v1 ⟨rfl, hb⟩
           have HB1 := Lib.hid (HB.out.trans (hb.mono HB.out.size))
           have hm1 := HMr.out.step hb
           have y0 := blk_cell (hm1.get 0 rfl) 0
           have y1 := blk_cell (hm1.get 0 rfl) 1
           have y2 := blk_cell (hm1.get 0 rfl) 2
           clear hb hm1)
        | (go_at_call 13
           refine (HWI.out _).mono ?_
           rintro e v2 ⟨rfl, hb⟩
           have HB2 := Lib.hid (HB1.out.trans (hb.mono HB1.out.size))
           clear hb))
      go_roundw
      case rel => exact ⟨2, by omega, by go_num, HB2.out⟩
      case measure => simp [intOf]
    · have HAI : Hid (∀ W : World, Calls Try.prog 12 #[.agg #[.int .i64 3, .int .i64 4, .int .i64 7], .int .i64 2] W (ret (.int .i64 4) W)) := Lib.hid fun W => HA.out 2 (by decide) W
      have HWI : Hid (∀ W : World, Calls Try.prog 13 #[.agg #[.int .i64 3, .int .i64 4, .int .i64 7], .int .i64 4] W (ret (.int .i64 2) W)) := Lib.hid fun W => HW.out 2 (by decide) W
      have ix : ∀ W : World, (Instr.index 36 (.agg #[.int .i64 3, .int .i64 0, .int .i64 4, .int .i64 1, .int .i64 5, .int .i64 2, .int .i64 6]) (.int .i64 2)).run Try.prog W = .ok (.int .i64 4) W := fun _ => by kernel_rfl
      rw [show (((2 : Nat)) : Int) = 2 from rfl]
      go_wp2_with (first
        | (go_at_call 12
           refine (HAI.out _).mono ?_
           rintro e v1 ⟨rfl, hb⟩
           have HB1 := Lib.hid (HB.out.trans (hb.mono HB.out.size))
           have hm1 := HMr.out.step hb
           have y0 := blk_cell (hm1.get 0 rfl) 0
           have y1 := blk_cell (hm1.get 0 rfl) 1
           have y2 := blk_cell (hm1.get 0 rfl) 2
           clear hb hm1)
        | (go_at_call 13
           refine (HWI.out _).mono ?_
           rintro e v2 ⟨rfl, hb⟩
           have HB2 := Lib.hid (HB1.out.trans (hb.mono HB1.out.size))
           clear hb))
      go_roundw
      case rel => exact ⟨3, by omega, by go_num, HB2.out⟩
      case measure => simp [intOf]
    · have HAI : Hid (∀ W : World, Calls Try.prog 12 #[.agg #[.int .i64 3, .int .i64 4, .int .i64 7], .int .i64 3] W (ret (.int .i64 1) W)) := Lib.hid fun W => HA.out 3 (by decide) W
      have HWI : Hid (∀ W : World, Calls Try.prog 13 #[.agg #[.int .i64 3, .int .i64 4, .int .i64 7], .int .i64 1] W (ret (.int .i64 3) W)) := Lib.hid fun W => HW.out 3 (by decide) W
      have ix : ∀ W : World, (Instr.index 36 (.agg #[.int .i64 3, .int .i64 0, .int .i64 4, .int .i64 1, .int .i64 5, .int .i64 2, .int .i64 6]) (.int .i64 3)).run Try.prog W = .ok (.int .i64 1) W := fun _ => by kernel_rfl
      rw [show (((3 : Nat)) : Int) = 3 from rfl]
      go_wp2_with (first
        | (go_at_call 12
           refine (HAI.out _).mono ?_
           rintro e v1 ⟨rfl, hb⟩
           have HB1 := Lib.hid (HB.out.trans (hb.mono HB.out.size))
           have hm1 := HMr.out.step hb
           have y0 := blk_cell (hm1.get 0 rfl) 0
           have y1 := blk_cell (hm1.get 0 rfl) 1
           have y2 := blk_cell (hm1.get 0 rfl) 2
           clear hb hm1)
        | (go_at_call 13
           refine (HWI.out _).mono ?_
           rintro e v2 ⟨rfl, hb⟩
           have HB2 := Lib.hid (HB1.out.trans (hb.mono HB1.out.size))
           clear hb))
      go_roundw
      case rel => exact ⟨4, by omega, by go_num, HB2.out⟩
      case measure => simp [intOf]
    · have HAI : Hid (∀ W : World, Calls Try.prog 12 #[.agg #[.int .i64 3, .int .i64 4, .int .i64 7], .int .i64 4] W (ret (.int .i64 5) W)) := Lib.hid fun W => HA.out 4 (by decide) W
      have HWI : Hid (∀ W : World, Calls Try.prog 13 #[.agg #[.int .i64 3, .int .i64 4, .int .i64 7], .int .i64 5] W (ret (.int .i64 4) W)) := Lib.hid fun W => HW.out 4 (by decide) W
      have ix : ∀ W : World, (Instr.index 36 (.agg #[.int .i64 3, .int .i64 0, .int .i64 4, .int .i64 1, .int .i64 5, .int .i64 2, .int .i64 6]) (.int .i64 4)).run Try.prog W = .ok (.int .i64 5) W := fun _ => by kernel_rfl
      rw [show (((4 : Nat)) : Int) = 4 from rfl]
      go_wp2_with (first
        | (go_at_call 12
           refine (HAI.out _).mono ?_
           rintro e v1 ⟨rfl, hb⟩
           have HB1 := Lib.hid (HB.out.trans (hb.mono HB.out.size))
           have hm1 := HMr.out.step hb
           have y0 := blk_cell (hm1.get 0 rfl) 0
           have y1 := blk_cell (hm1.get 0 rfl) 1
           have y2 := blk_cell (hm1.get 0 rfl) 2
           clear hb hm1)
        | (go_at_call 13
           refine (HWI.out _).mono ?_
           rintro e v2 ⟨rfl, hb⟩
           have HB2 := Lib.hid (HB1.out.trans (hb.mono HB1.out.size))
           clear hb))
      go_roundw
      case rel => exact ⟨5, by omega, by go_num, HB2.out⟩
      case measure => simp [intOf]
    · have HAI : Hid (∀ W : World, Calls Try.prog 12 #[.agg #[.int .i64 3, .int .i64 4, .int .i64 7], .int .i64 5] W (ret (.int .i64 2) W)) := Lib.hid fun W => HA.out 5 (by decide) W
      have HWI : Hid (∀ W : World, Calls Try.prog 13 #[.agg #[.int .i64 3, .int .i64 4, .int .i64 7], .int .i64 2] W (ret (.int .i64 5) W)) := Lib.hid fun W => HW.out 5 (by decide) W
      have ix : ∀ W : World, (Instr.index 36 (.agg #[.int .i64 3, .int .i64 0, .int .i64 4, .int .i64 1, .int .i64 5, .int .i64 2, .int .i64 6]) (.int .i64 5)).run Try.prog W = .ok (.int .i64 2) W := fun _ => by kernel_rfl
      rw [show (((5 : Nat)) : Int) = 5 from rfl]
      go_wp2_with (first
        | (go_at_call 12
           refine (HAI.out _).mono ?_
           rintro e v1 ⟨rfl, hb⟩
           have HB1 := Lib.hid (HB.out.trans (hb.mono HB.out.size))
           have hm1 := HMr.out.step hb
           have y0 := blk_cell (hm1.get 0 rfl) 0
           have y1 := blk_cell (hm1.get 0 rfl) 1
           have y2 := blk_cell (hm1.get 0 rfl) 2
           clear hb hm1)
        | (go_at_call 13
           refine (HWI.out _).mono ?_
           rintro e v2 ⟨rfl, hb⟩
           have HB2 := Lib.hid (HB1.out.trans (hb.mono HB1.out.size))
           clear hb))
      go_roundw
      case rel => exact ⟨6, by omega, by go_num, HB2.out⟩
      case measure => simp [intOf]
    · have HAI : Hid (∀ W : World, Calls Try.prog 12 #[.agg #[.int .i64 3, .int .i64 4, .int .i64 7], .int .i64 6] W (ret (.int .i64 6) W)) := Lib.hid fun W => HA.out 6 (by decide) W
      have HWI : Hid (∀ W : World, Calls Try.prog 13 #[.agg #[.int .i64 3, .int .i64 4, .int .i64 7], .int .i64 6] W (ret (.int .i64 6) W)) := Lib.hid fun W => HW.out 6 (by decide) W
      have ix : ∀ W : World, (Instr.index 36 (.agg #[.int .i64 3, .int .i64 0, .int .i64 4, .int .i64 1, .int .i64 5, .int .i64 2, .int .i64 6]) (.int .i64 6)).run Try.prog W = .ok (.int .i64 6) W := fun _ => by kernel_rfl
      rw [show (((6 : Nat)) : Int) = 6 from rfl]
      go_wp2_with (first
        | (go_at_call 12
           refine (HAI.out _).mono ?_
           rintro e v1 ⟨rfl, hb⟩
           have HB1 := Lib.hid (HB.out.trans (hb.mono HB.out.size))
           have hm1 := HMr.out.step hb
           have y0 := blk_cell (hm1.get 0 rfl) 0
           have y1 := blk_cell (hm1.get 0 rfl) 1
           have y2 := blk_cell (hm1.get 0 rfl) 2
           clear hb hm1)
        | (go_at_call 13
           refine (HWI.out _).mono ?_
           rintro e v2 ⟨rfl, hb⟩
           have HB2 := Lib.hid (HB1.out.trans (hb.mono HB1.out.size))
           clear hb))
      go_roundw
      case rel => exact ⟨7, by omega, by go_num, HB2.out⟩
      case measure => simp [intOf]
    · rw [show (((7 : Nat)) : Int) = 7 from rfl]
      go_wp2_with (first
        | (go_at_call 8
           refine (HMY.out _).mono ?_
           rintro e v1 ⟨rfl, hb⟩
           have HB1 := Lib.hid (HB.out.trans (hb.mono HB.out.size))
           clear hb))
      go_ret
      exact ⟨rfl, HM.out.below.trans (HB1.out.mono HM.out.below.size)⟩
end Go.Proofs.Ytdeghjhlbhpopaa
