import Derived.Test.YthjgecdnlpdcdaaM40
/- Layer 8, the program: Kind, fits, May. -/
namespace Go.Proofs.Ythjgecdnlpdcdaa
set_option maxRecDepth 100000
open Go.RowKit
set_option maxHeartbeats 1000000 in
theorem kind_any (A : Option Addr) (n c : Nat) (f : Nat → Int) (hf : Byt f) (w : World) (hr : Rd w w.heap.size A n f) : Calls Try.prog 7 #[.slice A n c] w fun e w' => e = .returned (.int .u8 (knd f n)) ∧ w = w' := by
  by_cases c0 : n = 0
  · have k0 : ((n : Int) == 0) = true := by simp [c0]
    have e : knd f n = 0 := by unfold knd; rw [if_pos c0]
    have HE := Lib.hid e
    clear c0 e hr hf
    go_enter Try.func7, Try.ntmps7
    go_wp2
    go_ret
    exact ⟨by rw [HE.out] <;> rfl, rfl⟩
  · have k0 : ((n : Int) == 0) = false := by simp; omega
    have i0 : 0 < n := by omega
    rcases hr with h0 | ⟨b, off, rfl, hbb, hcell⟩
    · exact absurd h0 c0
    have x0 : w.cell? ⟨b, off, none⟩ = some (.int .u8 (f 0)) := hcell 0 i0
    have HE : Hid (knd f n = if f 0 / 16 = 4 then 4 else if f 0 / 16 = 6 then 41 else 0) := Lib.hid (by unfold knd; rw [if_neg c0])
    obtain ⟨x, hx⟩ : ∃ x, x = knd f n := ⟨_, rfl⟩
    rw [← hx] at HE ⊢
    have hb0 := hf 0
    generalize f 0 = y at *
    clear c0 hcell hx hf
    by_cases c4 : y / 16 = 4
    · have k4 : (y / 16 == 4) = true := by simp [c4]
      have e : x = 4 := HE.out.trans (by rw [if_pos c4])
      have HX := Lib.hid e
      clear HE e c4
      go_enter Try.func7, Try.ntmps7
      go_wp2
      go_ret
      exact ⟨by rw [HX.out] <;> rfl, rfl⟩
    · have k4 : (y / 16 == 4) = false := by simp [c4]
      by_cases c6 : y / 16 = 6
      · have k6 : (y / 16 == 6) = true := by simp [c6]
        have e : x = 41 := HE.out.trans (by rw [if_neg c4, if_pos c6])
        have HX := Lib.hid e
        clear HE e c4 c6
        go_enter Try.func7, Try.ntmps7
        go_wp2
        go_ret
        exact ⟨by rw [HX.out] <;> rfl, rfl⟩
      · have k6 : (y / 16 == 6) = false := by simp [c6]
        have e : x = 0 := HE.out.trans (by rw [if_neg c4, if_neg c6])
        have HX := Lib.hid e
        clear HE e c4 c6
        go_enter Try.func7, Try.ntmps7
        go_wp2
        go_ret
        exact ⟨by rw [HX.out] <;> rfl, rfl⟩
set_option maxHeartbeats 400000 in
theorem efits_any (s : Nat → Int) (w : World) : Calls Try.prog 13 #[.agg (arr16 s)] w fun e w' => e = .returned (.bool (fourB s)) ∧ Below w.heap.size w w' := by
  rw [← four_same]
  have b1 : (w.alloc (.cells (arr16 s) 22)).heap[w.heap.size]? = some (.cells (arr16 s) 22 (0, 0)) := heap_alloc_new w _
  have HR := Lib.hid (arr12_range (f := fun k => s (4 + k)) b1 (i := 4) fun k hk => arr16_get s (4 + k) (by omega))
  have hat : ∀ (a : Option Addr) (k : Nat) w, (Instr.arrayAt 66 (.slice a 12 k)).run Try.prog w = .ok (.pointer a) w := fun a k w => run_arrayAt w 66 _ 12 _ 12 k Try.underlying66 (Nat.le_refl _)
  have heq : ∀ W, (Op.equalIn 10000 66 (.agg (arr12 fun k => s (4 + k))) (.agg #[.int .u8 0, .int .u8 0, .int .u8 0, .int .u8 0, .int .u8 0, .int .u8 0, .int .u8 0, .int .u8 0, .int .u8 0, .int .u8 0, .int .u8 0, .int .u8 0])).run Try.prog W = .ok (fourA s) W := fun W => equal12 (fun k => s (4 + k)) (fun _ => 0) W
  clear b1
  obtain ⟨F, hF⟩ : ∃ F, F = fourA s := ⟨_, rfl⟩
  rw [← hF] at heq ⊢
  clear hF
  have hsz : (Try.prog.info? 66).map (·.size) = some (arr12 fun k => s (4 + k)).toList.length := by kernel_rfl
  generalize (arr12 fun k => s (4 + k)) = X at *
  have HS := Lib.hid hsz
  clear hsz
  go_enter Try.func13, Try.ntmps13
  go_wp2_with (first
    | (refine wpList_load_arr rfl 66 (.tmp 4) rfl w.heap.size 4 rfl X _ HR.out Try.underlying66 rfl HS.out ?_))
  go_ret
  exact ⟨rfl, below_alloc w _⟩
theorem int_beq (x y : Int) : (x == y) = decide (x = y) := by
  by_cases h : x = y
  · simp [h]
  · simp [h]
theorem may_true (s d : Nat → Int) (m sp : Int) : mayO true m s d sp = mayM m sp := by unfold mayO; simp
theorem may_false (s d : Nat → Int) (m sp : Int) : mayO false m s d sp = ((fourB s && fourB d) && mayM m sp) := by unfold mayO; simp
set_option maxHeartbeats 1000000 in
theorem mayO_any (v : Bool) (m : Int) (s d : Nat → Int) (sp : Int) (w : World) : Calls Try.prog 8 #[.agg (outc v m s d sp)] w fun e w' => e = .returned (.bool (mayO v m s d sp)) ∧ Below w.heap.size w w' := by
  have HM : Hid (Mem w (w.alloc (.cells (outc v m s d sp) 25)) [(w.heap.size, .cells (outc v m s d sp) 25 (0, 0))]) := Lib.hid ((Mem.nil w).alloc (.cells (outc v m s d sp) 25))
  have FS := Lib.hid (efits_any s)
  have FD := Lib.hid (efits_any d)
  obtain ⟨MM, hMM⟩ : ∃ M, M = mayM m sp := ⟨_, rfl⟩
  cases v
  · rw [may_false, ← hMM]
    have HMM := Lib.hid hMM
    clear hMM
    generalize fourB s = fs at *
    generalize fourB d = fd at *
    go_enter Try.func8, Try.ntmps8
    go_upto_region 1 with fail
    change Code.wp _ _ _ _ (w.alloc (.cells (outc false m s d sp) 25))
    generalize w.alloc (.cells (outc false m s d sp) 25) = u1 at *
    have x0 : u1.cell? ⟨w.heap.size, 0, none⟩ = some (.bool false) := blk_cell (HM.out.get 0 rfl) 0
    cases fs
    · go_wp2_with (first
        | (refine wpList_load_midw rfl 22 (.tmp 7) rfl w.heap.size 2 rfl (arr16 s).toList _ (blk_range (HM.out.get 0 rfl) (fun k hk => out_srcs k hk)) Try.underlying22 rfl (by kernel_rfl) ?_)
        | (go_at_call 13; refine (FS.out _).mono ?_; rintro e u ⟨rfl, hb⟩; have HM := Lib.hid (HM.out.step hb); clear hb))
      go_ret
      exact ⟨by simp, HM.out.below⟩
    · cases fd
      · go_upto_region 2 with (first
          | (refine wpList_load_midw rfl 22 (.tmp 7) rfl w.heap.size 2 rfl (arr16 s).toList _ (blk_range (HM.out.get 0 rfl) (fun k hk => out_srcs k hk)) Try.underlying22 rfl (by kernel_rfl) ?_)
          | (refine wpList_load_midw rfl 22 (.tmp 11) rfl w.heap.size 18 rfl (arr16 d).toList _ (blk_range (HM.out.get 0 rfl) (fun k hk => out_dsts k hk)) Try.underlying22 rfl (by kernel_rfl) ?_)
          | (go_at_call 13; first | (refine (FS.out _).mono ?_; rintro e u ⟨rfl, hb⟩; have HM := Lib.hid (HM.out.step hb); clear hb FS) | (refine (FD.out _).mono ?_; rintro e u ⟨rfl, hb⟩; have HM := Lib.hid (HM.out.step hb); clear hb FD)))
        go_wp2
        go_ret
        exact ⟨by simp, HM.out.below⟩
      · go_upto_region 3 with (first
          | (refine wpList_load_midw rfl 22 (.tmp 7) rfl w.heap.size 2 rfl (arr16 s).toList _ (blk_range (HM.out.get 0 rfl) (fun k hk => out_srcs k hk)) Try.underlying22 rfl (by kernel_rfl) ?_)
          | (refine wpList_load_midw rfl 22 (.tmp 11) rfl w.heap.size 18 rfl (arr16 d).toList _ (blk_range (HM.out.get 0 rfl) (fun k hk => out_dsts k hk)) Try.underlying22 rfl (by kernel_rfl) ?_)
          | (go_at_call 13; first | (refine (FS.out _).mono ?_; rintro e u ⟨rfl, hb⟩; have HM := Lib.hid (HM.out.step hb); clear hb FS) | (refine (FD.out _).mono ?_; rintro e u ⟨rfl, hb⟩; have HM := Lib.hid (HM.out.step hb); clear hb FD)))
        have x1 : u.cell? ⟨w.heap.size, 1, none⟩ = some (.int .u8 m) := blk_cell (HM.out.get 0 rfl) 1
        have x4 : u.cell? ⟨w.heap.size, 34, none⟩ = some (.int .u16 sp) := blk_cell (HM.out.get 0 rfl) 34
        unfold mayM at HMM
        by_cases c1 : m = 1
        · have k1 : (m == 1) = true := by simp [c1]
          have e : MM = decide (sp = 0) := HMM.out.trans (by rw [if_pos c1])
          have HX := Lib.hid e
          clear e c1 HMM
          go_wp2
          go_ret
          exact ⟨by simp only [Bool.and_self, Bool.true_and]; rw [HX.out, ← int_beq] <;> rfl, HM.out.below⟩
        · have k1 : (m == 1) = false := by simp [c1]
          by_cases c2 : m = 2
          · have k2 : (m == 2) = true := by simp [c2]
            have e : MM = decide (49152 ≤ sp) := HMM.out.trans (by rw [if_neg c1, if_pos c2])
            have HX := Lib.hid e
            clear e c1 c2 HMM
            go_wp2
            go_ret
            exact ⟨by simp only [Bool.and_self, Bool.true_and]; rw [HX.out] <;> rfl, HM.out.below⟩
          · have k2 : (m == 2) = false := by simp [c2]
            have e : MM = false := HMM.out.trans (by rw [if_neg c1, if_neg c2])
            have HX := Lib.hid e
            clear e c1 c2 HMM
            go_wp2
            go_ret
            exact ⟨by simp only [Bool.and_self, Bool.true_and]; rw [HX.out] <;> rfl, HM.out.below⟩
  · rw [may_true, ← hMM]
    have HMM := Lib.hid hMM
    clear hMM
    go_enter Try.func8, Try.ntmps8
    go_upto_region 1 with fail
    change Code.wp _ _ _ _ (w.alloc (.cells (outc true m s d sp) 25))
    generalize w.alloc (.cells (outc true m s d sp) 25) = u1 at *
    have x0 : u1.cell? ⟨w.heap.size, 0, none⟩ = some (.bool true) := blk_cell (HM.out.get 0 rfl) 0
    go_upto_region 3 with fail
    have x1 : u1.cell? ⟨w.heap.size, 1, none⟩ = some (.int .u8 m) := blk_cell (HM.out.get 0 rfl) 1
    have x4 : u1.cell? ⟨w.heap.size, 34, none⟩ = some (.int .u16 sp) := blk_cell (HM.out.get 0 rfl) 34
    unfold mayM at HMM
    by_cases c1 : m = 1
    · have k1 : (m == 1) = true := by simp [c1]
      have e : MM = decide (sp = 0) := HMM.out.trans (by rw [if_pos c1])
      have HX := Lib.hid e
      clear e c1 HMM
      go_wp2
      go_ret
      exact ⟨by rw [HX.out, ← int_beq] <;> rfl, HM.out.below⟩
    · have k1 : (m == 1) = false := by simp [c1]
      by_cases c2 : m = 2
      · have k2 : (m == 2) = true := by simp [c2]
        have e : MM = decide (49152 ≤ sp) := HMM.out.trans (by rw [if_neg c1, if_pos c2])
        have HX := Lib.hid e
        clear e c1 c2 HMM
        go_wp2
        go_ret
        exact ⟨by rw [HX.out] <;> rfl, HM.out.below⟩
      · have k2 : (m == 2) = false := by simp [c2]
        have e : MM = false := HMM.out.trans (by rw [if_neg c1, if_neg c2])
        have HX := Lib.hid e
        clear e c1 c2 HMM
        go_wp2
        go_ret
        exact ⟨by rw [HX.out] <;> rfl, HM.out.below⟩
end Go.Proofs.Ythjgecdnlpdcdaa
