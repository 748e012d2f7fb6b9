import Derived.Test.YtkmakdhlaenaoaaGm9
/- Stage 9: the document's which and Live. -/
namespace Go.Proofs.Ytkmakdhlaenaoaa
set_option maxRecDepth 100000
open Go.RowKit
/-- The cell that is taken next, as a number. -/
def Ar.whichI (s : Ar) : Int := match s.which with
  | some i => (i : Int)
  | none => -1
theorem Ar.which_last {s : Ar} {m : Nat} (h : s.freed.length = m + 1) : s.which = some (s.freed.getD m 0) := by
  unfold Ar.which
  have e : s.freed.getLast? = some (s.freed.getD m 0) := by
    rw [List.getLast?_eq_getElem?, h, List.getD_eq_getElem?_getD]
    have : m < s.freed.length := by omega
    rw [show m + 1 - 1 = m by omega, List.getElem?_eq_getElem this]
    rfl
  rw [e]
theorem Ar.which_first {s : Ar} {k : Nat} (h : s.freed.length = 0) (hk : k < s.has.length) (h0 : s.at_ k = 0) (hl : ∀ j, j < k → s.at_ j ≠ 0) : s.which = some k := by
  unfold Ar.which
  rw [List.length_eq_zero_iff.1 h]
  show s.has.findIdx? (· == 0) = some k
  rw [List.findIdx?_eq_some_iff_getElem]
  refine ⟨hk, ?_, fun j hj => ?_⟩
  · have e := h0
    unfold Ar.at_ at e
    rw [List.getElem?_eq_getElem hk] at e
    simpa using e
  · have e := hl j hj
    unfold Ar.at_ at e
    rw [List.getElem?_eq_getElem (by omega)] at e
    simpa using e
theorem Ar.which_no {s : Ar} (h : s.freed.length = 0) (hl : ∀ j, j < s.has.length → s.at_ j ≠ 0) : s.which = none := by
  unfold Ar.which
  rw [List.length_eq_zero_iff.1 h]
  show s.has.findIdx? (· == 0) = none
  rw [List.findIdx?_eq_none_iff]
  intro x hx
  obtain ⟨j, hj, rfl⟩ := List.mem_iff_getElem.1 hx
  have e := hl j hj
  unfold Ar.at_ at e
  rw [List.getElem?_eq_getElem hj] at e
  simpa using e
set_option maxHeartbeats 1000000 in
theorem rwhich_any {w : World} {q : Nat} {s : Ar} {G : Nat → Prop} (h : RA w q s G) (hn : s.has.length ≤ 65536) : Calls Try.prog 79 #[.pointer (some ⟨q, 0, none⟩)] w fun e w' => e = .returned (.int .i64 s.whichI) ∧ Below w.heap.size w w' := by
  obtain ⟨A, c, B, d, hx⟩ := h
  have HX := Lib.hid hx
  have x0 : w.cell? ⟨q, 0, none⟩ = some (.slice A s.has.length c) := blk_cell hx.blk 0
  have x1 : w.cell? ⟨q, 1, none⟩ = some (.slice B s.freed.length d) := blk_cell hx.blk 1
  have c1 := hx.c1
  have d1 := hx.d1
  have d2 := hx.d2
  have HL : Hid (∀ m, s.freed.length = m + 1 → s.whichI = ((s.freed.getD m 0 : Nat) : Int)) := Lib.hid fun m h => by unfold Ar.whichI; rw [Ar.which_last h]
  have HF : Hid (s.freed.length = 0 → ∀ k, k < s.has.length → s.at_ k = 0 → (∀ j, j < k → s.at_ j ≠ 0) → s.whichI = (k : Int)) := Lib.hid fun h k h1 h2 h3 => by unfold Ar.whichI; rw [Ar.which_first h h1 h2 h3]
  have HN : Hid (s.freed.length = 0 → (∀ j, j < s.has.length → s.at_ j ≠ 0) → s.whichI = -1) := Lib.hid fun h h1 => by unfold Ar.whichI; rw [Ar.which_no h h1]
  have HA := Lib.hid hx.has
  have HB := Lib.hid hx.free
  clear hx HX
  generalize s.whichI = R at *
  generalize hfr : (fun k => s.freed.getD k 0) = fr at *
  have hfr' : ∀ k, s.freed.getD k 0 = fr k := fun k => by rw [← hfr]
  clear hfr
  simp only [hfr'] at HL HB
  clear hfr'
  generalize s.at_ = ha at *
  generalize s.freed.length = m at *
  generalize s.has.length = n at *
  cases m with
  | succ m =>
    have hR := HL.out m rfl
    rcases HB.out with h0 | ⟨b, off, rfl, _, hlt, hcl⟩
    · exact absurd h0 (by omega)
    have xb : w.cell? ⟨b, off + m, none⟩ = some (.int .i64 (fr m : Int)) := hcl m (by omega)
    have z1 : ((m + 1 : Nat) : Int) > 0 := by omega
    have zw : IntKind.i64.wrap ((m : Int) + 1 - 1) = (m : Int) := by rw [IntKind.wrap_i64]; omega
    have zw2 : IntKind.i64.wrap (m : Int) = (m : Int) := by rw [IntKind.wrap_i64]; omega
    have i0 : (0 : Int) ≤ (m : Int) := by omega
    have i1 : (m : Int) < ((m + 1 : Nat) : Int) := by omega
    have i3 : (m : Int) < (m : Int) + 1 := by omega
    have i2 : ((m : Int)).toNat = m := by omega
    have HR := Lib.hid hR
    clear hR hcl HL HF HN HA HB
    go_enter Try.func79, Try.ntmps79
    go_upto_region 2 with fail
    have y1 : ∀ W : Stay w, W.w.cell? ⟨q, 1, none⟩ = some (.slice (some ⟨b, off, none⟩) (m + 1) d) := fun W => Stay.cell x1 W
    have yb : ∀ W : Stay w, W.w.cell? ⟨b, off + m, none⟩ = some (.int .i64 (fr m : Int)) := fun W => Stay.cell xb W
    refine wp_region_stay (by kernel_rfl) (by kernel_rfl) ?_
    repeat (go_big_quiet_step (fail))
    refine wpQuiet_nil ?_
    intro w' hw'
    obtain ⟨W, rfl⟩ := hw'
    go_wp2_with fail
    go_ret
    exact ⟨by rw [HR.out] <;> rfl, W.below⟩
  | zero =>
    have HF0 := Lib.hid (HF.out rfl)
    have HN0 := Lib.hid (HN.out rfl)
    clear HL HB HF HN
    go_enter Try.func79, Try.ntmps79
    go_wp2_with fail
    go_loopw [3] (fun i wr => ∃ k : Nat, k ≤ n ∧ i = .int .i64 (k : Int) ∧ Hid (∀ j, j < k → ha j ≠ 0) ∧ wr = w) (fun i _ => n - (intOf i).toNat)
    case atStart => exact ⟨0, Nat.zero_le _, rfl, Lib.hid fun j hj => absurd hj (by omega), rfl⟩
    case round =>
      obtain ⟨k, hk, rfl, hl, rfl⟩ := hrel
      have HJ := Lib.hid hl.out
      clear hl
      by_cases hkn : k < n
      · rcases HA.out with h0 | ⟨b, off, rfl, _, hlt, hcl⟩
        · omega
        have xb : wr.cell? ⟨b, off + k, none⟩ = some (.int .u64 (ha k : Int)) := hcl k hkn
        have i0 : (0 : Int) ≤ (k : Int) := by omega
        have i1 : (k : Int) < (n : Int) := by omega
        have i2 : ((k : Int)).toNat = k := by omega
        have zw : IntKind.i64.wrap ((k : Int) + 1) = (k : Int) + 1 := by rw [IntKind.wrap_i64]; omega
        by_cases h0 : ha k = 0
        · have hR := HF0.out k hkn h0 HJ.out
          have HR := Lib.hid hR
          have k0 : ((ha k : Int) == 0) = true := by simp [h0]
          clear hR h0 hcl HJ HF0 HN0
          go_wp2_with fail
          try rw [Exit.noGoto_ret]
          go_ret
          exact ⟨by rw [HR.out] <;> rfl, Below.refl _ _⟩
        · have k0 : ((ha k : Int) == 0) = false := by simp; omega
          have HJ2 : Hid (∀ j, j < k + 1 → ha j ≠ 0) := Lib.hid fun j hj => by
            by_cases e : j = k
            · rw [e]; exact h0
            · exact HJ.out j (by omega)
          clear h0 hcl HJ
          go_wp2_with fail
          go_roundw
          case rel => exact ⟨k + 1, by omega, by go_num, HJ2, trivial⟩
          case measure => simp [intOf]; omega
      · obtain rfl : n = k := by omega
        have HR := Lib.hid (HN0.out HJ.out)
        clear hkn HJ HF0 HN0
        go_wp2_with fail
        go_ret
        exact ⟨by rw [HR.out] <;> rfl, Below.refl _ _⟩
theorem Ar.live_no {s : Ar} {i : Int} {k : Nat} (h : ¬ (0 ≤ i ∧ k ≠ 0 ∧ s.at_ i.toNat = k)) : s.live i k = false := by
  cases e : s.live i k with
  | false => rfl
  | true => exact absurd (Ar.live_iff.1 e) h
theorem Ar.live_yes {s : Ar} {i : Int} {k : Nat} (h : 0 ≤ i ∧ k ≠ 0 ∧ s.at_ i.toNat = k) : s.live i k = true := Ar.live_iff.2 h
set_option maxHeartbeats 1000000 in
theorem rlive_any {w : World} {q : Nat} {s : Ar} {G : Nat → Prop} (h : RA w q s G) (_hn : s.has.length ≤ 65536) (i : Int) (k : Nat) : Calls Try.prog 46 #[.pointer (some ⟨q, 0, none⟩), .agg #[.int .i64 i, .int .u64 (k : Int)]] w fun e w' => e = .returned (.bool (s.live i k)) ∧ Below w.heap.size w w' := by
  obtain ⟨A, c, B, d, hx⟩ := h
  have HBU : Hid (Below w.heap.size w (w.alloc (.cells #[.int .i64 i, .int .u64 (k : Int)] 46))) := Lib.hid (below_alloc w _)
  have hx2 := hx.step HBU.out
  have hq : (w.alloc (.cells #[.int .i64 i, .int .u64 (k : Int)] 46)).heap[w.heap.size]? = some (.cells #[.int .i64 i, .int .u64 (k : Int)] 46 (0, 0)) := heap_alloc_new w _
  have y0 : ∀ W : Stay (w.alloc (.cells #[.int .i64 i, .int .u64 (k : Int)] 46)), W.w.cell? ⟨w.heap.size, 0, none⟩ = some (.int .i64 i) := fun W => Stay.cell (blk_cell hq 0) W
  have y1 : ∀ W : Stay (w.alloc (.cells #[.int .i64 i, .int .u64 (k : Int)] 46)), W.w.cell? ⟨w.heap.size, 1, none⟩ = some (.int .u64 (k : Int)) := fun W => Stay.cell (blk_cell hq 1) W
  have yq : ∀ W : Stay (w.alloc (.cells #[.int .i64 i, .int .u64 (k : Int)] 46)), W.w.cell? ⟨q, 0, none⟩ = some (.slice A s.has.length c) := fun W => Stay.cell (blk_cell hx2.blk 0) W
  have c1 := hx.c1
  have HA := Lib.hid hx2.has
  clear hx hx2 hq
  obtain ⟨L, hL⟩ : ∃ L, L = s.live i k := ⟨_, rfl⟩
  rw [← hL]
  have hout : s.has.length ≤ i.toNat → s.at_ i.toNat = 0 := fun h => Ar.at_out h
  by_cases ci : 0 ≤ i
  · by_cases cn : i < (s.has.length : Int)
    · by_cases ck : k = 0
      · have HLV : Hid (L = false) := Lib.hid (hL.trans (Ar.live_no fun h => h.2.1 ck))
        have kk : ((k : Int) != 0) = false := by simp [ck]
        have di : decide (0 ≤ i) = true := by simpa using ci
        have dn : decide (i < (s.has.length : Int)) = true := by simpa using cn
        clear hL ck hout HA
        generalize s.has.length = n at *
        go_enter Try.func46, Try.ntmps46
        go_upto_region 1 with fail
        change Code.wp _ _ _ _ (w.alloc (.cells #[.int .i64 i, .int .u64 (k : Int)] 46))
        generalize w.alloc (.cells #[.int .i64 i, .int .u64 (k : Int)] 46) = u at *
        refine wp_region_stay (by kernel_rfl) (by kernel_rfl) ?_
        repeat (go_big_quiet_step (fail))
        refine wpQuiet_nil ?_
        intro w' hw'
        obtain ⟨W, rfl⟩ := hw'
        go_wp2_with fail
        go_ret
        exact ⟨by rw [HLV.out] <;> rfl, HBU.out.trans (W.below.mono HBU.out.size)⟩
      · have kk : ((k : Int) != 0) = true := by simp; omega
        have di : decide (0 ≤ i) = true := by simpa using ci
        have dn : decide (i < (s.has.length : Int)) = true := by simpa using cn
        rcases HA.out with h0 | ⟨b, off, rfl, _, hlt, hcl⟩
        · omega
        obtain ⟨j, rfl⟩ := Int.eq_ofNat_of_zero_le ci
        have hcl2 := hcl j (by omega)
        have yb : ∀ W : Stay (w.alloc (.cells #[.int .i64 (j : Int), .int .u64 (k : Int)] 46)), W.w.cell? ⟨b, off + j, none⟩ = some (.int .u64 (s.at_ j : Int)) := fun W => Stay.cell hcl2 W
        have i2 : ((j : Int)).toNat = j := by omega
        rw [i2] at hout
        have hLL : L = (s.at_ j == k) := by
          rw [hL]
          by_cases e : s.at_ j = k
          · rw [Ar.live_yes ⟨by omega, ck, by rw [i2]; exact e⟩]; simp [e]
          · rw [Ar.live_no (fun h => e (by have := h.2.2; rw [i2] at this; exact this))]; simp [e]
        have HLV : Hid (L = ((s.at_ j : Int) == (k : Int))) := Lib.hid (by
          rw [hLL, Bool.eq_iff_iff, beq_iff_eq, beq_iff_eq]
          omega)
        clear hL hLL ck hout HA hcl hcl2
        generalize s.at_ j = v at *
        generalize s.has.length = n at *
        go_enter Try.func46, Try.ntmps46
        go_upto_region 1 with fail
        change Code.wp _ _ _ _ (w.alloc (.cells #[.int .i64 (j : Int), .int .u64 (k : Int)] 46))
        generalize w.alloc (.cells #[.int .i64 (j : Int), .int .u64 (k : Int)] 46) = u at *
        refine wp_region_stay (by kernel_rfl) (by kernel_rfl) ?_
        repeat (go_big_quiet_step (fail))
        refine wpQuiet_nil ?_
        intro w' hw'
        obtain ⟨W, rfl⟩ := hw'
        go_wp2_with fail
        go_ret
        exact ⟨by rw [HLV.out] <;> rfl, HBU.out.trans (W.below.mono HBU.out.size)⟩
    · have HLV : Hid (L = false) := Lib.hid (hL.trans (Ar.live_no fun h => by
        have := hout (by omega)
        omega))
      have di : decide (0 ≤ i) = true := by simpa using ci
      have dn : decide (i < (s.has.length : Int)) = false := by simpa using cn
      clear hL hout HA
      generalize s.has.length = n at *
      go_enter Try.func46, Try.ntmps46
      go_upto_region 1 with fail
      change Code.wp _ _ _ _ (w.alloc (.cells #[.int .i64 i, .int .u64 (k : Int)] 46))
      generalize w.alloc (.cells #[.int .i64 i, .int .u64 (k : Int)] 46) = u at *
      refine wp_region_stay (by kernel_rfl) (by kernel_rfl) ?_
      repeat (go_big_quiet_step (fail))
      refine wpQuiet_nil ?_
      intro w' hw'
      obtain ⟨W, rfl⟩ := hw'
      go_wp2_with fail
      go_ret
      exact ⟨by rw [HLV.out] <;> rfl, HBU.out.trans (W.below.mono HBU.out.size)⟩
  · have HLV : Hid (L = false) := Lib.hid (hL.trans (Ar.live_no fun h => ci h.1))
    have di : decide (0 ≤ i) = false := by simpa using ci
    clear hL hout HA
    generalize s.has.length = n at *
    go_enter Try.func46, Try.ntmps46
    go_upto_region 1 with fail
    change Code.wp _ _ _ _ (w.alloc (.cells #[.int .i64 i, .int .u64 (k : Int)] 46))
    generalize w.alloc (.cells #[.int .i64 i, .int .u64 (k : Int)] 46) = u at *
    refine wp_region_stay (by kernel_rfl) (by kernel_rfl) ?_
    repeat (go_big_quiet_step (fail))
    refine wpQuiet_nil ?_
    intro w' hw'
    obtain ⟨W, rfl⟩ := hw'
    go_wp2_with fail
    go_ret
    exact ⟨by rw [HLV.out] <;> rfl, HBU.out.trans (W.below.mono HBU.out.size)⟩
end Go.Proofs.Ytkmakdhlaenaoaa
