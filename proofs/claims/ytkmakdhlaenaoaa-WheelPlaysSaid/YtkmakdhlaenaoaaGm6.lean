import Derived.Test.YtkmakdhlaenaoaaGm5
/- Stage 9: the document's which and Live. -/
namespace Go.Proofs.Ytkmakdhlaenaoaa
set_option maxRecDepth 100000
open Go.RowKit
/-- The cell that is taken next, as a number. -/
def Ar.whichI (s : Ar) : Int := match s.which with
  | some i => (i : Int)
  | none => -1
theorem Ar.which_last {s : Ar} {m : Nat} (h : s.freed.length = m + 1) : s.which = some (s.freed.getD m 0) := by
  unfold Ar.which
  have e : s.freed.getLast? = some (s.freed.getD m 0) := by
    rw [List.getLast?_eq_getElem?, h, List.getD_eq_getElem?_getD]
    have : m < s.freed.length := by omega
    rw [show m + 1 - 1 = m by omega, List.getElem?_eq_getElem this]
    rfl
  rw [e]
theorem Ar.which_first {s : Ar} {k : Nat} (h : s.freed.length = 0) (hk : k < s.has.length) (h0 : s.at_ k = 0) (hl : ∀ j, j < k → s.at_ j ≠ 0) : s.which = some k := by
  unfold Ar.which
  rw [List.length_eq_zero_iff.1 h]
  show s.has.findIdx? (· == 0) = some k
  rw [List.findIdx?_eq_some_iff_getElem]
  refine ⟨hk, ?_, fun j hj => ?_⟩
  · have e := h0
    unfold Ar.at_ at e
    rw [List.getElem?_eq_getElem hk] at e
    simpa using e
  · have e := hl j hj
    unfold Ar.at_ at e
    rw [List.getElem?_eq_getElem (by omega)] at e
    simpa using e
theorem Ar.which_no {s : Ar} (h : s.freed.length = 0) (hl : ∀ j, j < s.has.length → s.at_ j ≠ 0) : s.which = none := by
  unfold Ar.which
  rw [List.length_eq_zero_iff.1 h]
  show s.has.findIdx? (· == 0) = none
  rw [List.findIdx?_eq_none_iff]
  intro x hx
  obtain ⟨j, hj, rfl⟩ := List.mem_iff_getElem.1 hx
  have e := hl j hj
  unfold Ar.at_ at e
  rw [List.getElem?_eq_getElem hj] at e
  simpa using e
set_option maxHeartbeats 1000000 in
theorem rwhich_any {w : World} {q : Nat} {s : Ar} {G : Nat → Prop} (h : RA w q s G) (hn : s.has.length ≤ 65536) : Calls Try.prog 79 #[.pointer (some ⟨q, 0, none⟩)] w fun e w' => e = .returned (.int .i64 s.whichI) ∧ Below w.heap.size w w' := by
  obtain ⟨A, c, B, d, hx⟩ := h
  have HX := Lib.hid hx
  have x0 : w.cell? ⟨q, 0, none⟩ = some (.slice A s.has.length c) := blk_cell hx.blk 0
  have x1 : w.cell? ⟨q, 1, none⟩ = some (.slice B s.freed.length d) := blk_cell hx.blk 1
  have c1 := hx.c1
  have d1 := hx.d1
  have d2 := hx.d2
  have HL : Hid (∀ m, s.freed.length = m + 1 → s.whichI = ((s.freed.getD m 0 : Nat) : Int)) := Lib.hid fun m h => by unfold Ar.whichI; rw [Ar.which_last h]
  have HF : Hid (s.freed.length = 0 → ∀ k, k < s.has.length → s.at_ k = 0 → (∀ j, j < k → s.at_ j ≠ 0) → s.whichI = (k : Int)) := Lib.hid fun h k h1 h2 h3 => by unfold Ar.whichI; rw [Ar.which_first h h1 h2 h3]
  have HN : Hid (s.freed.length = 0 → (∀ j, j < s.has.length → s.at_ j ≠ 0) → s.whichI = -1) := Lib.hid fun h h1 => by unfold Ar.whichI; rw [Ar.which_no h h1]
  have HA := Lib.hid hx.has
  have HB := Lib.hid hx.free
  clear hx HX
  generalize s.whichI = R at *
  generalize hfr : (fun k => s.freed.getD k 0) = fr at *
  have hfr' : ∀ k, s.freed.getD k 0 = fr k := fun k => by rw [← hfr]
  clear hfr
  simp only [hfr'] at HL HB
  clear hfr'
  generalize s.at_ = ha at *
  generalize s.freed.length = m at *
  generalize s.has.length = n at *
  cases m with
  | succ m =>
    have hR := HL.out m rfl
    rcases HB.out with h0 | ⟨b, off, rfl, _, hlt, hcl⟩
    · exact absurd h0 (by omega)
    have xb : w.cell? ⟨b, off + m, none⟩ = some (.int .i64 (fr m : Int)) := hcl m (by omega)
    have z1 : ((m + 1 : Nat) : Int) > 0 := by omega
    have zw : IntKind.i64.wrap ((m : Int) + 1 - 1) = (m : Int) := by rw [IntKind.wrap_i64]; omega
    have zw2 : IntKind.i64.wrap (m : Int) = (m : Int) := by rw [IntKind.wrap_i64]; omega
    have i0 : (0 : Int) ≤ (m : Int) := by omega
    have i1 : (m : Int) < ((m + 1 : Nat) : Int) := by omega
    have i3 : (m : Int) < (m : Int) + 1 := by omega
    have i2 : ((m : Int)).toNat = m := by omega
    have HR := Lib.hid hR
    clear hR hcl HL HF HN HA HB
    go_enter Try.func79, Try.ntmps79
    go_upto_region 2 with fail
    have y1 : ∀ W : Stay w, W.w.cell? ⟨q, 1, none⟩ = some (.slice (some ⟨b, off, none⟩) (m + 1) d) := fun W => Stay.cell x1 W
    have yb : ∀ W : Stay w, W.w.cell? ⟨b, off + m, none⟩ = some (.int .i64 (fr m : Int)) := fun W => Stay.cell xb W
    refine wp_region_stay (by kernel_rfl) (by kernel_rfl) ?_
    repeat (go_big_quiet_step (fail))
    refine wpQuiet_nil ?_
    intro w' hw'
    obtain ⟨W, rfl⟩ := hw'
    go_wp2_with fail
    go_ret
    exact ⟨by rw [HR.out] <;> rfl, W.below⟩
  | zero =>
    have HF0 := Lib.hid (HF.out rfl)
    have HN0 := Lib.hid (HN.out rfl)
    clear HL HB HF HN
    go_enter Try.func79, Try.ntmps79
    go_wp2_with fail
    go_loopw [3] (fun i wr => ∃ k : Nat, k ≤ n ∧ i = .int .i64 (k : Int) ∧ Hid (∀ j, j < k → ha j ≠ 0) ∧ wr = w) (fun i _ => n - (intOf i).toNat)
    case atStart => exact ⟨0, Nat.zero_le _, rfl, Lib.hid fun j hj => absurd hj (by omega), rfl⟩
    case round =>
      obtain ⟨k, hk, rfl, hl, rfl⟩ := hrel
      have HJ := Lib.hid hl.out
      clear hl
      by_cases hkn : k < n
      · rcases HA.out with h0 | ⟨b, off, rfl, _, hlt, hcl⟩
        · omega
        have xb : wr.cell? ⟨b, off + k, none⟩ = some (.int .u64 (ha k : Int)) := hcl k hkn
        have i0 : (0 : Int) ≤ (k : Int) := by omega
        have i1 : (k : Int) < (n : Int) := by omega
        have i2 : ((k : Int)).toNat = k := by omega
        have zw : IntKind.i64.wrap ((k : Int) + 1) = (k : Int) + 1 := by rw [IntKind.wrap_i64]; omega
        by_cases h0 : ha k = 0
        · have hR := HF0.out k hkn h0 HJ.out
          have HR := Lib.hid hR
          have k0 : ((ha k : Int) == 0) = true := by simp [h0]
          clear hR h0 hcl HJ HF0 HN0
          go_wp2_with fail
          try rw [Exit.noGoto_ret]
          go_ret
          exact ⟨by rw [HR.out] <;> rfl, Below.refl _ _⟩
        · have k0 : ((ha k : Int) == 0) = false := by simp; omega
          have HJ2 : Hid (∀ j, j < k + 1 → ha j ≠ 0) := Lib.hid fun j hj => by
            by_cases e : j = k
            · rw [e]; exact h0
            · exact HJ.out j (by omega)
          clear h0 hcl HJ
          go_wp2_with fail
          go_roundw
          case rel => exact ⟨k + 1, by omega, by go_num, HJ2, trivial⟩
          case measure => simp [intOf]; omega
      · obtain rfl : n = k := by omega
        have HR := Lib.hid (HN0.out HJ.out)
        clear hkn HJ HF0 HN0
        go_wp2_with fail
        go_ret
        exact ⟨by rw [HR.out] <;> rfl, Below.refl _ _⟩
theorem Ar.live_no {s : Ar} {i : Int} {k : Nat} (h : ¬ (0 ≤ i ∧ k ≠ 0 ∧ s.at_ i.toNat = k)) : s.live i k = false := by
  cases e : s.live i k with
  | false => rfl
  | true => exact absurd (Ar.live_iff.1 e) h
theorem Ar.live_yes {s : Ar} {i : Int} {k : Nat} (h : 0 ≤ i ∧ k ≠ 0 ∧ s.at_ i.toNat = k) : s.live i k = true := Ar.live_iff.2 h
set_option maxHeartbeats 1000000 in
theorem rlive_any {w : World} {q : Nat} {s : Ar} {G : Nat → Prop} (h : RA w q s G) (_hn : s.has.length ≤ 65536) (i : Int) (k : Nat) : Calls Try.prog 46 #[.pointer (some ⟨q, 0, none⟩), .agg #[.int .i64 i, .int .u64 (k : Int)]] w fun e w' => e = .returned (.bool (s.live i k)) ∧ Below w.heap.size w w' := by
  obtain ⟨A, c, B, d, hx⟩ := h
  have HBU : Hid (Below w.heap.size w (w.alloc (.cells #[.int .i64 i, .int .u64 (k : Int)] 46))) := Lib.hid (below_alloc w _)
  have hx2 := hx.step HBU.out
  have hq : (w.alloc (.cells #[.int .i64 i, .int .u64 (k : Int)] 46)).heap[w.heap.size]? = some (.cells #[.int .i64 i, .int .u64 (k : Int)] 46 (0, 0)) := heap_alloc_new w _
  have y0 : ∀ W : Stay (w.alloc (.cells #[.int .i64 i, .int .u64 (k : Int)] 46)), W.w.cell? ⟨w.heap.size, 0, none⟩ = some (.int .i64 i) := fun W => Stay.cell (blk_cell hq 0) W
  have y1 : ∀ W : Stay (w.alloc (.cells #[.int .i64 i, .int .u64 (k : Int)] 46)), W.w.cell? ⟨w.heap.size, 1, none⟩ = some (.int .u64 (k : Int)) := fun W => Stay.cell (blk_cell hq 1) W
  have yq : ∀ W : Stay (w.alloc (.cells #[.int .i64 i, .int .u64 (k : Int)] 46)), W.w.cell? ⟨q, 0, none⟩ = some (.slice A s.has.length c) := fun W => Stay.cell (blk_cell hx2.blk 0) W
  have c1 := hx.c1
  have HA := Lib.hid hx2.has
  clear hx hx2 hq
  obtain ⟨L, hL⟩ : ∃ L, L = s.live i k := ⟨_, rfl⟩
  rw [← hL]
  have hout : s.has.length ≤ i.toNat → s.at_ i.toNat = 0 := fun h => Ar.at_out h
  by_cases ci : 0 ≤ i
  · by_cases cn : i < (s.has.length : Int)
    · by_cases ck : k = 0
      · have HLV : Hid (L = false) := Lib.hid (hL.trans (Ar.live_no fun h => h.2.1 ck))
        have kk : ((k : Int) != 0) = false := by simp [ck]
        have di : decide (0 ≤ i) = true := by simpa using ci
        have dn : decide (i < (s.has.length : Int)) = true := by simpa using cn
        clear hL ck hout HA
        generalize s.has.length = n at *
        go_enter Try.func46, Try.ntmps46
        go_upto_region 1 with fail
        change Code.wp _ _ _ _ (w.alloc (.cells #[.int .i64 i, .int .u64 (k : Int)] 46))
        generalize w.alloc (.cells #[.int .i64 i, .int .u64 (k : Int)] 46) = u at *
        refine wp_region_stay (by kernel_rfl) (by kernel_rfl) ?_
        repeat (go_big_quiet_step (fail))
        refine wpQuiet_nil ?_
        intro w' hw'
        obtain ⟨W, rfl⟩ := hw'
        go_wp2_with fail
        go_ret
        exact ⟨by rw [HLV.out] <;> rfl, HBU.out.trans (W.below.mono HBU.out.size)⟩
      · have kk : ((k : Int) != 0) = true := by simp; omega
        have di : decide (0 ≤ i) = true := by simpa using ci
        have dn : decide (i < (s.has.length : Int)) = true := by simpa using cn
        rcases HA.out with h0 | ⟨b, off, rfl, _, hlt, hcl⟩
        · omega
        obtain ⟨j, rfl⟩ := Int.eq_ofNat_of_zero_le ci
        have hcl2 := hcl j (by omega)
        have yb : ∀ W : Stay (w.alloc (.cells #[.int .i64 (j : Int), .int .u64 (k : Int)] 46)), W.w.cell? ⟨b, off + j, none⟩ = some (.int .u64 (s.at_ j : Int)) := fun W => Stay.cell hcl2 W
        have i2 : ((j : Int)).toNat = j := by omega
        rw [i2] at hout
        have hLL : L = (s.at_ j == k) := by
          rw [hL]
          by_cases e : s.at_ j = k
          · rw [Ar.live_yes ⟨by omega, ck, by rw [i2]; exact e⟩]; simp [e]
          · rw [Ar.live_no (fun h => e (by have := h.2.2; rw [i2] at this; exact this))]; simp [e]
        have HLV : Hid (L = ((s.at_ j : Int) == (k : Int))) := Lib.hid (by
          rw [hLL, Bool.eq_iff_iff, beq_iff_eq, beq_iff_eq]
          omega)
        clear hL hLL ck hout HA hcl hcl2
        generalize s.at_ j = v at *
        generalize s.has.length = n at *
        go_enter Try.func46, Try.ntmps46
        go_upto_region 1 with fail
        change Code.wp _ _ _ _ (w.alloc (.cells #[.int .i64 (j : Int), .int .u64 (k : Int)] 46))
        generalize w.alloc (.cells #[.int .i64 (j : Int), .int .u64 (k : Int)] 46) = u at *
        refine wp_region_stay (by kernel_rfl) (by kernel_rfl) ?_
        repeat (go_big_quiet_step (fail))
        refine wpQuiet_nil ?_
        intro w' hw'
        obtain ⟨W, rfl⟩ := hw'
        go_wp2_with fail
        go_ret
        exact ⟨by rw [HLV.out] <;> rfl, HBU.out.trans (W.below.mono HBU.out.size)⟩
    · have HLV : Hid (L = false) := Lib.hid (hL.trans (Ar.live_no fun h => by
        have := hout (by omega)
        omega))
      have di : decide (0 ≤ i) = true := by simpa using ci
      have dn : decide (i < (s.has.length : Int)) = false := by simpa using cn
      clear hL hout HA
      generalize s.has.length = n at *
      go_enter Try.func46, Try.ntmps46
      go_upto_region 1 with fail
      change Code.wp _ _ _ _ (w.alloc (.cells #[.int .i64 i, .int .u64 (k : Int)] 46))
      generalize w.alloc (.cells #[.int .i64 i, .int .u64 (k : Int)] 46) = u at *
      refine wp_region_stay (by kernel_rfl) (by kernel_rfl) ?_
      repeat (go_big_quiet_step (fail))
      refine wpQuiet_nil ?_
      intro w' hw'
      obtain ⟨W, rfl⟩ := hw'
      go_wp2_with fail
      go_ret
      exact ⟨by rw [HLV.out] <;> rfl, HBU.out.trans (W.below.mono HBU.out.size)⟩
  · have HLV : Hid (L = false) := Lib.hid (hL.trans (Ar.live_no fun h => ci h.1))
    have di : decide (0 ≤ i) = false := by simpa using ci
    clear hL hout HA
    generalize s.has.length = n at *
    go_enter Try.func46, Try.ntmps46
    go_upto_region 1 with fail
    change Code.wp _ _ _ _ (w.alloc (.cells #[.int .i64 i, .int .u64 (k : Int)] 46))
    generalize w.alloc (.cells #[.int .i64 i, .int .u64 (k : Int)] 46) = u at *
    refine wp_region_stay (by kernel_rfl) (by kernel_rfl) ?_
    repeat (go_big_quiet_step (fail))
    refine wpQuiet_nil ?_
    intro w' hw'
    obtain ⟨W, rfl⟩ := hw'
    go_wp2_with fail
    go_ret
    exact ⟨by rw [HLV.out] <;> rfl, HBU.out.trans (W.below.mono HBU.out.size)⟩
end Go.Proofs.Ytkmakdhlaenaoaa
/- Stage 9: the document's Copy and Take. -/
namespace Go.Proofs.Ytkmakdhlaenaoaa
set_option maxRecDepth 100000
open Go.RowKit
set_option maxHeartbeats 1000000 in
theorem rcopyX_any {w : World} {q : Nat} {A : Option Addr} {n c : Nat} {B : Option Addr} {m d S : Nat} {ha fr : Nat → Nat} {G : Nat → Prop} (h : RX w q A n c B m d S ha fr G) :
    Calls Try.prog 53 #[.pointer (some ⟨q, 0, none⟩)] w fun e w' => ∃ b, e = .returned (.pointer (some ⟨b, 0, none⟩)) ∧ w.heap.size ≤ b ∧ RX w' b A n c B m d S ha fr (fun k => G k ∨ k = b) ∧ Below w.heap.size w w' := by
  have HX := Lib.hid h
  have HX0 : Hid (w.cell? ⟨q, 0, none⟩ = some (.slice A n c)) := Lib.hid (blk_cell h.blk 0)
  have HX1 : Hid (w.cell? ⟨q, 1, none⟩ = some (.slice B m d)) := Lib.hid (blk_cell h.blk 1)
  have HX2 : Hid (w.cell? ⟨q, 2, none⟩ = some (.int .u64 (S : Int))) := Lib.hid (blk_cell h.blk 2)
  have HQL := Lib.hid (lt_heap h.blk)
  have hbd : ∀ w, (Instr.build 105 #[(0, .slice A n c), (1, .slice B m d), (2, .int .u64 (S : Int))]).run Try.prog w = .ok (.agg #[.slice A n c, .slice B m d, .int .u64 (S : Int)]) w := fun w => by kernel_rfl
  clear h
  go_enter Try.func53, Try.ntmps53
  go_upto_region 1 with fail
  refine wp_region_grow (C := fun W => Below w.heap.size w W) 15 17 [val (.pointer (some ⟨q, 0, none⟩)), val (.pointer (some ⟨q, 0, none⟩)), val (.pointer (some ⟨q, 0, none⟩)), val (.slice A n c), val (.pointer (some ⟨q, 0, none⟩)), val (.pointer (some ⟨q, 0, none⟩)), val (.pointer (some ⟨q, 1, none⟩)), val (.slice B m d), val (.pointer (some ⟨q, 0, none⟩)), val (.pointer (some ⟨q, 0, none⟩)), val (.pointer (some ⟨q, 2, none⟩)), val (.int .u64 (S : Int)), val (.agg #[.slice A n c, .slice B m d, .int .u64 (S : Int)]), (fun v W => ∃ b, v = .pointer (some ⟨b, 0, none⟩) ∧ w.heap.size ≤ b ∧ W.heap[b]? = some (.cells #[.slice A n c, .slice B m d, .int .u64 (S : Int)] 105 (0, 0))), (fun v W => ∃ b, v = .pointer (some ⟨b, 0, none⟩) ∧ w.heap.size ≤ b ∧ W.heap[b]? = some (.cells #[.slice A n c, .slice B m d, .int .u64 (S : Int)] 105 (0, 0)))] (by kernel_rfl) rfl (by kernel_rfl) rfl ⟨stb_val _, stb_val _, stb_val _, stb_val _, stb_val _, stb_val _, stb_val _, stb_val _, stb_val _, stb_val _, stb_val _, stb_val _, stb_val _, (fun _ _ _ ⟨b, h, hl, ho⟩ hb => ⟨b, h, hl, (hb.block _ (lt_heap ho)).trans ho⟩), (fun _ _ _ ⟨b, h, hl, ho⟩ hb => ⟨b, h, hl, (hb.block _ (lt_heap ho)).trans ho⟩), trivial⟩ (Below.refl _ _).drew ?_ ?_
  · refine each_cons ?_ ?_
    · intro a W hW hd
      have h0 : a.tmps[0]?.getD undef = .pointer (some ⟨q, 0, none⟩) := slot_eq (hd 0 (by decide))
      exact grows_value _ hW (by simp [execOp, Act.eval, h0]) rfl
    refine each_cons ?_ ?_
    · intro a W hW hd
      have h3 : a.tmps[3]?.getD undef = .pointer (some ⟨q, 0, none⟩) := slot_eq (hd 3 (by decide))
      refine grows_value _ hW (?_ : _ = _) rfl
      clear hd
      go_simp
    refine each_cons ?_ ?_
    · intro a W hW hd
      have h4 : a.tmps[4]?.getD undef = .pointer (some ⟨q, 0, none⟩) := slot_eq (hd 4 (by decide))
      refine grows_value _ hW (?_ : _ = _) rfl
      clear hd
      go_simp
    refine each_cons ?_ ?_
    · intro a W hW hd
      have h5 : a.tmps[5]?.getD undef = .pointer (some ⟨q, 0, none⟩) := slot_eq (hd 5 (by decide))
      have xx : W.cell? ⟨q, 0, none⟩ = some (.slice A n c) := (hW.cell (p := ⟨q, 0, none⟩) HQL.out).trans HX0.out
      refine grows_value _ hW (?_ : _ = _) rfl
      clear hd
      go_simp
    refine each_cons ?_ ?_
    · intro a W hW hd
      have h0 : a.tmps[0]?.getD undef = .pointer (some ⟨q, 0, none⟩) := slot_eq (hd 0 (by decide))
      exact grows_value _ hW (by simp [execOp, Act.eval, h0]) rfl
    refine each_cons ?_ ?_
    · intro a W hW hd
      have h7 : a.tmps[7]?.getD undef = .pointer (some ⟨q, 0, none⟩) := slot_eq (hd 7 (by decide))
      refine grows_value _ hW (?_ : _ = _) rfl
      clear hd
      go_simp
    refine each_cons ?_ ?_
    · intro a W hW hd
      have h8 : a.tmps[8]?.getD undef = .pointer (some ⟨q, 0, none⟩) := slot_eq (hd 8 (by decide))
      refine grows_value _ hW (?_ : _ = _) rfl
      clear hd
      go_simp
    refine each_cons ?_ ?_
    · intro a W hW hd
      have h9 : a.tmps[9]?.getD undef = .pointer (some ⟨q, 1, none⟩) := slot_eq (hd 9 (by decide))
      have xx : W.cell? ⟨q, 1, none⟩ = some (.slice B m d) := (hW.cell (p := ⟨q, 1, none⟩) HQL.out).trans HX1.out
      refine grows_value _ hW (?_ : _ = _) rfl
      clear hd
      go_simp
    refine each_cons ?_ ?_
    · intro a W hW hd
      have h0 : a.tmps[0]?.getD undef = .pointer (some ⟨q, 0, none⟩) := slot_eq (hd 0 (by decide))
      exact grows_value _ hW (by simp [execOp, Act.eval, h0]) rfl
    refine each_cons ?_ ?_
    · intro a W hW hd
      have h11 : a.tmps[11]?.getD undef = .pointer (some ⟨q, 0, none⟩) := slot_eq (hd 11 (by decide))
      refine grows_value _ hW (?_ : _ = _) rfl
      clear hd
      go_simp
    refine each_cons ?_ ?_
    · intro a W hW hd
      have h12 : a.tmps[12]?.getD undef = .pointer (some ⟨q, 0, none⟩) := slot_eq (hd 12 (by decide))
      refine grows_value _ hW (?_ : _ = _) rfl
      clear hd
      go_simp
    refine each_cons ?_ ?_
    · intro a W hW hd
      have h13 : a.tmps[13]?.getD undef = .pointer (some ⟨q, 2, none⟩) := slot_eq (hd 13 (by decide))
      have xx : W.cell? ⟨q, 2, none⟩ = some (.int .u64 (S : Int)) := (hW.cell (p := ⟨q, 2, none⟩) HQL.out).trans HX2.out
      refine grows_value _ hW (?_ : _ = _) rfl
      clear hd
      go_simp
    refine each_cons ?_ ?_
    · intro a W hW hd
      have h6 : a.tmps[6]?.getD undef = .slice A n c := slot_eq (hd 6 (by decide))
      have h10 : a.tmps[10]?.getD undef = .slice B m d := slot_eq (hd 10 (by decide))
      have h14 : a.tmps[14]?.getD undef = .int .u64 (S : Int) := slot_eq (hd 14 (by decide))
      refine grows_value _ hW (?_ : _ = _) rfl
      have hb := hbd W
      clear hd
      simp [execOp, Act.eval, h6, h10, h14, hb]
    refine each_cons ?_ ?_
    · intro a W hW hd
      have h15 : a.tmps[15]?.getD undef = .agg #[.slice A n c, .slice B m d, .int .u64 (S : Int)] := slot_eq (hd 15 (by decide))
      refine grows_new (.pointer (some ⟨W.heap.size, 0, none⟩)) (w' := W.alloc (.cells #[.slice A n c, .slice B m d, .int .u64 (S : Int)] 105)) (?_ : _ = _) ⟨_, rfl, hW.size, heap_alloc_new W _⟩ (below_alloc _ _) (hW.alloc hW.size _)
      clear hd
      go_simp
    refine each_cons ?_ ?_
    · intro a W hW hd
      obtain ⟨b, h16, hl, ho⟩ := hd 16 (by decide)
      have h16' : a.tmps[16]?.getD undef = .pointer (some ⟨b, 0, none⟩) := slot_eq h16
      exact grows_value (.pointer (some ⟨b, 0, none⟩)) hW (by simp [execOp, Act.eval, h16']) ⟨b, rfl, hl, ho⟩
    exact each_nil
  · refine behind_val rfl ?_
    refine behind_val rfl ?_
    refine behind_val rfl ?_
    refine behind_val rfl ?_
    refine behind_val rfl ?_
    refine behind_val rfl ?_
    refine behind_val rfl ?_
    refine behind_val rfl ?_
    refine behind_val rfl ?_
    refine behind_val rfl ?_
    refine behind_val rfl ?_
    refine behind_val rfl ?_
    refine behind_val rfl ?_
    refine behind_cons fun v16 => ?_
    refine behind_cons fun v2 => ?_
    refine behind_nil fun W1 hCW1 hFW1 => ?_
    simp only [Act.put, List.setIfInBounds_toArray, List.set_cons_succ, List.set_cons_zero, List.drop_succ_cons, List.drop_zero]
    obtain ⟨_, b, rfl, hl, ho⟩ := hFW1
    have HO := Lib.hid ho
    have HL := Lib.hid hl
    have HC := Lib.hid hCW1
    clear ho hl hCW1
    go_wp2_with fail
    go_ret
    have hlt := lt_heap HO.out
    refine ⟨b, rfl, HL.out, ?_, HC.out⟩
    have hk := HX.out.step HC.out
    refine ⟨HO.out, .inr rfl, fun k h => ?_, ?_, ?_, hk.c1, hk.c2, hk.d1, hk.d2⟩
    · rcases h with h | rfl
      · exact hk.old k h
      · exact hlt
    · exact hk.has.mono fun k h => ⟨.inl h.1, fun e => by have := HX.out.old k h.1; have := HL.out; omega⟩
    · exact hk.free.mono fun k h => ⟨.inl h.1, fun e => by have := HX.out.old k h.1; have := HL.out; omega⟩
theorem rcopy_any {w : World} {q : Nat} {s : Ar} {G : Nat → Prop} (h : RA w q s G) :
    Calls Try.prog 53 #[.pointer (some ⟨q, 0, none⟩)] w fun e w' => ∃ b, e = .returned (.pointer (some ⟨b, 0, none⟩)) ∧ w.heap.size ≤ b ∧ RA w' b s (fun k => G k ∨ k = b) ∧ Below w.heap.size w w' := by
  obtain ⟨A, c, B, d, h⟩ := h
  refine (rcopyX_any h).mono ?_
  rintro e w' ⟨b, he, hl, hx, hb⟩
  exact ⟨b, he, hl, ⟨A, c, B, d, hx⟩, hb⟩
end Go.Proofs.Ytkmakdhlaenaoaa
