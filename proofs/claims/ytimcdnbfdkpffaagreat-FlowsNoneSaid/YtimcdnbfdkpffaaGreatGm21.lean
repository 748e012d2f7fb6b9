import Derived.Test.YtimcdnbfdkpffaaGreatGm20
import Derived.WalkKit
import Derived.OwnWalkIn
import Derived.TacticsInMore
import Derived.LoopNIn
import Derived.LoopIn
import Derived.Test.YtimcdnbfdkpffaaGreatGm3
/- Stage 13: the landed table: an entry laid, a mark laid; Get, Drop. -/
namespace Go.Proofs.YtimcdnbfdkpffaaGreat
set_option maxRecDepth 100000
open Go.RowKit Go.Shelf
theorem wrap_up {n : Nat} (h : n ≤ 262144) : wrap64 ((n : Int) + 1) = ((n + 1 : Nat) : Int) := by
  rw [← IntWalk.i64_left, IntKind.wrap_i64]
  omega
theorem wrap_dn {n : Nat} (h : n + 1 ≤ 262144) : wrap64 (((n + 1 : Nat) : Int) - 1) = (n : Int) := by
  rw [← IntWalk.i64_left, IntKind.wrap_i64]
  omega
section
variable {w : World} {p g c : Nat} {e : Int} {s : Tb} {F : Nat → Prop}
theorem PTX.top (h : PTX w p g c e s F) : s.n ≤ 262144 := (PTY.pos h).2
theorem tlay_put (h : PTX w p g c e s F) {k : Nat} (hk : k < s.n) (hf : s.ful k = false) (y x : Nat) : Calls Tryz.prog 154 #[.pointer (some ⟨p, 0, none⟩), .int .i64 (k : Int), .agg #[.int .u8 1, .int .u64 (y : Int), .int .u32 (x : Int)]] w fun r w' => r = .returned (.tuple #[]) ∧ (∃ e', PTX w' p g c e' (s.put k y x) F) ∧ Kept F w w' := by
  have ht := h.top
  have he := put_entries s (h := y) (x := x) hk hf
  have hle := cntI_le s.ful s.n
  have hlm := cntI_le s.mrk s.n
  have hle' : s.entries ≤ 262144 := Nat.le_trans hle ht
  have hlm' : s.marks ≤ 262144 := Nat.le_trans hlm ht
  cases hm : s.mrk k with
  | true =>
    have hc : tcl s (k * 3) = .int .u8 2 := by rw [tcl_0, stc_mrk hf hm]; rfl
    have hk2 := put_marks1 s (h := y) (x := x) hk hm
    refine (tlay_21 h hk hc (y : Int) (x : Int)).mono ?_
    rintro r w' ⟨rfl, hy, hkk⟩
    refine ⟨rfl, ?_, hkk⟩
    rw [← hk2, wrap_dn (by omega), wrap_up hle', ← he] at hy
    exact ⟨_, PTY.same hy fun j => tcl_put s k y x j⟩
  | false =>
    have hc : tcl s (k * 3) = .int .u8 0 := by rw [tcl_0, stc_no hf hm]; rfl
    have hk2 := put_marks0 s (h := y) (x := x) hk hm
    refine (tlay_01 h hk hc (y : Int) (x : Int)).mono ?_
    rintro r w' ⟨rfl, hy, hkk⟩
    refine ⟨rfl, ?_, hkk⟩
    rw [← hk2, wrap_up hle', ← he] at hy
    exact ⟨_, PTY.same hy fun j => tcl_put s k y x j⟩
theorem tlay_gone (h : PTX w p g c e s F) {k : Nat} (hk : k < s.n) (hf : s.ful k = true) (hm : s.mrk k = false) : Calls Tryz.prog 154 #[.pointer (some ⟨p, 0, none⟩), .int .i64 (k : Int), .agg #[.int .u8 2, .int .u64 0, .int .u32 0]] w fun r w' => r = .returned (.tuple #[]) ∧ (∃ e', PTX w' p g c e' (s.gone k) F) ∧ Kept F w w' := by
  have ht := h.top
  have he := gone_entries s hk hf
  have hle := cntI_le s.ful s.n
  have hlm := cntI_le s.mrk s.n
  have hle' : s.entries ≤ 262144 := Nat.le_trans hle ht
  have hlm' : s.marks ≤ 262144 := Nat.le_trans hlm ht
  have hc : tcl s (k * 3) = .int .u8 1 := by rw [tcl_0, stc_ful hf]; rfl
  have hk2 := gone_marks s hk hm
  refine (tlay_12 h hk hc 0 0).mono ?_
  rintro r w' ⟨rfl, hy, hkk⟩
  refine ⟨rfl, ?_, hkk⟩
  rw [← he, wrap_dn (by omega), wrap_up hlm', ← hk2] at hy
  exact ⟨_, PTY.same hy fun j => tcl_gone s k j⟩
theorem tget_out {pa : Option Addr} {i : Int} (hc : ∀ W, Below w.heap.size w W → Calls Tryz.prog 152 #[.pointer pa, .int .i64 i] W (ret (.bool false) W)) : Calls Tryz.prog 100 #[.pointer pa, .int .i64 i] w (ret (.tuple #[.agg #[.int .u64 0, .int .u32 0], .bool false]) w) := by
  have HC := Lib.hid hc
  clear hc
  have HZ : Hid ((w.alloc (.cells #[.int .u64 0, .int .u32 0] 99)).heap[w.heap.size]? = some (.cells #[.int .u64 0, .int .u32 0] 99 (0, 0))) := Lib.hid (heap_alloc_new w _)
  have HB : Hid (Below w.heap.size w (w.alloc (.cells #[.int .u64 0, .int .u32 0] 99))) := Lib.hid (below_alloc w _)
  go_enter Tryz.func100, Tryz.ntmps100
  go_upto_region 1 with fail
  change Code.wp _ _ _ _ (w.alloc (.cells #[.int .u64 0, .int .u32 0] 99))
  generalize hv : w.alloc (.cells #[.int .u64 0, .int .u32 0] 99) = v at *
  clear hv
  go_upto_region 2 with (first
    | (go_at_call 152
       refine (HC.out _ HB.out).mono ?_
       rintro e u ⟨rfl, hb⟩
       have HBu := Lib.hid (HB.out.trans (hb.mono HB.out.size))
       have HZu : Hid (u.heap[w.heap.size]? = some (.cells #[.int .u64 0, .int .u32 0] 99 (0, 0))) := Lib.hid ((hb.block _ (lt_heap HZ.out)).trans HZ.out)
       clear hb))
  go_wp2_with (first
    | (refine wpList_store_row rfl 99 (.tmp 4) (.tmp 21) rfl w.heap.size #[.int .u64 0, .int .u32 0] rfl rfl 99 #[.int .u64 0, .int .u32 0] HZu.out (by kernel_rfl) rfl (by simp [Value.oneCell']) ?_))
  refine bodyPost_ret (v := .tuple #[.agg #[.int .u64 0, .int .u32 0], .bool false]) (results_rowa Tryz.results100 _ _ w.heap.size 99 #[.int .u64 0, .int .u32 0] (0, 0) _ rfl (setRow_heap _ w.heap.size _ #[.int .u64 0, .int .u32 0] _ _ HZu.out) Tryz.underlying99 rfl (by kernel_rfl)) rfl ?_
  exact ⟨rfl, below_setRow HBu.out (Nat.le_refl _) _⟩
set_option maxHeartbeats 1000000 in
theorem tget_free (h : PTX w p g c e s F) {k : Nat} (hk : k < s.n) (hf : s.ful k = false) : Calls Tryz.prog 100 #[.pointer (some ⟨p, 0, none⟩), .int .i64 (k : Int)] w (ret (.tuple #[.agg #[.int .u64 0, .int .u32 0], .bool false]) w) := by
  have HX := Lib.hid h
  have HC : Hid (∀ W, Below w.heap.size w W → Calls Tryz.prog 152 #[.pointer (some ⟨p, 0, none⟩), .int .i64 (k : Int)] W (ret (.bool true) W)) := Lib.hid fun W hW => by
    have := thas_c W p _ s.n c (blk_cell (PTY.step h hW).blk 0) (k : Int)
    rwa [show hasB s.n (k : Int) = true from by unfold hasB; simp; omega] at this
  have i0 : (0 : Int) ≤ (k : Int) := by omega
  have i1 : (k : Int) < (s.n : Int) := by omega
  have i2 : ((k : Int)).toNat = k := by omega
  have cap := PTY.cap h
  have cap9 := PTY.cap9 h
  have HCE : Hid (∀ W, Below w.heap.size w W → W.cell? ⟨g, k * 3, none⟩ = some (.int .u8 (stc s k : Int)) ∧ W.cell? ⟨g, k * 3 + 1, none⟩ = some (.int .u64 (s.eh k : Int)) ∧ W.cell? ⟨g, k * 3 + 2, none⟩ = some (.int .u32 (s.ew k : Int))) := Lib.hid fun W hW => ⟨PTX.c0 (PTY.step h hW) hk, PTX.c1 (PTY.step h hW) hk, PTX.c2 (PTY.step h hW) hk⟩
  obtain ⟨a, ha⟩ : ∃ a, a = stc s k := ⟨_, rfl⟩
  have ha1 : a ≠ 1 := by rw [ha]; exact stc_not hf
  have hne : ((a : Int) != 1) = true := by simp; omega
  rw [← ha] at HCE
  clear h ha ha1 hf hk
  have HZ : Hid ((w.alloc (.cells #[.int .u64 0, .int .u32 0] 99)).heap[w.heap.size]? = some (.cells #[.int .u64 0, .int .u32 0] 99 (0, 0))) := Lib.hid (heap_alloc_new w _)
  have HB : Hid (Below w.heap.size w (w.alloc (.cells #[.int .u64 0, .int .u32 0] 99))) := Lib.hid (below_alloc w _)
  go_enter Tryz.func100, Tryz.ntmps100
  go_upto_region 1 with fail
  change Code.wp _ _ _ _ (w.alloc (.cells #[.int .u64 0, .int .u32 0] 99))
  generalize hv : w.alloc (.cells #[.int .u64 0, .int .u32 0] 99) = v at *
  clear hv
  go_upto_region 2 with (first
    | (go_at_call 152
       refine (HC.out _ HB.out).mono ?_
       rintro e u ⟨rfl, hb⟩
       have HBu := Lib.hid (HB.out.trans (hb.mono HB.out.size))
       have HZu : Hid (u.heap[w.heap.size]? = some (.cells #[.int .u64 0, .int .u32 0] 99 (0, 0))) := Lib.hid ((hb.block _ (lt_heap HZ.out)).trans HZ.out)
       have x0 : u.cell? ⟨p, 0, none⟩ = some (.slice (some ⟨g, 0, none⟩) s.n c) := blk_cell (PTY.step HX.out HBu.out).blk 0
       have xc := (HCE.out u HBu.out).1
       clear hb))
  clear x0 xc
  go_wp2_with (first
    | (refine wpList_store_row rfl 99 (.tmp 4) (.tmp 21) rfl w.heap.size #[.int .u64 0, .int .u32 0] rfl rfl 99 #[.int .u64 0, .int .u32 0] HZu.out (by kernel_rfl) rfl (by simp [Value.oneCell']) ?_))
  refine bodyPost_ret (v := .tuple #[.agg #[.int .u64 0, .int .u32 0], .bool false]) (results_rowa Tryz.results100 _ _ w.heap.size 99 #[.int .u64 0, .int .u32 0] (0, 0) _ rfl (setRow_heap _ w.heap.size _ #[.int .u64 0, .int .u32 0] _ _ HZu.out) Tryz.underlying99 rfl (by kernel_rfl)) rfl ?_
  exact ⟨rfl, below_setRow HBu.out (Nat.le_refl _) _⟩
set_option maxHeartbeats 1000000 in
theorem tget_yes (h : PTX w p g c e s F) {k : Nat} (hk : k < s.n) (hf : s.ful k = true) : Calls Tryz.prog 100 #[.pointer (some ⟨p, 0, none⟩), .int .i64 (k : Int)] w (ret (.tuple #[.agg #[.int .u64 (s.eh k : Int), .int .u32 (s.ew k : Int)], .bool true]) w) := by
  have HX := Lib.hid h
  have HC : Hid (∀ W, Below w.heap.size w W → Calls Tryz.prog 152 #[.pointer (some ⟨p, 0, none⟩), .int .i64 (k : Int)] W (ret (.bool true) W)) := Lib.hid fun W hW => by
    have := thas_c W p _ s.n c (blk_cell (PTY.step h hW).blk 0) (k : Int)
    rwa [show hasB s.n (k : Int) = true from by unfold hasB; simp; omega] at this
  have i0 : (0 : Int) ≤ (k : Int) := by omega
  have i1 : (k : Int) < (s.n : Int) := by omega
  have i2 : ((k : Int)).toNat = k := by omega
  have cap := PTY.cap h
  have cap9 := PTY.cap9 h
  have HCE : Hid (∀ W, Below w.heap.size w W → W.cell? ⟨g, k * 3, none⟩ = some (.int .u8 (stc s k : Int)) ∧ W.cell? ⟨g, k * 3 + 1, none⟩ = some (.int .u64 (s.eh k : Int)) ∧ W.cell? ⟨g, k * 3 + 2, none⟩ = some (.int .u32 (s.ew k : Int))) := Lib.hid fun W hW => ⟨PTX.c0 (PTY.step h hW) hk, PTX.c1 (PTY.step h hW) hk, PTX.c2 (PTY.step h hW) hk⟩
  rw [stc_ful hf] at HCE
  clear h hf hk
  have HZ : Hid ((w.alloc (.cells #[.int .u64 0, .int .u32 0] 99)).heap[w.heap.size]? = some (.cells #[.int .u64 0, .int .u32 0] 99 (0, 0))) := Lib.hid (heap_alloc_new w _)
  have HB : Hid (Below w.heap.size w (w.alloc (.cells #[.int .u64 0, .int .u32 0] 99))) := Lib.hid (below_alloc w _)
  go_enter Tryz.func100, Tryz.ntmps100
  go_upto_region 1 with fail
  change Code.wp _ _ _ _ (w.alloc (.cells #[.int .u64 0, .int .u32 0] 99))
  generalize hv : w.alloc (.cells #[.int .u64 0, .int .u32 0] 99) = v at *
  clear hv
  go_upto_region 3 with (first
    | (go_at_call 152
       refine (HC.out _ HB.out).mono ?_
       rintro e u ⟨rfl, hb⟩
       have HBu := Lib.hid (HB.out.trans (hb.mono HB.out.size))
       have HZu : Hid (u.heap[w.heap.size]? = some (.cells #[.int .u64 0, .int .u32 0] 99 (0, 0))) := Lib.hid ((hb.block _ (lt_heap HZ.out)).trans HZ.out)
       have x0 : u.cell? ⟨p, 0, none⟩ = some (.slice (some ⟨g, 0, none⟩) s.n c) := blk_cell (PTY.step HX.out HBu.out).blk 0
       have xc : u.cell? ⟨g, k * 3, none⟩ = some (.int .u8 1) := (HCE.out u HBu.out).1
       have xd := (HCE.out u HBu.out).2.1
       have xe := (HCE.out u HBu.out).2.2
       clear hb))
  go_wp2_with (first
    | (refine wpList_store_row rfl 99 (.tmp 4) (.tmp 29) rfl w.heap.size #[.int .u64 (s.eh k : Int), .int .u32 (s.ew k : Int)] rfl rfl 99 #[.int .u64 0, .int .u32 0] HZu.out (by kernel_rfl) rfl (by simp [Value.oneCell']) ?_))
  refine bodyPost_ret (v := .tuple #[.agg #[.int .u64 (s.eh k : Int), .int .u32 (s.ew k : Int)], .bool true]) (results_rowa Tryz.results100 _ _ w.heap.size 99 #[.int .u64 (s.eh k : Int), .int .u32 (s.ew k : Int)] (0, 0) _ rfl (setRow_heap _ w.heap.size _ #[.int .u64 (s.eh k : Int), .int .u32 (s.ew k : Int)] _ _ HZu.out) Tryz.underlying99 rfl (by kernel_rfl)) rfl ?_
  exact ⟨rfl, below_setRow HBu.out (Nat.le_refl _) _⟩
theorem tget_any (h : PTX w p g c e s F) (q : Int) : Calls Tryz.prog 100 #[.pointer (some ⟨p, 0, none⟩), .int .i64 q] w (ret (.tuple #[.agg (s.gtV q), .bool (s.isF q)]) w) := by
  by_cases hq : 0 ≤ q ∧ q < (s.n : Int)
  · obtain ⟨k, rfl⟩ := Int.eq_ofNat_of_zero_le hq.1
    have hk : k < s.n := by omega
    cases hf : s.ful k with
    | true =>
      have e1 : s.isF (k : Int) = true := by unfold Tb.isF; simp [hf]; omega
      unfold Tb.gtV
      rw [e1, if_pos rfl]
      exact tget_yes h hk hf
    | false =>
      have e1 : s.isF (k : Int) = false := by unfold Tb.isF; simp [hf]
      unfold Tb.gtV
      rw [e1, if_neg Bool.false_ne_true]
      exact tget_free h hk hf
  · have e0 : hasB s.n q = false := by
      unfold hasB
      by_cases h0 : 0 ≤ q
      · rw [show decide (q < (s.n : Int)) = false from decide_eq_false (by omega), Bool.and_false]
      · rw [show decide (0 ≤ q) = false from decide_eq_false h0, Bool.false_and]
    have e1 : s.isF q = false := by
      show (hasB s.n q && s.ful q.toNat) = false
      rw [e0, Bool.false_and]
    unfold Tb.gtV
    rw [e1, if_neg Bool.false_ne_true]
    refine tget_out fun W hW => ?_
    have := thas_c W p _ s.n c (blk_cell (PTY.step h hW).blk 0) q
    rwa [e0] at this
theorem tdrop_out (h : PTX w p g c e s F) {i : Int} (hi : hasB s.n i = false) : Calls Tryz.prog 102 #[.pointer (some ⟨p, 0, none⟩), .int .i64 i] w (ret (.int .i64 2) w) := by
  have HX := Lib.hid h
  have HM := Lib.hid (tmade_yes (blk_cell (PTY.blk h) 0) (PTY.pos h).1)
  have HC : Hid (∀ W, Below w.heap.size w W → Calls Tryz.prog 152 #[.pointer (some ⟨p, 0, none⟩), .int .i64 i] W (ret (.bool false) W)) := Lib.hid fun W hW => by
    have := thas_c W p _ s.n c (blk_cell (PTY.step h hW).blk 0) i
    rwa [hi] at this
  clear h hi
  go_enter Tryz.func102, Tryz.ntmps102
  go_wp2_with (first
    | (go_at_call 130
       refine HM.out.mono ?_
       rintro e u ⟨rfl, hb⟩
       have HB := Lib.hid hb
       clear hb)
    | (go_at_call 152
       refine (HC.out _ HB.out).mono ?_
       rintro e u2 ⟨rfl, hb⟩
       have HB2 := Lib.hid (HB.out.trans (hb.mono HB.out.size))
       clear hb))
  go_ret
  exact ⟨rfl, HB2.out⟩
theorem tdrop_free (h : PTX w p g c e s F) {k : Nat} (hk : k < s.n) (hf : s.ful k = false) : Calls Tryz.prog 102 #[.pointer (some ⟨p, 0, none⟩), .int .i64 (k : Int)] w (ret (.int .i64 7) w) := by
  have HX := Lib.hid h
  have HM := Lib.hid (tmade_yes (blk_cell (PTY.blk h) 0) (PTY.pos h).1)
  have HC : Hid (∀ W, Below w.heap.size w W → Calls Tryz.prog 152 #[.pointer (some ⟨p, 0, none⟩), .int .i64 (k : Int)] W (ret (.bool true) W)) := Lib.hid fun W hW => by
    have := thas_c W p _ s.n c (blk_cell (PTY.step h hW).blk 0) (k : Int)
    rwa [show hasB s.n (k : Int) = true from by unfold hasB; simp; omega] at this
  have i0 : (0 : Int) ≤ (k : Int) := by omega
  have i1 : (k : Int) < (s.n : Int) := by omega
  have i2 : ((k : Int)).toNat = k := by omega
  have cap := PTY.cap h
  have cap9 := PTY.cap9 h
  obtain ⟨a, ha⟩ : ∃ a, a = stc s k := ⟨_, rfl⟩
  have ha1 : a ≠ 1 := by rw [ha]; exact stc_not hf
  have hne : ((a : Int) != 1) = true := by simp; omega
  have HCE : Hid (∀ W, Below w.heap.size w W → W.cell? ⟨g, k * 3, none⟩ = some (.int .u8 (a : Int))) := Lib.hid fun W hW => by
    rw [ha]
    exact PTX.c0 (PTY.step h hW) hk
  clear h ha ha1 hf hk
  go_enter Tryz.func102, Tryz.ntmps102
  go_wp2_with (first
    | (go_at_call 130
       refine HM.out.mono ?_
       rintro e u ⟨rfl, hb⟩
       have HB := Lib.hid hb
       clear hb)
    | (go_at_call 152
       refine (HC.out _ HB.out).mono ?_
       rintro e u2 ⟨rfl, hb⟩
       have HB2 := Lib.hid (HB.out.trans (hb.mono HB.out.size))
       have x0 : u2.cell? ⟨p, 0, none⟩ = some (.slice (some ⟨g, 0, none⟩) s.n c) := blk_cell (PTY.step HX.out HB2.out).blk 0
       have xc := HCE.out u2 HB2.out
       clear hb))
  go_ret
  exact ⟨rfl, HB2.out⟩
set_option maxHeartbeats 1000000 in
theorem tdrop_yes (h : PTX w p g c e s F) {k : Nat} (hk : k < s.n) (hf : s.ful k = true) (hm : s.mrk k = false) : Calls Tryz.prog 102 #[.pointer (some ⟨p, 0, none⟩), .int .i64 (k : Int)] w fun r w' => r = .returned (.int .i64 0) ∧ (∃ e', PTX w' p g c e' (s.gone k) F) ∧ Kept F w w' := by
  have HX := Lib.hid h
  have HM := Lib.hid (tmade_yes (blk_cell (PTY.blk h) 0) (PTY.pos h).1)
  have HC : Hid (∀ W, Below w.heap.size w W → Calls Tryz.prog 152 #[.pointer (some ⟨p, 0, none⟩), .int .i64 (k : Int)] W (ret (.bool true) W)) := Lib.hid fun W hW => by
    have := thas_c W p _ s.n c (blk_cell (PTY.step h hW).blk 0) (k : Int)
    rwa [show hasB s.n (k : Int) = true from by unfold hasB; simp; omega] at this
  have i0 : (0 : Int) ≤ (k : Int) := by omega
  have i1 : (k : Int) < (s.n : Int) := by omega
  have i2 : ((k : Int)).toNat = k := by omega
  have cap := PTY.cap h
  have cap9 := PTY.cap9 h
  have HCE : Hid (∀ W, Below w.heap.size w W → W.cell? ⟨g, k * 3, none⟩ = some (.int .u8 1)) := Lib.hid fun W hW => by
    have := PTX.c0 (PTY.step h hW) hk
    rw [stc_ful hf] at this
    exact this
  have HL := Lib.hid fun W (hW : Below w.heap.size w W) => tlay_gone (PTY.step h hW) hk hf hm
  clear h hf hk hm
  go_enter Tryz.func102, Tryz.ntmps102
  go_wp2_with (first
    | (go_at_call 130
       refine HM.out.mono ?_
       rintro e u ⟨rfl, hb⟩
       have HB := Lib.hid hb
       clear hb)
    | (go_at_call 152
       refine (HC.out _ HB.out).mono ?_
       rintro e u2 ⟨rfl, hb⟩
       have HB2 := Lib.hid (HB.out.trans (hb.mono HB.out.size))
       have x0 : u2.cell? ⟨p, 0, none⟩ = some (.slice (some ⟨g, 0, none⟩) s.n c) := blk_cell (PTY.step HX.out HB2.out).blk 0
       have xc := HCE.out u2 HB2.out
       clear hb)
    | (go_at_call 154
       refine (HL.out _ HB2.out).mono ?_
       rintro e u3 ⟨rfl, hx, hkk⟩
       have HX3 := Lib.hid hx
       have HK3 : Hid (Kept F w u3) := Lib.hid ((Kept.of_below HB2.out F).trans hkk fun _ _ q => q)
       clear hx hkk))
  go_ret
  exact ⟨rfl, HX3.out, HK3.out⟩
theorem tdrop_any (h : PTX w p g c e s F) (hs : s.Ok) (q : Int) : Calls Tryz.prog 102 #[.pointer (some ⟨p, 0, none⟩), .int .i64 q] w fun r w' => r = .returned (.int .i64 (s.drE q)) ∧ (∃ e', PTX w' p g c e' (s.dr q) F) ∧ Kept F w w' := by
  by_cases hq : 0 ≤ q ∧ q < (s.n : Int)
  · obtain ⟨k, rfl⟩ := Int.eq_ofNat_of_zero_le hq.1
    have hk : k < s.n := by omega
    have hd : (decide ((0 : Int) ≤ (k : Int)) && decide ((k : Int) < (s.n : Int))) = true := by simp; omega
    cases hf : s.ful k with
    | true =>
      have hm : s.mrk k = false := by
        cases hm : s.mrk k with
        | false => rfl
        | true =>
          have := hs.one k hm
          rw [hf] at this
          cases this
      have e1 : s.isF (k : Int) = true := by unfold Tb.isF; simp [hf]; omega
      unfold Tb.drE Tb.dr
      rw [e1, if_pos rfl, hd, if_pos rfl, show ((k : Int)).toNat = k from by omega, hf, if_pos rfl]
      exact tdrop_yes h hk hf hm
    | false =>
      have e1 : s.isF (k : Int) = false := by unfold Tb.isF; simp [hf]
      unfold Tb.drE Tb.dr
      rw [e1, if_neg Bool.false_ne_true, hd, if_pos rfl, show ((k : Int)).toNat = k from by omega, hf, if_neg Bool.false_ne_true]
      refine (tdrop_free h hk hf).mono ?_
      rintro r w' ⟨rfl, hb⟩
      exact ⟨rfl, ⟨e, PTY.step h hb⟩, Kept.of_below hb F⟩
  · have e0 : hasB s.n q = false := by
      unfold hasB
      by_cases h0 : 0 ≤ q
      · rw [show decide (q < (s.n : Int)) = false from decide_eq_false (by omega), Bool.and_false]
      · rw [show decide (0 ≤ q) = false from decide_eq_false h0, Bool.false_and]
    have e1 : s.isF q = false := by
      show (hasB s.n q && s.ful q.toNat) = false
      rw [e0, Bool.false_and]
    unfold Tb.drE Tb.dr
    rw [e1, if_neg Bool.false_ne_true, show (decide (0 ≤ q) && decide (q < (s.n : Int))) = false from e0, if_neg Bool.false_ne_true]
    refine (tdrop_out h e0).mono ?_
    rintro r w' ⟨rfl, hb⟩
    exact ⟨rfl, ⟨e, PTY.step h hb⟩, Kept.of_below hb F⟩
end
end Go.Proofs.YtimcdnbfdkpffaaGreat
/- Stage 13: the landed table: the way of a hash. -/
namespace Go.Proofs.YtimcdnbfdkpffaaGreat
set_option maxRecDepth 100000
open Go.RowKit Go.Shelf
attribute [local go_sem] Oper.semAt_some
/-- The places of a hash's way, the first k; all of them: its first empty place too. -/
def Tb.wk (s : Tb) (h k : Nat) : List Nat := (List.range k).map (s.st h)
def Tb.wm (s : Tb) (h : Nat) : Nat := if s.lim h < s.n then s.lim h + 1 else s.lim h
def Tb.wa (s : Tb) (h : Nat) : List Nat := s.wk h (s.wm h)
theorem wk_succ (s : Tb) (h k : Nat) : s.wk h (k + 1) = s.wk h k ++ [s.st h k] := by
  unfold Tb.wk
  rw [List.range_succ, List.map_append]
  rfl
theorem wk_len (s : Tb) (h k : Nat) : (s.wk h k).length = k := by
  unfold Tb.wk
  rw [List.length_map, List.length_range]
theorem wk_pre (s : Tb) (h : Nat) {k : Nat} : ∀ {m : Nat}, k ≤ m → s.wk h k <+: s.wk h m
  | 0, hk => by
    obtain rfl : k = 0 := by omega
    exact List.prefix_rfl
  | m + 1, hk => by
    rcases (show k ≤ m ∨ k = m + 1 by omega) with q | rfl
    · rw [wk_succ]
      exact (wk_pre s h q).trans (List.prefix_append _ _)
    · exact List.prefix_rfl
theorem wk_is {s : Tb} {h m : Nat} {pre : List Nat} (hp : pre <+: s.wk h m) : pre = s.wk h pre.length ∧ pre.length ≤ m := by
  have hl := hp.length_le
  rw [wk_len] at hl
  refine ⟨?_, hl⟩
  exact (List.prefix_of_prefix_length_le hp (wk_pre s h hl) (by rw [wk_len]; exact Nat.le_refl _)).eq_of_length (by rw [wk_len])
/-- A place, as its way hands it on. -/
def wEnc (s : Tb) (x : Nat) : Array Value := #[.int .i64 (x : Int), .agg #[.int .u8 (stc s x : Int), .int .u64 (s.eh x : Int), .int .u32 (s.ew x : Int)]]
theorem way_any (w : World) (A : Option Addr) (n c : Nat) (h : Nat) : Calls Tryz.prog 153 #[.slice A n c, .int .u64 (h : Int)] w fun e w' => e = .returned (.func (.func 177) #[] #[.pointer (some ⟨w.heap.size, 0, none⟩), .pointer (some ⟨w.heap.size + 1, 0, none⟩)]) ∧ w' = (w.alloc (.cells #[.slice A n c] 182)).alloc (.cells #[.int .u64 (h : Int)] 39) := by
  go_enter Tryz.func153, Tryz.ntmps153
  go_wp2_with fail
  go_ret
  exact ⟨by simp, rfl⟩
theorem way_eg : ∀ args w, (callFunc 177 args).run Tryz.prog w = .ok (.enter 177 args) w := fun _ _ => by kernel_rfl
set_option maxHeartbeats 2000000 in
theorem way_it {w0 : World} {p g c : Nat} {e : Int} {s : Tb} {F R : Nat → Prop} (hx : PTX w0 p g c e s F) (hs : s.Ok) (h : Nat) (_hh : h < 18446744073709551616) {b2 b3 : Nat} (hRb : ∀ k, R k → k < w0.heap.size) (hRg : ¬ R g) (hR2 : ¬ R b2) (hR3 : ¬ R b3)
    (h2 : w0.cell? ⟨b2, 0, none⟩ = some (.slice (some ⟨g, 0, none⟩) s.n c)) (h3 : w0.cell? ⟨b3, 0, none⟩ = some (.int .u64 (h : Int))) :
    SeqP Fence.wide 12 Tryz.prog 177 #[.pointer (some ⟨b2, 0, none⟩), .pointer (some ⟨b3, 0, none⟩)] (wEnc s) (KeptC R) (s.wa h) w0 := fun l J Jx W hW hJ hJx hY hJ0 => by
  have hmay := hx.may
  have cap := PTY.cap hx
  have cap9 := PTY.cap9 hx
  have htop := (PTY.pos hx).2
  have hpos := hs.pos
  have HRB := Lib.hid hRb
  have HS : Hid (∀ k, s.st h k < s.n) := Lib.hid fun k => Tb.st_lt hs h k
  have HSW : Hid (∀ k, (h + k) % 18446744073709551616 % s.n = s.st h k) := Lib.hid fun k => st_wrap hmay h k
  have HC : Hid (∀ V, KeptC R w0 V → V.cell? ⟨b2, 0, none⟩ = some (.slice (some ⟨g, 0, none⟩) s.n c) ∧ V.cell? ⟨b3, 0, none⟩ = some (.int .u64 (h : Int))) := Lib.hid fun V hV => ⟨hV.cell h2 hR2, hV.cell h3 hR3⟩
  have HG : Hid (∀ V, KeptC R w0 V → ∀ x, x < s.n → V.cell? ⟨g, x * 3, none⟩ = some (.int .u8 (stc s x : Int)) ∧ V.cell? ⟨g, x * 3 + 1, none⟩ = some (.int .u64 (s.eh x : Int)) ∧ V.cell? ⟨g, x * 3 + 2, none⟩ = some (.int .u32 (s.ew x : Int))) := Lib.hid fun V hV x hxn => ⟨hV.cell (hx.c0 hxn) hRg, hV.cell (hx.c1 hxn) hRg, hV.cell (hx.c2 hxn) hRg⟩
  have HL0 : Hid (s.lim h ≤ s.n) := Lib.hid (Tb.lim_le s h)
  have HLi : Hid (∀ k, k < s.lim h → stc s (s.st h k) ≠ 0) := Lib.hid fun k hk => by
    rcases Tb.lim_in hk with q | q
    · rw [stc_ful q]
      decide
    · cases hf : s.ful (s.st h k) with
      | true =>
        rw [stc_ful hf]
        decide
      | false =>
        rw [stc_mrk hf q]
        decide
  have HLe : Hid (s.lim h < s.n → stc s (s.st h (s.lim h)) = 0) := Lib.hid fun hl => by
    obtain ⟨q1, q2⟩ := Tb.lim_end hl
    exact stc_no q1 q2
  have HYd := Lib.hid hY
  have HJ := Lib.hid hJ
  have HJx := Lib.hid hJx
  have HK0 : Hid (KeptC R w0 W) := Lib.hid (KeptC.of_below hW R)
  have HJ0 : Hid (J (s.wk h 0) W) := Lib.hid hJ0
  obtain ⟨n, hn⟩ : ∃ n, n = s.n := ⟨_, rfl⟩
  have HWA : Hid (s.wa h = s.wk h (if s.lim h < n then s.lim h + 1 else s.lim h)) := Lib.hid (by rw [hn]; rfl)
  rw [← hn] at cap htop hpos HS HSW HC HG HL0 HLe
  obtain ⟨m, hm⟩ : ∃ m, m = s.lim h := ⟨_, rfl⟩
  rw [← hm] at HL0 HLi HLe HWA
  clear hY hJ hW hJ0 hJx hx hs h2 h3 hR2 hR3 hRg hmay hn hm hRb
  refine callsIn_of_wp Tryz.func177 rfl trivial ?_ rfl
  simp only [Tryz.ntmps177, List.size_toArray, List.length_cons, List.length_nil, Nat.reduceAdd, Nat.reduceSub, Array.replicate_succ, Array.replicate_zero, List.push_toArray, List.append_toArray, List.nil_append, List.cons_append]
  have x2 := (HC.out W HK0.out).1
  gi_wp2
  clear x2
  gi_loopw [9] (fun i wr => ∃ k : Nat, k ≤ m ∧ i = .int .i64 (k : Int) ∧ J (s.wk h k) wr ∧ KeptC R w0 wr) (fun i _ => n - (intOf i).toNat)
  case atStart => exact ⟨0, Nat.zero_le _, rfl, HJ0.out, HK0.out⟩
  case round =>
    obtain ⟨k, hk, rfl, hJs, hkw⟩ := hrel
    have HJs := Lib.hid hJs
    have HKw := Lib.hid hkw
    clear hJs hkw
    have HKM := Lib.hid hk
    have zw : IntKind.i64.wrap ((k : Int) + 1) = (k : Int) + 1 := by
      have := HL0.out
      rw [IntKind.wrap_i64]
      omega
    by_cases hlt : k < n
    · have hlt' : (k : Int) < (n : Int) := by omega
      obtain ⟨x, hxs⟩ : ∃ x, x = s.st h k := ⟨_, rfl⟩
      have hxn : x < n := by rw [hxs]; exact HS.out k
      have x0 : (0 : Int) ≤ (x : Int) := by omega
      have x1 : (x : Int) < (n : Int) := by omega
      have x2 : ((x : Int)).toNat = x := by omega
      obtain ⟨y, hy⟩ : ∃ y, y = (h + k) % 18446744073709551616 := ⟨_, rfl⟩
      have z1 : IntKind.u64.wrap (k : Int) = (k : Int) := by rw [IntKind.wrap_u64]; omega
      have z2 : IntKind.u64.wrap ((h : Int) + (k : Int)) = (y : Int) := by rw [IntKind.wrap_u64, hy]; omega
      have z3 : IntKind.u64.wrap (n : Int) = (n : Int) := by rw [IntKind.wrap_u64]; omega
      have z4 : ¬ (n : Int) = 0 := by omega
      have z5 : (y : Int) % (n : Int) = (x : Int) := by
        have := HSW.out k
        rw [← hxs, ← hy] at this
        rw [← this, Int.natCast_emod]
      have z6 : IntKind.i64.wrap (x : Int) = (x : Int) := by rw [IntKind.wrap_i64]; omega
      obtain ⟨a, ha⟩ : ∃ a, a = stc s x := ⟨_, rfl⟩
      obtain ⟨u, hu⟩ : ∃ u, u = s.eh x := ⟨_, rfl⟩
      obtain ⟨v, hv⟩ : ∃ v, v = s.ew x := ⟨_, rfl⟩
      obtain ⟨c2, c3⟩ := HC.out wr HKw.out
      obtain ⟨g0, g1, g2⟩ := HG.out wr HKw.out x hxn
      rw [← ha] at g0
      rw [← hu] at g1
      rw [← hv] at g2
      have HE : Hid (wEnc s x = #[.int .i64 (x : Int), .agg #[.int .u8 (a : Int), .int .u64 (u : Int), .int .u32 (v : Int)]]) := Lib.hid (by rw [ha, hu, hv]; rfl)
      have HXS := Lib.hid hxs
      have HAS := Lib.hid ha
      have HSU : Hid (s.wk h (k + 1) = s.wk h k ++ [x]) := Lib.hid (by rw [wk_succ, hxs])
      clear hxs hy ha hu hv hxn
      have hz : (wr.alloc (.cells #[.int .u8 (a : Int), .int .u64 (u : Int), .int .u32 (v : Int)] 212)).heap[wr.heap.size]? = some (.cells #[.int .u8 (a : Int), .int .u64 (u : Int), .int .u32 (v : Int)] 212 (0, 0)) := heap_alloc_new wr _
      have q0 : (wr.alloc (.cells #[.int .u8 (a : Int), .int .u64 (u : Int), .int .u32 (v : Int)] 212)).cell? ⟨wr.heap.size, 0, none⟩ = some (.int .u8 (a : Int)) := blk_cell hz 0
      have q1 : (wr.alloc (.cells #[.int .u8 (a : Int), .int .u64 (u : Int), .int .u32 (v : Int)] 212)).cell? ⟨wr.heap.size, 1, none⟩ = some (.int .u64 (u : Int)) := blk_cell hz 1
      have q2 : (wr.alloc (.cells #[.int .u8 (a : Int), .int .u64 (u : Int), .int .u32 (v : Int)] 212)).cell? ⟨wr.heap.size, 2, none⟩ = some (.int .u32 (v : Int)) := blk_cell hz 2
      have HZ := Lib.hid hz
      have hba := below_alloc wr (.cells #[.int .u8 (a : Int), .int .u64 (u : Int), .int .u32 (v : Int)] 212)
      have HK2 : Hid (KeptC R w0 (wr.alloc (.cells #[.int .u8 (a : Int), .int .u64 (u : Int), .int .u32 (v : Int)] 212))) := Lib.hid (keptC_t HKw.out (KeptC.of_below hba R))
      have hJ2 := HJ.out _ _ _ none HJs.out (grown_below hba) (fun r e => nomatch e)
      have HPR : Hid (s.wk h k ++ [x] <+: s.wa h) := Lib.hid (by
        rw [← HSU.out, HWA.out]
        refine wk_pre s h ?_
        split <;> omega)
      have HRQ : Hid (¬ R wr.heap.size) := Lib.hid fun q => by
        have h1 := HRB.out _ q
        have h2 := HKw.out.1
        omega
      obtain ⟨fn, tmps, assign, body, hy, hR2⟩ := HYd.out (s.wk h k) x _ hJ2 HPR.out
      rw [HE.out] at hy
      have HR2 := Lib.hid hR2
      clear hR2 hJ2 hba hz HKw HJs
      gi_wp2
      refine HR2.out.mono ?_
      rintro e W3 (⟨rfl, hJ3, hk3⟩ | ⟨rfl, hJx3⟩)
      · have HK3 := Lib.hid (keptC_t HK2.out hk3)
        have HJ3 := Lib.hid hJ3
        have p0 : W3.cell? ⟨wr.heap.size, 0, none⟩ = some (.int .u8 (a : Int)) := hk3.cell q0 HRQ.out
        clear hJ3 hk3 hy q0 q1 q2 g0 g1 g2 c2 c3
        by_cases ha0 : a = 0
        · subst ha0
          have HKL : Hid (k = m) := Lib.hid (by
            rcases (show k < m ∨ k = m by omega) with q | q
            · have := HLi.out k q
              rw [← HXS.out, ← HAS.out] at this
              exact absurd rfl this
            · exact q)
          gi_wp2
          refine ⟨rfl, _, results_none rfl _ _ _, ⟨_, rfl⟩, .inl ?_⟩
          rw [HWA.out, if_pos (by rw [← HKL.out]; exact hlt), ← HKL.out, HSU.out]
          exact HJ3.out
        · have hne : ((a : Int) == 0) = false := by simp; omega
          have HKL : Hid (k < m) := Lib.hid (by
            rcases (show k < m ∨ k = m by omega) with q | q
            · exact q
            · have := HLe.out (by omega)
              rw [← q, ← HXS.out, ← HAS.out] at this
              exact absurd this ha0)
          clear ha0
          gi_wp2
          go_roundw
          case rel => exact ⟨k + 1, by have := HKL.out; omega, by go_num, by rw [HSU.out]; exact HJ3.out, HK3.out⟩
          case measure => simp [intOf]; omega
      · clear hy q0 q1 q2 g0 g1 g2 c2 c3
        gi_wp2
        exact ⟨rfl, _, results_none rfl _ _ _, ⟨_, rfl⟩, .inr ⟨_, HPR.out, hJx3⟩⟩
    · have hlt' : ¬ (k : Int) < (n : Int) := by omega
      have HKL : Hid (k = m ∧ ¬ m < n) := Lib.hid (by
        have := HL0.out
        omega)
      gi_wp2
      refine ⟨rfl, _, results_none rfl _ _ _, ⟨_, rfl⟩, .inl ?_⟩
      rw [HWA.out, if_neg HKL.out.2, ← HKL.out.1]
      exact HJs.out
end Go.Proofs.YtimcdnbfdkpffaaGreat
