import Derived.Test.YthjghofjdcepmaaGm10
import Derived.Test.YthjghofjdcepmaaGm0
import Derived.ProofKit
import Derived.Lib.SmallJoins
import Derived.Carry
import Derived.RangeFuncNested
import Derived.RangeFuncBound
import Derived.RangeFuncLeaves
import Derived.Test.YthjghofjdcepmaaGm3
/- Stage 13: the landed table: an entry laid, a mark laid; Get, Drop. -/
namespace Go.Proofs.Ythjghofjdcepmaa
set_option maxRecDepth 100000
open Go.RowKit Go.Shelf
theorem wrap_up {n : Nat} (h : n ≤ 262144) : wrap64 ((n : Int) + 1) = ((n + 1 : Nat) : Int) := by
  rw [← IntWalk.i64_left, IntKind.wrap_i64]
  omega
theorem wrap_dn {n : Nat} (h : n + 1 ≤ 262144) : wrap64 (((n + 1 : Nat) : Int) - 1) = (n : Int) := by
  rw [← IntWalk.i64_left, IntKind.wrap_i64]
  omega
section
variable {w : World} {p g c : Nat} {e : Int} {s : Tb} {F : Nat → Prop}
theorem PTX.top (h : PTX w p g c e s F) : s.n ≤ 262144 := (PTY.pos h).2
theorem tlay_put (h : PTX w p g c e s F) {k : Nat} (hk : k < s.n) (hf : s.ful k = false) (y x : Nat) : Calls Try.prog 62 #[.pointer (some ⟨p, 0, none⟩), .int .i64 (k : Int), .agg #[.int .u8 1, .int .u64 (y : Int), .int .u32 (x : Int)]] w fun r w' => r = .returned (.tuple #[]) ∧ (∃ e', PTX w' p g c e' (s.put k y x) F) ∧ Kept F w w' := by
  have ht := h.top
  have he := put_entries s (h := y) (x := x) hk hf
  have hle := cntI_le s.ful s.n
  have hlm := cntI_le s.mrk s.n
  have hle' : s.entries ≤ 262144 := Nat.le_trans hle ht
  have hlm' : s.marks ≤ 262144 := Nat.le_trans hlm ht
  cases hm : s.mrk k with
  | true =>
    have hc : tcl s (k * 3) = .int .u8 2 := by rw [tcl_0, stc_mrk hf hm]; rfl
    have hk2 := put_marks1 s (h := y) (x := x) hk hm
    refine (tlay_21 h hk hc (y : Int) (x : Int)).mono ?_
    rintro r w' ⟨rfl, hy, hkk⟩
    refine ⟨rfl, ?_, hkk⟩
    rw [← hk2, wrap_dn (by omega), wrap_up hle', ← he] at hy
    exact ⟨_, PTY.same hy fun j => tcl_put s k y x j⟩
  | false =>
    have hc : tcl s (k * 3) = .int .u8 0 := by rw [tcl_0, stc_no hf hm]; rfl
    have hk2 := put_marks0 s (h := y) (x := x) hk hm
    refine (tlay_01 h hk hc (y : Int) (x : Int)).mono ?_
    rintro r w' ⟨rfl, hy, hkk⟩
    refine ⟨rfl, ?_, hkk⟩
    rw [← hk2, wrap_up hle', ← he] at hy
    exact ⟨_, PTY.same hy fun j => tcl_put s k y x j⟩
theorem tlay_gone (h : PTX w p g c e s F) {k : Nat} (hk : k < s.n) (hf : s.ful k = true) (hm : s.mrk k = false) : Calls Try.prog 62 #[.pointer (some ⟨p, 0, none⟩), .int .i64 (k : Int), .agg #[.int .u8 2, .int .u64 0, .int .u32 0]] w fun r w' => r = .returned (.tuple #[]) ∧ (∃ e', PTX w' p g c e' (s.gone k) F) ∧ Kept F w w' := by
  have ht := h.top
  have he := gone_entries s hk hf
  have hle := cntI_le s.ful s.n
  have hlm := cntI_le s.mrk s.n
  have hle' : s.entries ≤ 262144 := Nat.le_trans hle ht
  have hlm' : s.marks ≤ 262144 := Nat.le_trans hlm ht
  have hc : tcl s (k * 3) = .int .u8 1 := by rw [tcl_0, stc_ful hf]; rfl
  have hk2 := gone_marks s hk hm
  refine (tlay_12 h hk hc 0 0).mono ?_
  rintro r w' ⟨rfl, hy, hkk⟩
  refine ⟨rfl, ?_, hkk⟩
  rw [← he, wrap_dn (by omega), wrap_up hlm', ← hk2] at hy
  exact ⟨_, PTY.same hy fun j => tcl_gone s k j⟩
theorem tget_out {pa : Option Addr} {i : Int} (hc : ∀ W, Below w.heap.size w W → Calls Try.prog 67 #[.pointer pa, .int .i64 i] W (ret (.bool false) W)) : Calls Try.prog 44 #[.pointer pa, .int .i64 i] w (ret (.tuple #[.agg #[.int .u64 0, .int .u32 0], .bool false]) w) := by
  have HC := Lib.hid hc
  clear hc
  have HZ : Hid ((w.alloc (.cells #[.int .u64 0, .int .u32 0] 34)).heap[w.heap.size]? = some (.cells #[.int .u64 0, .int .u32 0] 34 (0, 0))) := Lib.hid (heap_alloc_new w _)
  have HB : Hid (Below w.heap.size w (w.alloc (.cells #[.int .u64 0, .int .u32 0] 34))) := Lib.hid (below_alloc w _)
  go_enter Try.func44, Try.ntmps44
  go_upto_region 1 with fail
  change Code.wp _ _ _ _ (w.alloc (.cells #[.int .u64 0, .int .u32 0] 34))
  generalize hv : w.alloc (.cells #[.int .u64 0, .int .u32 0] 34) = v at *
  clear hv
  go_upto_region 2 with (first
    | (go_at_call 67
       refine (HC.out _ HB.out).mono ?_
       rintro e u ⟨rfl, hb⟩
       have HBu := Lib.hid (HB.out.trans (hb.mono HB.out.size))
       have HZu : Hid (u.heap[w.heap.size]? = some (.cells #[.int .u64 0, .int .u32 0] 34 (0, 0))) := Lib.hid ((hb.block _ (lt_heap HZ.out)).trans HZ.out)
       clear hb))
  go_wp2_with (first
    | (refine wpList_store_row rfl 34 (.tmp 4) (.tmp 21) rfl w.heap.size #[.int .u64 0, .int .u32 0] rfl rfl 34 #[.int .u64 0, .int .u32 0] HZu.out (by kernel_rfl) rfl (by simp [Value.oneCell']) ?_))
  refine bodyPost_ret (v := .tuple #[.agg #[.int .u64 0, .int .u32 0], .bool false]) (results_rowa Try.results44 _ _ w.heap.size 34 #[.int .u64 0, .int .u32 0] (0, 0) _ rfl (setRow_heap _ w.heap.size _ #[.int .u64 0, .int .u32 0] _ _ HZu.out) Try.underlying34 rfl (by kernel_rfl)) rfl ?_
  exact ⟨rfl, below_setRow HBu.out (Nat.le_refl _) _⟩
set_option maxHeartbeats 1000000 in
theorem tget_free (h : PTX w p g c e s F) {k : Nat} (hk : k < s.n) (hf : s.ful k = false) : Calls Try.prog 44 #[.pointer (some ⟨p, 0, none⟩), .int .i64 (k : Int)] w (ret (.tuple #[.agg #[.int .u64 0, .int .u32 0], .bool false]) w) := by
  have HX := Lib.hid h
  have HC : Hid (∀ W, Below w.heap.size w W → Calls Try.prog 67 #[.pointer (some ⟨p, 0, none⟩), .int .i64 (k : Int)] W (ret (.bool true) W)) := Lib.hid fun W hW => by
    have := thas_c W p _ s.n c (blk_cell (PTY.step h hW).blk 0) (k : Int)
    rwa [show hasB s.n (k : Int) = true from by unfold hasB; simp; omega] at this
  have i0 : (0 : Int) ≤ (k : Int) := by omega
  have i1 : (k : Int) < (s.n : Int) := by omega
  have i2 : ((k : Int)).toNat = k := by omega
  have cap := PTY.cap h
  have cap9 := PTY.cap9 h
  have HCE : Hid (∀ W, Below w.heap.size w W → W.cell? ⟨g, k * 3, none⟩ = some (.int .u8 (stc s k : Int)) ∧ W.cell? ⟨g, k * 3 + 1, none⟩ = some (.int .u64 (s.eh k : Int)) ∧ W.cell? ⟨g, k * 3 + 2, none⟩ = some (.int .u32 (s.ew k : Int))) := Lib.hid fun W hW => ⟨PTX.c0 (PTY.step h hW) hk, PTX.c1 (PTY.step h hW) hk, PTX.c2 (PTY.step h hW) hk⟩
  obtain ⟨a, ha⟩ : ∃ a, a = stc s k := ⟨_, rfl⟩
  have ha1 : a ≠ 1 := by rw [ha]; exact stc_not hf
  have hne : ((a : Int) != 1) = true := by simp; omega
  rw [← ha] at HCE
  clear h ha ha1 hf hk
  have HZ : Hid ((w.alloc (.cells #[.int .u64 0, .int .u32 0] 34)).heap[w.heap.size]? = some (.cells #[.int .u64 0, .int .u32 0] 34 (0, 0))) := Lib.hid (heap_alloc_new w _)
  have HB : Hid (Below w.heap.size w (w.alloc (.cells #[.int .u64 0, .int .u32 0] 34))) := Lib.hid (below_alloc w _)
  go_enter Try.func44, Try.ntmps44
  go_upto_region 1 with fail
  change Code.wp _ _ _ _ (w.alloc (.cells #[.int .u64 0, .int .u32 0] 34))
  generalize hv : w.alloc (.cells #[.int .u64 0, .int .u32 0] 34) = v at *
  clear hv
  go_upto_region 2 with (first
    | (go_at_call 67
       refine (HC.out _ HB.out).mono ?_
       rintro e u ⟨rfl, hb⟩
       have HBu := Lib.hid (HB.out.trans (hb.mono HB.out.size))
       have HZu : Hid (u.heap[w.heap.size]? = some (.cells #[.int .u64 0, .int .u32 0] 34 (0, 0))) := Lib.hid ((hb.block _ (lt_heap HZ.out)).trans HZ.out)
       have x0 : u.cell? ⟨p, 0, none⟩ = some (.slice (some ⟨g, 0, none⟩) s.n c) := blk_cell (PTY.step HX.out HBu.out).blk 0
       have xc := (HCE.out u HBu.out).1
       clear hb))
  clear x0 xc
  go_wp2_with (first
    | (refine wpList_store_row rfl 34 (.tmp 4) (.tmp 21) rfl w.heap.size #[.int .u64 0, .int .u32 0] rfl rfl 34 #[.int .u64 0, .int .u32 0] HZu.out (by kernel_rfl) rfl (by simp [Value.oneCell']) ?_))
  refine bodyPost_ret (v := .tuple #[.agg #[.int .u64 0, .int .u32 0], .bool false]) (results_rowa Try.results44 _ _ w.heap.size 34 #[.int .u64 0, .int .u32 0] (0, 0) _ rfl (setRow_heap _ w.heap.size _ #[.int .u64 0, .int .u32 0] _ _ HZu.out) Try.underlying34 rfl (by kernel_rfl)) rfl ?_
  exact ⟨rfl, below_setRow HBu.out (Nat.le_refl _) _⟩
set_option maxHeartbeats 1000000 in
theorem tget_yes (h : PTX w p g c e s F) {k : Nat} (hk : k < s.n) (hf : s.ful k = true) : Calls Try.prog 44 #[.pointer (some ⟨p, 0, none⟩), .int .i64 (k : Int)] w (ret (.tuple #[.agg #[.int .u64 (s.eh k : Int), .int .u32 (s.ew k : Int)], .bool true]) w) := by
  have HX := Lib.hid h
  have HC : Hid (∀ W, Below w.heap.size w W → Calls Try.prog 67 #[.pointer (some ⟨p, 0, none⟩), .int .i64 (k : Int)] W (ret (.bool true) W)) := Lib.hid fun W hW => by
    have := thas_c W p _ s.n c (blk_cell (PTY.step h hW).blk 0) (k : Int)
    rwa [show hasB s.n (k : Int) = true from by unfold hasB; simp; omega] at this
  have i0 : (0 : Int) ≤ (k : Int) := by omega
  have i1 : (k : Int) < (s.n : Int) := by omega
  have i2 : ((k : Int)).toNat = k := by omega
  have cap := PTY.cap h
  have cap9 := PTY.cap9 h
  have HCE : Hid (∀ W, Below w.heap.size w W → W.cell? ⟨g, k * 3, none⟩ = some (.int .u8 (stc s k : Int)) ∧ W.cell? ⟨g, k * 3 + 1, none⟩ = some (.int .u64 (s.eh k : Int)) ∧ W.cell? ⟨g, k * 3 + 2, none⟩ = some (.int .u32 (s.ew k : Int))) := Lib.hid fun W hW => ⟨PTX.c0 (PTY.step h hW) hk, PTX.c1 (PTY.step h hW) hk, PTX.c2 (PTY.step h hW) hk⟩
  rw [stc_ful hf] at HCE
  clear h hf hk
  have HZ : Hid ((w.alloc (.cells #[.int .u64 0, .int .u32 0] 34)).heap[w.heap.size]? = some (.cells #[.int .u64 0, .int .u32 0] 34 (0, 0))) := Lib.hid (heap_alloc_new w _)
  have HB : Hid (Below w.heap.size w (w.alloc (.cells #[.int .u64 0, .int .u32 0] 34))) := Lib.hid (below_alloc w _)
  go_enter Try.func44, Try.ntmps44
  go_upto_region 1 with fail
  change Code.wp _ _ _ _ (w.alloc (.cells #[.int .u64 0, .int .u32 0] 34))
  generalize hv : w.alloc (.cells #[.int .u64 0, .int .u32 0] 34) = v at *
  clear hv
  go_upto_region 3 with (first
    | (go_at_call 67
       refine (HC.out _ HB.out).mono ?_
       rintro e u ⟨rfl, hb⟩
       have HBu := Lib.hid (HB.out.trans (hb.mono HB.out.size))
       have HZu : Hid (u.heap[w.heap.size]? = some (.cells #[.int .u64 0, .int .u32 0] 34 (0, 0))) := Lib.hid ((hb.block _ (lt_heap HZ.out)).trans HZ.out)
       have x0 : u.cell? ⟨p, 0, none⟩ = some (.slice (some ⟨g, 0, none⟩) s.n c) := blk_cell (PTY.step HX.out HBu.out).blk 0
       have xc : u.cell? ⟨g, k * 3, none⟩ = some (.int .u8 1) := (HCE.out u HBu.out).1
       have xd := (HCE.out u HBu.out).2.1
       have xe := (HCE.out u HBu.out).2.2
       clear hb))
  go_wp2_with (first
    | (refine wpList_store_row rfl 34 (.tmp 4) (.tmp 29) rfl w.heap.size #[.int .u64 (s.eh k : Int), .int .u32 (s.ew k : Int)] rfl rfl 34 #[.int .u64 0, .int .u32 0] HZu.out (by kernel_rfl) rfl (by simp [Value.oneCell']) ?_))
  refine bodyPost_ret (v := .tuple #[.agg #[.int .u64 (s.eh k : Int), .int .u32 (s.ew k : Int)], .bool true]) (results_rowa Try.results44 _ _ w.heap.size 34 #[.int .u64 (s.eh k : Int), .int .u32 (s.ew k : Int)] (0, 0) _ rfl (setRow_heap _ w.heap.size _ #[.int .u64 (s.eh k : Int), .int .u32 (s.ew k : Int)] _ _ HZu.out) Try.underlying34 rfl (by kernel_rfl)) rfl ?_
  exact ⟨rfl, below_setRow HBu.out (Nat.le_refl _) _⟩
theorem tget_any (h : PTX w p g c e s F) (q : Int) : Calls Try.prog 44 #[.pointer (some ⟨p, 0, none⟩), .int .i64 q] w (ret (.tuple #[.agg (s.gtV q), .bool (s.isF q)]) w) := by
  by_cases hq : 0 ≤ q ∧ q < (s.n : Int)
  · obtain ⟨k, rfl⟩ := Int.eq_ofNat_of_zero_le hq.1
    have hk : k < s.n := by omega
    cases hf : s.ful k with
    | true =>
      have e1 : s.isF (k : Int) = true := by unfold Tb.isF; simp [hf]; omega
      unfold Tb.gtV
      rw [e1, if_pos rfl]
      exact tget_yes h hk hf
    | false =>
      have e1 : s.isF (k : Int) = false := by unfold Tb.isF; simp [hf]
      unfold Tb.gtV
      rw [e1, if_neg Bool.false_ne_true]
      exact tget_free h hk hf
  · have e0 : hasB s.n q = false := by
      unfold hasB
      by_cases h0 : 0 ≤ q
      · rw [show decide (q < (s.n : Int)) = false from decide_eq_false (by omega), Bool.and_false]
      · rw [show decide (0 ≤ q) = false from decide_eq_false h0, Bool.false_and]
    have e1 : s.isF q = false := by
      show (hasB s.n q && s.ful q.toNat) = false
      rw [e0, Bool.false_and]
    unfold Tb.gtV
    rw [e1, if_neg Bool.false_ne_true]
    refine tget_out fun W hW => ?_
    have := thas_c W p _ s.n c (blk_cell (PTY.step h hW).blk 0) q
    rwa [e0] at this
theorem tdrop_un {pa : Option Addr} (hc : Calls Try.prog 60 #[.pointer pa] w (ret (.bool false) w)) (i : Int) : Calls Try.prog 41 #[.pointer pa, .int .i64 i] w (ret (.int .i64 1) w) := by
  have HC := Lib.hid hc
  clear hc
  go_enter Try.func41, Try.ntmps41
  go_wp2_with (first
    | (go_at_call 60
       refine HC.out.mono ?_
       rintro e u ⟨rfl, hb⟩
       have HB := Lib.hid hb
       clear hb))
  go_ret
  exact ⟨rfl, HB.out⟩
theorem tdrop_out (h : PTX w p g c e s F) {i : Int} (hi : hasB s.n i = false) : Calls Try.prog 41 #[.pointer (some ⟨p, 0, none⟩), .int .i64 i] w (ret (.int .i64 2) w) := by
  have HX := Lib.hid h
  have HM := Lib.hid (tmade_yes (blk_cell (PTY.blk h) 0) (PTY.pos h).1)
  have HC : Hid (∀ W, Below w.heap.size w W → Calls Try.prog 67 #[.pointer (some ⟨p, 0, none⟩), .int .i64 i] W (ret (.bool false) W)) := Lib.hid fun W hW => by
    have := thas_c W p _ s.n c (blk_cell (PTY.step h hW).blk 0) i
    rwa [hi] at this
  clear h hi
  go_enter Try.func41, Try.ntmps41
  go_wp2_with (first
    | (go_at_call 60
       refine HM.out.mono ?_
       rintro e u ⟨rfl, hb⟩
       have HB := Lib.hid hb
       clear hb)
    | (go_at_call 67
       refine (HC.out _ HB.out).mono ?_
       rintro e u2 ⟨rfl, hb⟩
       have HB2 := Lib.hid (HB.out.trans (hb.mono HB.out.size))
       clear hb))
  go_ret
  exact ⟨rfl, HB2.out⟩
theorem tdrop_free (h : PTX w p g c e s F) {k : Nat} (hk : k < s.n) (hf : s.ful k = false) : Calls Try.prog 41 #[.pointer (some ⟨p, 0, none⟩), .int .i64 (k : Int)] w (ret (.int .i64 7) w) := by
  have HX := Lib.hid h
  have HM := Lib.hid (tmade_yes (blk_cell (PTY.blk h) 0) (PTY.pos h).1)
  have HC : Hid (∀ W, Below w.heap.size w W → Calls Try.prog 67 #[.pointer (some ⟨p, 0, none⟩), .int .i64 (k : Int)] W (ret (.bool true) W)) := Lib.hid fun W hW => by
    have := thas_c W p _ s.n c (blk_cell (PTY.step h hW).blk 0) (k : Int)
    rwa [show hasB s.n (k : Int) = true from by unfold hasB; simp; omega] at this
  have i0 : (0 : Int) ≤ (k : Int) := by omega
  have i1 : (k : Int) < (s.n : Int) := by omega
  have i2 : ((k : Int)).toNat = k := by omega
  have cap := PTY.cap h
  have cap9 := PTY.cap9 h
  obtain ⟨a, ha⟩ : ∃ a, a = stc s k := ⟨_, rfl⟩
  have ha1 : a ≠ 1 := by rw [ha]; exact stc_not hf
  have hne : ((a : Int) != 1) = true := by simp; omega
  have HCE : Hid (∀ W, Below w.heap.size w W → W.cell? ⟨g, k * 3, none⟩ = some (.int .u8 (a : Int))) := Lib.hid fun W hW => by
    rw [ha]
    exact PTX.c0 (PTY.step h hW) hk
  clear h ha ha1 hf hk
  go_enter Try.func41, Try.ntmps41
  go_wp2_with (first
    | (go_at_call 60
       refine HM.out.mono ?_
       rintro e u ⟨rfl, hb⟩
       have HB := Lib.hid hb
       clear hb)
    | (go_at_call 67
       refine (HC.out _ HB.out).mono ?_
       rintro e u2 ⟨rfl, hb⟩
       have HB2 := Lib.hid (HB.out.trans (hb.mono HB.out.size))
       have x0 : u2.cell? ⟨p, 0, none⟩ = some (.slice (some ⟨g, 0, none⟩) s.n c) := blk_cell (PTY.step HX.out HB2.out).blk 0
       have xc := HCE.out u2 HB2.out
       clear hb))
  go_ret
  exact ⟨rfl, HB2.out⟩
set_option maxHeartbeats 1000000 in
theorem tdrop_yes (h : PTX w p g c e s F) {k : Nat} (hk : k < s.n) (hf : s.ful k = true) (hm : s.mrk k = false) : Calls Try.prog 41 #[.pointer (some ⟨p, 0, none⟩), .int .i64 (k : Int)] w fun r w' => r = .returned (.int .i64 0) ∧ (∃ e', PTX w' p g c e' (s.gone k) F) ∧ Kept F w w' := by
  have HX := Lib.hid h
  have HM := Lib.hid (tmade_yes (blk_cell (PTY.blk h) 0) (PTY.pos h).1)
  have HC : Hid (∀ W, Below w.heap.size w W → Calls Try.prog 67 #[.pointer (some ⟨p, 0, none⟩), .int .i64 (k : Int)] W (ret (.bool true) W)) := Lib.hid fun W hW => by
    have := thas_c W p _ s.n c (blk_cell (PTY.step h hW).blk 0) (k : Int)
    rwa [show hasB s.n (k : Int) = true from by unfold hasB; simp; omega] at this
  have i0 : (0 : Int) ≤ (k : Int) := by omega
  have i1 : (k : Int) < (s.n : Int) := by omega
  have i2 : ((k : Int)).toNat = k := by omega
  have cap := PTY.cap h
  have cap9 := PTY.cap9 h
  have HCE : Hid (∀ W, Below w.heap.size w W → W.cell? ⟨g, k * 3, none⟩ = some (.int .u8 1)) := Lib.hid fun W hW => by
    have := PTX.c0 (PTY.step h hW) hk
    rw [stc_ful hf] at this
    exact this
  have HL := Lib.hid fun W (hW : Below w.heap.size w W) => tlay_gone (PTY.step h hW) hk hf hm
  clear h hf hk hm
  go_enter Try.func41, Try.ntmps41
  go_wp2_with (first
    | (go_at_call 60
       refine HM.out.mono ?_
       rintro e u ⟨rfl, hb⟩
       have HB := Lib.hid hb
       clear hb)
    | (go_at_call 67
       refine (HC.out _ HB.out).mono ?_
       rintro e u2 ⟨rfl, hb⟩
       have HB2 := Lib.hid (HB.out.trans (hb.mono HB.out.size))
       have x0 : u2.cell? ⟨p, 0, none⟩ = some (.slice (some ⟨g, 0, none⟩) s.n c) := blk_cell (PTY.step HX.out HB2.out).blk 0
       have xc := HCE.out u2 HB2.out
       clear hb)
    | (go_at_call 62
       refine (HL.out _ HB2.out).mono ?_
       rintro e u3 ⟨rfl, hx, hkk⟩
       have HX3 := Lib.hid hx
       have HK3 : Hid (Kept F w u3) := Lib.hid ((Kept.of_below HB2.out F).trans hkk fun _ _ q => q)
       clear hx hkk))
  go_ret
  exact ⟨rfl, HX3.out, HK3.out⟩
theorem tdrop_any (h : PTX w p g c e s F) (hs : s.Ok) (q : Int) : Calls Try.prog 41 #[.pointer (some ⟨p, 0, none⟩), .int .i64 q] w fun r w' => r = .returned (.int .i64 (s.drE q)) ∧ (∃ e', PTX w' p g c e' (s.dr q) F) ∧ Kept F w w' := by
  by_cases hq : 0 ≤ q ∧ q < (s.n : Int)
  · obtain ⟨k, rfl⟩ := Int.eq_ofNat_of_zero_le hq.1
    have hk : k < s.n := by omega
    have hd : (decide ((0 : Int) ≤ (k : Int)) && decide ((k : Int) < (s.n : Int))) = true := by simp; omega
    cases hf : s.ful k with
    | true =>
      have hm : s.mrk k = false := by
        cases hm : s.mrk k with
        | false => rfl
        | true =>
          have := hs.one k hm
          rw [hf] at this
          cases this
      have e1 : s.isF (k : Int) = true := by unfold Tb.isF; simp [hf]; omega
      unfold Tb.drE Tb.dr
      rw [e1, if_pos rfl, hd, if_pos rfl, show ((k : Int)).toNat = k from by omega, hf, if_pos rfl]
      exact tdrop_yes h hk hf hm
    | false =>
      have e1 : s.isF (k : Int) = false := by unfold Tb.isF; simp [hf]
      unfold Tb.drE Tb.dr
      rw [e1, if_neg Bool.false_ne_true, hd, if_pos rfl, show ((k : Int)).toNat = k from by omega, hf, if_neg Bool.false_ne_true]
      refine (tdrop_free h hk hf).mono ?_
      rintro r w' ⟨rfl, hb⟩
      exact ⟨rfl, ⟨e, PTY.step h hb⟩, Kept.of_below hb F⟩
  · have e0 : hasB s.n q = false := by
      unfold hasB
      by_cases h0 : 0 ≤ q
      · rw [show decide (q < (s.n : Int)) = false from decide_eq_false (by omega), Bool.and_false]
      · rw [show decide (0 ≤ q) = false from decide_eq_false h0, Bool.false_and]
    have e1 : s.isF q = false := by
      show (hasB s.n q && s.ful q.toNat) = false
      rw [e0, Bool.false_and]
    unfold Tb.drE Tb.dr
    rw [e1, if_neg Bool.false_ne_true, show (decide (0 ≤ q) && decide (q < (s.n : Int))) = false from e0, if_neg Bool.false_ne_true]
    refine (tdrop_out h e0).mono ?_
    rintro r w' ⟨rfl, hb⟩
    exact ⟨rfl, ⟨e, PTY.step h hb⟩, Kept.of_below hb F⟩
end
end Go.Proofs.Ythjghofjdcepmaa
/- What every law's proof ends with, over any program: the call answered true and turned nothing that was there: so the arguments read as they did. And how a slice of bytes that came in is opened. -/
namespace Go.Proofs.Ythjghofjdcepmaa
open Go.ChangeShapes Go.WideShapes Go.ChangeAt Go.RowKit

section
variable {H : Type} {enc : TypeId × Value → H} {P : Program}

theorem trodAll_kept (hl : laidOutB P = true) {W W' : World} (hb : Below W.heap.size W W') (sp : Nat → Bool) :
    ∀ (ts : List TypeId) (vs : List Value) (ds : List (DataW H)) (ps : List MemPlace), (∀ t ∈ ts, P.readableRec t = true ∧ t < P.types.size) →
      DataW.TrodAll enc P W 0 (fun _ => true) true ts vs ds ps → (∀ x ∈ ps, x.block < W.heap.size) → (∀ x ∈ ps, sp x.block = true) → DataW.TrodAll enc P W' 0 sp true ts vs ds ps
  | [], _, _, _, _, h, _, _ => by
    obtain ⟨rfl, rfl, rfl⟩ := trodAll_nil h
    exact trodAll_mk0
  | t :: ts, _, _, _, hr, h, hlt, hsp => by
    obtain ⟨v, vs1, d, ds1, a, b, rfl, rfl, rfl, h1, h2⟩ := trodAll_cons h
    have h3 := WideElems.Trod_stays (sp' := sp) hl (hr t (by simp)).1 (hr t (by simp)).2 h1 (fun x hx => hb.same (hlt x (by simp [hx]))) (fun x hx => hsp x (by simp [hx]))
    exact trodAll_cons_mk h3 (trodAll_kept hl hb sp ts vs1 ds1 b (fun t ht => hr t (by simp [ht])) h2 (fun x hx => hlt x (by simp [hx])) (fun x hx => hsp x (by simp [hx])))

/-- The row's last step: true, the arguments as they were, of memory that was there nothing turned. -/
theorem law_post {f : Func} {s : ChangeSpec} {apart fresh handsOn again : Bool} {W W' : World} {args : Array Value} {tb : TypeId} {ds : List (DataW H)} {before : List MemPlace}
    (hW : DataW.Whole enc P f.params.toList s.vars apart W args.toList ds [] before) (hb : Below W.heap.size W W') (hl : laidOutB P = true) (hvars : s.vars = [])
    (hr : f.params.toList.all (fun t => P.readableRec t && decide (t < P.types.size)) = true) (hres : f.resultTypes = #[tb]) (htb : P.underlying tb = some .bool)
    (hs : s.fn H (ds ++ []) = { results := [.lit (.bool true)], args := ds }) :
    s.post enc P f apart fresh handsOn again W args (.bool true) W' := by
  have hr' : ∀ t ∈ f.params.toList, P.readableRec t = true ∧ t < P.types.size := fun t ht => by
    have := List.all_eq_true.1 hr t ht
    simpa using this
  have hlt : ∀ p ∈ before, p.block < W.heap.size := fun p hp => hW.lt p hp
  have hold : ∀ p ∈ before, (fun b => decide (b < W.heap.size)) p.block = true := fun p hp => by simpa using hlt p hp
  obtain ⟨p, q, hA, hV, hpq, hz, hn⟩ := id hW
  rw [hvars] at hV
  obtain ⟨_, rfl⟩ := trodVars_none hV
  rw [List.append_nil] at hpq
  subst hpq
  have hargs : ∀ sp : Nat → Bool, (∀ x ∈ before, sp x.block = true) → DataW.TrodAll enc P W' 0 sp true f.params.toList args.toList ds before := fun sp hsp => trodAll_kept hl hb sp _ _ _ _ hr' hA hlt hsp
  have hvs : ∀ sp : Nat → Bool, DataW.TrodVars enc P W' sp s.vars ([] : List (DataW H)) [] := fun sp => by rw [hvars]; exact rfl
  have hrs : ∀ (b : Nat) (sp : Nat → Bool) (hd : Bool), DataW.TrodAll enc P W' b sp hd f.resultTypes.toList ((Value.bool true).resultList f.resultTypes.size) [.lit (.bool true)] [] := fun b sp hd => by
    rw [hres]
    exact trodAll_cons_mk (shut_bool htb true) trodAll_mk0
  refine ⟨ds, [], before, [], before, [], hW, ?_, ?_, ?_, World.keptBut_mono (fun x hx => ⟨hx, Or.inr (Or.inl hx)⟩) (hb.frame (· ∈ before)), fun _ => ⟨?_, [.lit (.bool true)] ++ ds, [], before, ?_, fun x hx _ => hx⟩⟩
  · rw [hs]; exact hrs _ _ _
  · rw [hs]; exact hargs _ hold
  · rw [hs]; exact hvs _
  · exact ok_one hres rfl (okWide_bool_mk htb true)
  · refine ⟨before, [], trodAll_append (hargs _ (fun _ _ => rfl)) (hrs _ _ _), hvs _, by simp, ?_, hn⟩
    intro b off hp
    rw [hb.frozen (p := ⟨b, off, none⟩) (hlt _ hp)]
    exact hz b off hp

/-- A slice of bytes that came in. -/
theorem open_rd {W : World} {r : Reach} {b0 : Nat} {t e : TypeId} {v : Value} {d : DataW H} {p : List MemPlace} (ht : P.underlying t = some (.slice e)) (he : P.underlying e = some (.int .u8)) (hc : P.cellsOf e = 1)
    (hv : Value.okWide P W r b0 t v) (h : DataW.Trod enc P W 0 (fun _ => true) true t v d p) :
    ∃ A n c f, v = .slice A n c ∧ n ≤ c ∧ c ≤ maxLen ∧ Byt f ∧ Rd W W.heap.size A n f := by
  obtain ⟨a0, len, cap, rfl⟩ := okWide_slice ht hv
  obtain ⟨fuel, hf⟩ := h
  rcases open_ints ht he hc hf with ⟨hcs, _⟩ | ⟨a, len', cap', zs, hcs, _, hl, hm, hz, _, hcell, hwz⟩
  · simp [Value.cells] at hcs
    obtain ⟨rfl, rfl, rfl⟩ := hcs
    exact ⟨none, 0, 0, fun _ => 0, rfl, Nat.le_refl _, Nat.zero_le _, fun _ => ⟨Int.le_refl 0, (by decide : (0 : Int) ≤ 255)⟩, .inl rfl⟩
  · simp [Value.cells] at hcs
    obtain ⟨rfl, rfl, rfl⟩ := hcs
    simp only [if_true] at hz
    refine ⟨some a, len, cap, fun k => zs.getD k 0, rfl, hl, hm, fun k => ?_, ?_⟩
    · by_cases hk : k < zs.length
      · have hm := hwz (zs.getD k 0) (by simp [List.getD, hk])
        simpa [Lit.wf, IntKind.min, IntKind.max, IntKind.signed, IntKind.bits] using hm
      · have e0 : zs.getD k 0 = 0 := by simp [List.getD, hk]
        show 0 ≤ zs.getD k 0 ∧ zs.getD k 0 ≤ 255
        omega
    · rcases Nat.eq_zero_or_pos len with h0 | h0
      · exact .inl h0
      · obtain ⟨b, off, spot⟩ := a
        have hspot : spot = none := by simpa [Addr.add] using World.cell?_spot (hcell 0 (by omega))
        subst hspot
        have hlt := World.block_lt_of_cell? W _ (hcell 0 (by omega))
        exact .inr ⟨b, off, rfl, by simpa [Addr.add] using hlt, fun k hk => by rw [← add_plain]; exact hcell k (by omega)⟩

/-- An array of bytes that came in. -/
theorem open_bytes_arr {W : World} {r : Reach} {b0 n : Nat} {t e : TypeId} {v : Value} {d : DataW H} {p : List MemPlace} (ht : P.underlying t = some (.array n e)) (he : P.underlying e = some (.int .u8)) (hc : P.cellsOf e = 1) (hC : P.cellsOf t = n)
    (hv : Value.okWide P W r b0 t v) (h : DataW.Trod enc P W 0 (fun _ => true) true t v d p) : ∃ f, Byt f ∧ v = .agg ((nums n f).map (Value.int .u8)).toArray := by
  have hv' : ∃ cs, v = .agg cs ∧ cs.size = P.cellsOf t := by
    simp only [Value.okWide, ht] at hv
    obtain ⟨cs, h1, h2, _⟩ := hv
    exact ⟨cs, h1, h2⟩
  obtain ⟨cs, rfl, hsz⟩ := hv'
  rw [hC] at hsz
  obtain ⟨fuel, hf⟩ := h
  obtain ⟨xs, m, _, _, _, hl, hg⟩ := DataW.trod_array ht hf
  have each : ∀ k, k < n → ∃ x, cs[k]? = some (.int .u8 x) ∧ 0 ≤ x ∧ x ≤ 255 := by
    intro k hk
    have e1 := hg k hk
    rw [hc, Nat.mul_one] at e1
    have hx : xs[k]? = some (xs[k]'(by omega)) := List.getElem?_eq_getElem (by omega)
    rw [hx] at e1
    obtain ⟨x, e2, _, e3⟩ := DataW.trod_int he e1
    have hlen : k < cs.toList.length := by simpa [hsz] using hk
    have e4 : ((Value.agg cs).cells.toList.drop k).take 1 = [cs.toList[k]] := by
      simp only [Value.cells]
      rw [List.drop_eq_getElem_cons hlen]
      rfl
    rw [e4] at e2
    have e5 : cs.toList[k] = .int .u8 x := by simpa using e2
    refine ⟨x, ?_, by simpa [Lit.wf, IntKind.min, IntKind.max, IntKind.signed, IntKind.bits] using e3⟩
    rw [← Array.getElem?_toList, List.getElem?_eq_getElem hlen, e5]
  refine ⟨fun k => match cs[k]? with | some (.int .u8 x) => x | _ => 0, fun k => ?_, ?_⟩
  · show 0 ≤ (match cs[k]? with | some (.int .u8 x) => x | _ => (0 : Int)) ∧ (match cs[k]? with | some (.int .u8 x) => x | _ => (0 : Int)) ≤ 255
    by_cases hk : k < n
    · obtain ⟨x, e1, e2⟩ := each k hk
      rw [e1]
      exact e2
    · have e1 : cs[k]? = none := by simp [hsz]; omega
      rw [e1]
      exact ⟨Int.le_refl 0, (by decide : (0 : Int) ≤ 255)⟩
  · congr 1
    refine Array.ext_getElem? fun k => ?_
    by_cases hk : k < n
    · obtain ⟨x, e1, _⟩ := each k hk
      rw [e1]
      simp [nums, List.getElem?_map, List.getElem?_range hk, e1]
    · have e1 : cs[k]? = none := by simp [hsz]; omega
      rw [e1]
      symm
      exact Array.getElem?_eq_none (by rw [List.size_toArray, List.length_map, nums_len]; omega)
end
end Go.Proofs.Ythjghofjdcepmaa
/- A range over a function whose body is told what comes: the list that is told is known, and each round is at its place in it; what a loop's variable is laid in; over any program. -/
namespace Go.Proofs.Ythjghofjdcepmaa
open Go.RowKit
/-- An iterator that tells T, one by one, as far as it is asked: a round that goes on keeps what Kp says; one that doesn't may do whatever. -/
def SeqP {α : Type} (F : Fence) (n : Nat) (P : Program) (g : Nat) (lb : Array Value) (encs : α → Array Value) (Kp : World → World → Prop) (T : List α) (w : World) : Prop :=
  ∀ (l : Nat) (J Jx : List α → World → Prop) (W : World), Below w.heap.size w W → AbidesFrom W.heap.size J → AbidesFrom W.heap.size Jx →
    (∀ pre x W1, J pre W1 → pre ++ [x] <+: T → YieldAt F (n - 1) P l (encs x) W1 fun e W' =>
      (e = .returned (.bool true) ∧ J (pre ++ [x]) W' ∧ Kp W1 W') ∨ (e = .returned (.bool false) ∧ Jx (pre ++ [x]) W')) →
    J [] W →
    CallsIn F n P g (#[.func (.yield l) #[] #[]] ++ lb) W fun e W' => (∃ v, e = .returned v) ∧ (J T W' ∨ ∃ pre, pre <+: T ∧ Jx pre W')
theorem wpIn_rangeFunc_P {F : Fence} {n : Nat} {P : Program} {α : Type} {g : Operand} {ps : Array Tmp} {assign body : Code} {Q : Exit → Act → World → Prop} {a : Act} {w : World}
    (hro : F.round = none) (h1 : 1 ≤ n) {gf : Nat} {lb : Array Value} (hg : a.eval g = .func (.func gf) #[] lb) (hFg : F.fn gf) (eg : ∀ args w, (callFunc gf args).run P w = .ok (.enter gf args) w)
    {encs : α → Array Value} {Kp : World → World → Prop} {T : List α} {w0 : World} (hseq : SeqP F (n - 1) P gf lb encs Kp T w0) (hb0 : Below w0.heap.size w0 w) (hps : ∀ x, (encs x).size = ps.size)
    (hKt : ∀ {A B C : World}, Kp A B → Kp B C → Kp A C) (hKb : ∀ (W : World) (l : Nat) (o o' : Obj), w.heap.size ≤ l → W.heap[l]? = some o → o.isCells = false → o.isWalk = false → Kp W (W.putObj l o'))
    (I : List α → World → Prop) (Ix : Code → List α → World → Prop) (hI : OwnFrom w.heap.size I) (hIx : ∀ c, OwnFrom w.heap.size (Ix c)) (h0 : I [] w)
    (Ax : List α → α → Act → World → Prop) (hAx : ∀ pre x a', OwnFrom w.heap.size (fun (_ : Unit) W => Ax pre x a' W))
    (hassign : ∀ (l : Nat) (pre : List α) (x : α) (W : World), I pre W → pre ++ [x] <+: T →
      assign.wpIn (F.inRound l) (n - 1 - 1) P (Exit.then (fun a' W' => KeepsFrom w.heap.size W W' ∧ Kp W W' ∧ Ax pre x a' W') (fun _ _ _ => False)) { tmps := (ps.zip (encs x)).foldl (fun t (p, v) => t.setIfInBounds p v) a.tmps, defers := [] } W)
    (hbody : ∀ (l : Nat) (pre : List α) (x : α) (a' : Act) (W : World), pre ++ [x] <+: T → Ax pre x a' W → body.wpIn (F.inRound l) (n - 1 - 1) P (ownPostG w.heap.size Kp I Ix (pre ++ [x]) W) a' W)
    (hdone : ∀ (D : Nat) (W : World), w.heap.size ≤ D → I T W → W.heap[D]? = some (.deferred (some [])) → Q .normal { a with defers := { target := .collected D, args := #[] } :: a.defers } W)
    (hstop : ∀ (D : Nat) (c : Code) (pre : List α) (W : World), w.heap.size ≤ D → pre <+: T → Ix c pre W → W.heap[D]? = some (.deferred (some [])) → c.wpIn F n P Q { a with defers := { target := .collected D, args := #[] } :: a.defers } W) :
    (Code.rangeFunc g ps assign body).wpIn F n P Q a w := by
  refine wpIn_rangeFunc ?_
  intro fn hfn
  rw [hro]
  obtain ⟨rec, hrec⟩ : ∃ rec : LoopState → Option Code → Loop, rec = fun st pe => { state := st, pending := pe, fn, tmps := a.tmps, params := ps, assign, body, defers := w.heap.size } := ⟨_, rfl⟩
  obtain ⟨d, hd⟩ : ∃ d, d = w.heap.size := ⟨_, rfl⟩
  obtain ⟨r, hr⟩ : ∃ r, r = w.heap.size + 1 := ⟨_, rfl⟩
  have hdr : d ≠ r := by omega
  -- what the law itself keeps by it
  obtain ⟨BK, hBK⟩ : ∃ BK : LoopState → Option Code → World → Prop, BK = fun st pe W => W.heap[r]? = some (.loop (rec st pe)) ∧ W.heap[d]? = some (.deferred (some [])) := ⟨_, rfl⟩
  have bkG : ∀ {st : LoopState} {pe : Option Code} {A B : World}, KeepsFrom w.heap.size A B → BK st pe A → BK st pe B := fun hk h => by
    rw [hBK] at h ⊢
    exact ⟨hk.same _ _ (by omega) h.1 rfl, hk.same _ _ (by omega) h.2 rfl⟩
  have bkA : ∀ {st : LoopState} {pe : Option Code} {A B : World} {row : Option Nat}, A.grownBy B row → (∀ k, row = some k → ∃ o : Obj, A.heap[k]? = some o ∧ o.isWalk = true) → BK st pe A → BK st pe B := fun hg hw h => by
    rw [hBK] at h ⊢
    exact ⟨(grownBy_keeps hg hw h.1 rfl).trans h.1, (grownBy_keeps hg hw h.2 rfl).trans h.2⟩
  have bkP : ∀ {st : LoopState} {pe : Option Code} {st' : LoopState} {pe' : Option Code} {A : World}, BK st pe A → BK st' pe' (A.putObj r (.loop (rec st' pe'))) := fun h => by
    rw [hBK] at h ⊢
    exact ⟨World.putObj_heap_same (Array.getElem?_eq_some_iff.1 h.1).1, (World.putObj_heap_other hdr).trans h.2⟩
  have bkR : ∀ {st : LoopState} {pe : Option Code} {A : World}, BK st pe A → A.heap[r]? = some (.loop (rec st pe)) := fun h => by
    rw [hBK] at h
    exact h.1
  have bkD : ∀ {st : LoopState} {pe : Option Code} {A : World}, BK st pe A → A.heap[d]? = some (.deferred (some [])) := fun h => by
    rw [hBK] at h
    exact h.2
  obtain ⟨W1, hW1⟩ : ∃ W1, (w.alloc (.deferred (some []))).alloc (.loop (rec .ready none)) = W1 := ⟨_, rfl⟩
  have hB1 : BK .ready none W1 := by
    rw [hBK, ← hW1, hr, hd]
    refine ⟨?_, (Below.heap_alloc _ _ _ (by simp)).trans (World.alloc_heap_new w _)⟩
    have := World.alloc_heap_new (w.alloc (.deferred (some []))) (.loop (rec .ready none))
    rwa [World.size_alloc] at this
  have hI1 : I [] W1 := by
    rw [← hW1]
    exact hI.alloc _ (hI.alloc _ h0)
  have hb1 : Below w0.heap.size w0 W1 := by
    rw [← hW1]
    exact hb0.trans ((((Below.refl _ w).alloc (Nat.le_refl _) _).alloc (by simp) _).mono hb0.size)
  have hs1 : w.heap.size ≤ W1.heap.size := by
    rw [← hW1]
    simp
    omega
  refine ⟨w.heap.size + 1, [{ target := .collected w.heap.size, args := #[] }], W1, { target := .fn (.func gf) lb, args := #[.func (.yield (w.heap.size + 1)) #[] #[]] }, W1, gf,
    #[.func (.yield (w.heap.size + 1)) #[] #[]] ++ lb, W1, ?_, ?_, ?_, ?_, fun _ => h1, ?_⟩
  · rw [← hW1, hrec]
    exact run_enterLoop_outer _ _ _ _ _
  · simp only [resolve, hg]
    simp [go_sem]
  · intro f' hf'
    simp [Target.leads] at hf'
    subst hf'
    exact hFg
  · simp [invoke, go_sem, eg]
  rw [← hr]
  refine (hseq r (fun pre W => I pre W ∧ BK .ready none W) (fun pre W => ∃ c, Ix c pre W ∧ BK .done (some c) W) W1 hb1 ?_ ?_ ?_ ⟨hI1, hB1⟩).mono ?_
  · rintro s A B row ⟨hs, hk⟩ hg' hw
    have hw' : ∀ k, row = some k → ∃ o : Obj, A.heap[k]? = some o ∧ o.isWalk = true := fun k e => (hw k e).2
    exact ⟨hI s A B row hs hg' fun k e => by obtain ⟨h, o, ho, hw⟩ := hw k e; exact ⟨Nat.le_trans hs1 h, o, ho, Obj.not_cells_of_walk hw⟩, bkA hg' hw' hk⟩
  · rintro s A B row ⟨c, hs, hk⟩ hg' hw
    have hw' : ∀ k, row = some k → ∃ o : Obj, A.heap[k]? = some o ∧ o.isWalk = true := fun k e => (hw k e).2
    exact ⟨c, hIx c s A B row hs hg' fun k e => by obtain ⟨h, o, ho, hw⟩ := hw k e; exact ⟨Nat.le_trans hs1 h, o, ho, Obj.not_cells_of_walk hw⟩, bkA hg' hw' hk⟩
  · rintro pre x W ⟨hi, hk⟩ hx
    have hy := run_yield (P := P) (args := encs x) (bkR hk) (by rw [hrec]; exact hps x)
    rw [hrec] at hy
    refine ⟨fn, _, assign, body, hy, roundIn_of_wpIn hfn (wpIn_mono (hassign r pre x W hi hx) ?_)⟩
    clear hy
    rintro e a' Wa he
    cases e with
    | normal =>
      obtain ⟨hkf, hkp, hax⟩ := he
      have hka := bkG hkf hk
      have hbr := run_beginRound (P := P) (bkR hka) (by rw [hrec])
      refine ⟨_, hbr, ?_⟩
      have ebusy : ({ rec .ready none with state := .busy } : Loop) = rec .busy none := by rw [hrec]
      rw [ebusy]
      have hkb := bkP (st' := .busy) (pe' := none) hka
      have hkp2 : Kp W (Wa.putObj r (.loop (rec .busy none))) := hKt hkp (hKb _ _ _ _ (by omega) (bkR hka) rfl rfl)
      refine wpIn_mono (hbody r pre x a' _ hx ((hAx pre x a').putObj (s := ()) _ hax (by omega) (bkR hka) rfl)) ?_
      have fin : ∀ (jump : Option Code) (W3 : World), KeepsFrom w.heap.size (Wa.putObj r (.loop (rec .busy none))) W3 →
          (Instr.endRound r jump).run P W3 = .ok (.bool jump.isNone) (W3.putObj r (.loop (rec (if jump.isNone then .ready else .done) jump))) ∧ BK .busy none W3 ∧ BK (if jump.isNone then .ready else .done) jump (W3.putObj r (.loop (rec (if jump.isNone then .ready else .done) jump))) := fun jump W3 h3 => by
        have hk3 := bkG h3 hkb
        have h := run_endRound (P := P) jump (r := rec .busy none) (bkR hk3)
        refine ⟨?_, hk3, bkP hk3⟩
        rw [hrec] at h ⊢
        exact h
      rintro e a3 W3 hp
      cases e with
      | normal =>
        obtain ⟨h3, hp3, hi3⟩ := hp
        obtain ⟨he, hk3, hk4⟩ := fin none W3 h3
        exact ⟨_, _, he, .inl ⟨rfl, ⟨hI.putObj _ hi3 (by omega) (bkR hk3) rfl, hk4⟩, hKt (hKt hkp2 hp3) (hKb _ _ _ _ (by omega) (bkR hk3) rfl rfl)⟩⟩
      | ret =>
        obtain ⟨h3, hi3⟩ := hp
        obtain ⟨he, hk3, hk4⟩ := fin (some .ret) W3 h3
        exact ⟨_, _, he, .inr ⟨rfl, .ret, (hIx _).putObj _ hi3 (by omega) (bkR hk3) rfl, hk4⟩⟩
      | exit id =>
        obtain ⟨h3, hi3⟩ := hp
        obtain ⟨he, hk3, hk4⟩ := fin (some (.exit id)) W3 h3
        exact ⟨_, _, he, .inr ⟨rfl, .exit id, (hIx _).putObj _ hi3 (by omega) (bkR hk3) rfl, hk4⟩⟩
      | goto t =>
        obtain ⟨h3, hi3⟩ := hp
        obtain ⟨he, hk3, hk4⟩ := fin (some (.goto t)) W3 h3
        exact ⟨_, _, he, .inr ⟨rfl, .goto t, (hIx _).putObj _ hi3 (by omega) (bkR hk3) rfl, hk4⟩⟩
      | panic ch => exact hp.elim
      | outgrown => exact hp.elim
    | ret => exact he.elim
    | exit id => exact he.elim
    | goto t => exact he.elim
    | panic ch => exact he.elim
    | outgrown => exact he.elim
  · rintro e W2 ⟨⟨v, rfl⟩, h⟩
    subst hd
    rcases h with ⟨hi, hk⟩ | ⟨pre, hpre, c, hi, hk⟩
    · have h := run_endLoop (P := P) (bkR hk) (by rw [hrec]; simp)
      have q := hdone w.heap.size _ (Nat.le_refl _) (hI.putObj (Obj.loop { rec .ready none with state := .exhausted }) hi (by omega) (bkR hk) rfl) ((World.putObj_heap_other hdr).trans (bkD hk))
      exact ⟨none, _, by rw [hrec] at h ⊢; exact h, q⟩
    · have h := run_endLoop (P := P) (bkR hk) (by rw [hrec]; simp)
      have q := hstop w.heap.size c pre _ (Nat.le_refl _) hpre ((hIx c).putObj (Obj.loop { rec .done (some c) with state := .exhausted }) hi (by omega) (bkR hk) rfl) ((World.putObj_heap_other hdr).trans (bkD hk))
      exact ⟨some c, _, by rw [hrec] at h ⊢; exact h, q⟩
theorem lt_heap' {w : World} {k : Nat} {o : Obj} (h : w.heap[k]? = some o) : k < w.heap.size := (Array.getElem?_eq_some_iff.1 h).1
/-- Cells lie as they lay, but for those of R. -/
def KeptC (R : Nat → Prop) (w w' : World) : Prop := w.heap.size ≤ w'.heap.size ∧ ∀ k cs t fr, w.heap[k]? = some (.cells cs t fr) → ¬ R k → w'.heap[k]? = some (.cells cs t fr)
theorem KeptC.refl (R : Nat → Prop) (w : World) : KeptC R w w := ⟨Nat.le_refl _, fun _ _ _ _ h _ => h⟩
theorem KeptC.of_kept {R : Nat → Prop} {w w' : World} (h : Kept R w w') : KeptC R w w' := ⟨h.size, fun k _ _ _ hk hR => (h.block k (lt_heap hk) hR).trans hk⟩
theorem KeptC.of_below {w w' : World} (h : Below w.heap.size w w') (R : Nat → Prop) : KeptC R w w' := .of_kept (Kept.of_below h R)
theorem keptC_t {R : Nat → Prop} {A B C : World} (h : KeptC R A B) (k : KeptC R B C) : KeptC R A C := ⟨Nat.le_trans h.1 k.1, fun j cs t fr hj hR => k.2 j cs t fr (h.2 j cs t fr hj hR) hR⟩
theorem keptC_b {R : Nat → Prop} {n : Nat} (W : World) (l : Nat) (o o' : Obj) (_ : n ≤ l) (hl : W.heap[l]? = some o) (ho : o.isCells = false) (_ : o.isWalk = false) : KeptC R W (W.putObj l o') :=
  ⟨by simp [World.putObj], fun k cs t fr hk _ => (World.putObj_heap_other (fun e => by
    subst e
    rw [hl] at hk
    injection hk with hk
    subst hk
    cases ho)).trans hk⟩
theorem cells_of_cell {w : World} {a : Addr} {v : Value} (h : w.cell? a = some v) : ∃ cs t fr, w.heap[a.block]? = some (.cells cs t fr) := by
  unfold World.cell? at h
  split at h
  · exact ⟨_, _, _, by assumption⟩
  · cases h
theorem KeptC.same {R : Nat → Prop} {w w' : World} (h : KeptC R w w') {a : Addr} {v : Value} (ha : w.cell? a = some v) (hR : ¬ R a.block) : w'.heap[a.block]? = w.heap[a.block]? := by
  obtain ⟨cs, t, fr, hk⟩ := cells_of_cell ha
  rw [hk]
  exact h.2 _ cs t fr hk hR
theorem KeptC.cell {R : Nat → Prop} {w w' : World} (h : KeptC R w w') {a : Addr} {v : Value} (ha : w.cell? a = some v) (hR : ¬ R a.block) : w'.cell? a = some v := (kept_cell_block (h.same ha hR)).trans ha
theorem keepsFrom_of_kept {R : Nat → Prop} {B : Nat} {W W' : World} (h : Kept R W W') (hR : ∀ k, R k → k < B) : KeepsFrom B W W' :=
  ⟨h.size, fun k _ hB hk _ => (h.block k (lt_heap' hk) fun q => by have := hR k q; omega).trans hk⟩
end Go.Proofs.Ythjghofjdcepmaa
