/- Stage 13: the landed table: an entry laid, a mark laid; Get, Drop. -/
import Derived.Test.YthbjkchgbjopfaaLtc
namespace Go.Proofs.Ythbjkchgbjopfaa
set_option maxRecDepth 100000
open Go.RowKit Go.Shelf
theorem wrap_up {n : Nat} (h : n ≤ 262144) : wrap64 ((n : Int) + 1) = ((n + 1 : Nat) : Int) := by
  rw [← IntWalk.i64_left, IntKind.wrap_i64]
  omega
theorem wrap_dn {n : Nat} (h : n + 1 ≤ 262144) : wrap64 (((n + 1 : Nat) : Int) - 1) = (n : Int) := by
  rw [← IntWalk.i64_left, IntKind.wrap_i64]
  omega
section
variable {w : World} {p g c : Nat} {e : Int} {s : Tb} {F : Nat → Prop}
theorem PTX.top (h : PTX w p g c e s F) : s.n ≤ 262144 := (PTY.pos h).2
theorem tlay_put (h : PTX w p g c e s F) {k : Nat} (hk : k < s.n) (hf : s.ful k = false) (y x : Nat) : Calls Try.prog 30 #[.pointer (some ⟨p, 0, none⟩), .int .i64 (k : Int), .agg #[.int .u8 1, .int .u64 (y : Int), .int .u32 (x : Int)]] w fun r w' => r = .returned (.tuple #[]) ∧ (∃ e', PTX w' p g c e' (s.put k y x) F) ∧ Kept F w w' := by
  have ht := h.top
  have he := put_entries s (h := y) (x := x) hk hf
  have hle := cntI_le s.ful s.n
  have hlm := cntI_le s.mrk s.n
  have hle' : s.entries ≤ 262144 := Nat.le_trans hle ht
  have hlm' : s.marks ≤ 262144 := Nat.le_trans hlm ht
  cases hm : s.mrk k with
  | true =>
    have hc : tcl s (k * 3) = .int .u8 2 := by rw [tcl_0, stc_mrk hf hm]; rfl
    have hk2 := put_marks1 s (h := y) (x := x) hk hm
    refine (tlay_21 h hk hc (y : Int) (x : Int)).mono ?_
    rintro r w' ⟨rfl, hy, hkk⟩
    refine ⟨rfl, ?_, hkk⟩
    rw [← hk2, wrap_dn (by omega), wrap_up hle', ← he] at hy
    exact ⟨_, PTY.same hy fun j => tcl_put s k y x j⟩
  | false =>
    have hc : tcl s (k * 3) = .int .u8 0 := by rw [tcl_0, stc_no hf hm]; rfl
    have hk2 := put_marks0 s (h := y) (x := x) hk hm
    refine (tlay_01 h hk hc (y : Int) (x : Int)).mono ?_
    rintro r w' ⟨rfl, hy, hkk⟩
    refine ⟨rfl, ?_, hkk⟩
    rw [← hk2, wrap_up hle', ← he] at hy
    exact ⟨_, PTY.same hy fun j => tcl_put s k y x j⟩
theorem tlay_gone (h : PTX w p g c e s F) {k : Nat} (hk : k < s.n) (hf : s.ful k = true) (hm : s.mrk k = false) : Calls Try.prog 30 #[.pointer (some ⟨p, 0, none⟩), .int .i64 (k : Int), .agg #[.int .u8 2, .int .u64 0, .int .u32 0]] w fun r w' => r = .returned (.tuple #[]) ∧ (∃ e', PTX w' p g c e' (s.gone k) F) ∧ Kept F w w' := by
  have ht := h.top
  have he := gone_entries s hk hf
  have hle := cntI_le s.ful s.n
  have hlm := cntI_le s.mrk s.n
  have hle' : s.entries ≤ 262144 := Nat.le_trans hle ht
  have hlm' : s.marks ≤ 262144 := Nat.le_trans hlm ht
  have hc : tcl s (k * 3) = .int .u8 1 := by rw [tcl_0, stc_ful hf]; rfl
  have hk2 := gone_marks s hk hm
  refine (tlay_12 h hk hc 0 0).mono ?_
  rintro r w' ⟨rfl, hy, hkk⟩
  refine ⟨rfl, ?_, hkk⟩
  rw [← he, wrap_dn (by omega), wrap_up hlm', ← hk2] at hy
  exact ⟨_, PTY.same hy fun j => tcl_gone s k j⟩
theorem tget_out {pa : Option Addr} {i : Int} (hc : ∀ W, Below w.heap.size w W → Calls Try.prog 33 #[.pointer pa, .int .i64 i] W (ret (.bool false) W)) : Calls Try.prog 23 #[.pointer pa, .int .i64 i] w (ret (.tuple #[.agg #[.int .u64 0, .int .u32 0], .bool false]) w) := by
  have HC := Lib.hid hc
  clear hc
  have HZ : Hid ((w.alloc (.cells #[.int .u64 0, .int .u32 0] 34)).heap[w.heap.size]? = some (.cells #[.int .u64 0, .int .u32 0] 34 (0, 0))) := Lib.hid (heap_alloc_new w _)
  have HB : Hid (Below w.heap.size w (w.alloc (.cells #[.int .u64 0, .int .u32 0] 34))) := Lib.hid (below_alloc w _)
  go_enter Try.func23, Try.ntmps23
  go_upto_region 1 with fail
  change Code.wp _ _ _ _ (w.alloc (.cells #[.int .u64 0, .int .u32 0] 34))
  generalize hv : w.alloc (.cells #[.int .u64 0, .int .u32 0] 34) = v at *
  clear hv
  go_upto_region 2 with (first
    | (go_at_call 33
       refine (HC.out _ HB.out).mono ?_
       rintro e u ⟨rfl, hb⟩
       have HBu := Lib.hid (HB.out.trans (hb.mono HB.out.size))
       have HZu : Hid (u.heap[w.heap.size]? = some (.cells #[.int .u64 0, .int .u32 0] 34 (0, 0))) := Lib.hid ((hb.block _ (lt_heap HZ.out)).trans HZ.out)
       clear hb))
  go_wp2_with (first
    | (refine wpList_store_row rfl 34 (.tmp 4) (.tmp 21) rfl w.heap.size #[.int .u64 0, .int .u32 0] rfl rfl 34 #[.int .u64 0, .int .u32 0] HZu.out (by kernel_rfl) rfl (by simp [Value.oneCell']) ?_))
  refine bodyPost_ret (v := .tuple #[.agg #[.int .u64 0, .int .u32 0], .bool false]) (results_rowa Try.results23 _ _ w.heap.size 34 #[.int .u64 0, .int .u32 0] (0, 0) _ rfl (setRow_heap _ w.heap.size _ #[.int .u64 0, .int .u32 0] _ _ HZu.out) Try.underlying34 rfl (by kernel_rfl)) rfl ?_
  exact ⟨rfl, below_setRow HBu.out (Nat.le_refl _) _⟩
set_option maxHeartbeats 1000000 in
theorem tget_free (h : PTX w p g c e s F) {k : Nat} (hk : k < s.n) (hf : s.ful k = false) : Calls Try.prog 23 #[.pointer (some ⟨p, 0, none⟩), .int .i64 (k : Int)] w (ret (.tuple #[.agg #[.int .u64 0, .int .u32 0], .bool false]) w) := by
  have HX := Lib.hid h
  have HC : Hid (∀ W, Below w.heap.size w W → Calls Try.prog 33 #[.pointer (some ⟨p, 0, none⟩), .int .i64 (k : Int)] W (ret (.bool true) W)) := Lib.hid fun W hW => by
    have := thas_c W p _ s.n c (blk_cell (PTY.step h hW).blk 0) (k : Int)
    rwa [show hasB s.n (k : Int) = true from by unfold hasB; simp; omega] at this
  have i0 : (0 : Int) ≤ (k : Int) := by omega
  have i1 : (k : Int) < (s.n : Int) := by omega
  have i2 : ((k : Int)).toNat = k := by omega
  have cap := PTY.cap h
  have cap9 := PTY.cap9 h
  have HCE : Hid (∀ W, Below w.heap.size w W → W.cell? ⟨g, k * 3, none⟩ = some (.int .u8 (stc s k : Int)) ∧ W.cell? ⟨g, k * 3 + 1, none⟩ = some (.int .u64 (s.eh k : Int)) ∧ W.cell? ⟨g, k * 3 + 2, none⟩ = some (.int .u32 (s.ew k : Int))) := Lib.hid fun W hW => ⟨PTX.c0 (PTY.step h hW) hk, PTX.c1 (PTY.step h hW) hk, PTX.c2 (PTY.step h hW) hk⟩
  obtain ⟨a, ha⟩ : ∃ a, a = stc s k := ⟨_, rfl⟩
  have ha1 : a ≠ 1 := by rw [ha]; exact stc_not hf
  have hne : ((a : Int) != 1) = true := by simp; omega
  rw [← ha] at HCE
  clear h ha ha1 hf hk
  have HZ : Hid ((w.alloc (.cells #[.int .u64 0, .int .u32 0] 34)).heap[w.heap.size]? = some (.cells #[.int .u64 0, .int .u32 0] 34 (0, 0))) := Lib.hid (heap_alloc_new w _)
  have HB : Hid (Below w.heap.size w (w.alloc (.cells #[.int .u64 0, .int .u32 0] 34))) := Lib.hid (below_alloc w _)
  go_enter Try.func23, Try.ntmps23
  go_upto_region 1 with fail
  change Code.wp _ _ _ _ (w.alloc (.cells #[.int .u64 0, .int .u32 0] 34))
  generalize hv : w.alloc (.cells #[.int .u64 0, .int .u32 0] 34) = v at *
  clear hv
  go_upto_region 2 with (first
    | (go_at_call 33
       refine (HC.out _ HB.out).mono ?_
       rintro e u ⟨rfl, hb⟩
       have HBu := Lib.hid (HB.out.trans (hb.mono HB.out.size))
       have HZu : Hid (u.heap[w.heap.size]? = some (.cells #[.int .u64 0, .int .u32 0] 34 (0, 0))) := Lib.hid ((hb.block _ (lt_heap HZ.out)).trans HZ.out)
       have x0 : u.cell? ⟨p, 0, none⟩ = some (.slice (some ⟨g, 0, none⟩) s.n c) := blk_cell (PTY.step HX.out HBu.out).blk 0
       have xc := (HCE.out u HBu.out).1
       clear hb))
  clear x0 xc
  go_wp2_with (first
    | (refine wpList_store_row rfl 34 (.tmp 4) (.tmp 21) rfl w.heap.size #[.int .u64 0, .int .u32 0] rfl rfl 34 #[.int .u64 0, .int .u32 0] HZu.out (by kernel_rfl) rfl (by simp [Value.oneCell']) ?_))
  refine bodyPost_ret (v := .tuple #[.agg #[.int .u64 0, .int .u32 0], .bool false]) (results_rowa Try.results23 _ _ w.heap.size 34 #[.int .u64 0, .int .u32 0] (0, 0) _ rfl (setRow_heap _ w.heap.size _ #[.int .u64 0, .int .u32 0] _ _ HZu.out) Try.underlying34 rfl (by kernel_rfl)) rfl ?_
  exact ⟨rfl, below_setRow HBu.out (Nat.le_refl _) _⟩
set_option maxHeartbeats 1000000 in
theorem tget_yes (h : PTX w p g c e s F) {k : Nat} (hk : k < s.n) (hf : s.ful k = true) : Calls Try.prog 23 #[.pointer (some ⟨p, 0, none⟩), .int .i64 (k : Int)] w (ret (.tuple #[.agg #[.int .u64 (s.eh k : Int), .int .u32 (s.ew k : Int)], .bool true]) w) := by
  have HX := Lib.hid h
  have HC : Hid (∀ W, Below w.heap.size w W → Calls Try.prog 33 #[.pointer (some ⟨p, 0, none⟩), .int .i64 (k : Int)] W (ret (.bool true) W)) := Lib.hid fun W hW => by
    have := thas_c W p _ s.n c (blk_cell (PTY.step h hW).blk 0) (k : Int)
    rwa [show hasB s.n (k : Int) = true from by unfold hasB; simp; omega] at this
  have i0 : (0 : Int) ≤ (k : Int) := by omega
  have i1 : (k : Int) < (s.n : Int) := by omega
  have i2 : ((k : Int)).toNat = k := by omega
  have cap := PTY.cap h
  have cap9 := PTY.cap9 h
  have HCE : Hid (∀ W, Below w.heap.size w W → W.cell? ⟨g, k * 3, none⟩ = some (.int .u8 (stc s k : Int)) ∧ W.cell? ⟨g, k * 3 + 1, none⟩ = some (.int .u64 (s.eh k : Int)) ∧ W.cell? ⟨g, k * 3 + 2, none⟩ = some (.int .u32 (s.ew k : Int))) := Lib.hid fun W hW => ⟨PTX.c0 (PTY.step h hW) hk, PTX.c1 (PTY.step h hW) hk, PTX.c2 (PTY.step h hW) hk⟩
  rw [stc_ful hf] at HCE
  clear h hf hk
  have HZ : Hid ((w.alloc (.cells #[.int .u64 0, .int .u32 0] 34)).heap[w.heap.size]? = some (.cells #[.int .u64 0, .int .u32 0] 34 (0, 0))) := Lib.hid (heap_alloc_new w _)
  have HB : Hid (Below w.heap.size w (w.alloc (.cells #[.int .u64 0, .int .u32 0] 34))) := Lib.hid (below_alloc w _)
  go_enter Try.func23, Try.ntmps23
  go_upto_region 1 with fail
  change Code.wp _ _ _ _ (w.alloc (.cells #[.int .u64 0, .int .u32 0] 34))
  generalize hv : w.alloc (.cells #[.int .u64 0, .int .u32 0] 34) = v at *
  clear hv
  go_upto_region 3 with (first
    | (go_at_call 33
       refine (HC.out _ HB.out).mono ?_
       rintro e u ⟨rfl, hb⟩
       have HBu := Lib.hid (HB.out.trans (hb.mono HB.out.size))
       have HZu : Hid (u.heap[w.heap.size]? = some (.cells #[.int .u64 0, .int .u32 0] 34 (0, 0))) := Lib.hid ((hb.block _ (lt_heap HZ.out)).trans HZ.out)
       have x0 : u.cell? ⟨p, 0, none⟩ = some (.slice (some ⟨g, 0, none⟩) s.n c) := blk_cell (PTY.step HX.out HBu.out).blk 0
       have xc : u.cell? ⟨g, k * 3, none⟩ = some (.int .u8 1) := (HCE.out u HBu.out).1
       have xd := (HCE.out u HBu.out).2.1
       have xe := (HCE.out u HBu.out).2.2
       clear hb))
  go_wp2_with (first
    | (refine wpList_store_row rfl 34 (.tmp 4) (.tmp 29) rfl w.heap.size #[.int .u64 (s.eh k : Int), .int .u32 (s.ew k : Int)] rfl rfl 34 #[.int .u64 0, .int .u32 0] HZu.out (by kernel_rfl) rfl (by simp [Value.oneCell']) ?_))
  refine bodyPost_ret (v := .tuple #[.agg #[.int .u64 (s.eh k : Int), .int .u32 (s.ew k : Int)], .bool true]) (results_rowa Try.results23 _ _ w.heap.size 34 #[.int .u64 (s.eh k : Int), .int .u32 (s.ew k : Int)] (0, 0) _ rfl (setRow_heap _ w.heap.size _ #[.int .u64 (s.eh k : Int), .int .u32 (s.ew k : Int)] _ _ HZu.out) Try.underlying34 rfl (by kernel_rfl)) rfl ?_
  exact ⟨rfl, below_setRow HBu.out (Nat.le_refl _) _⟩
theorem tget_any (h : PTX w p g c e s F) (q : Int) : Calls Try.prog 23 #[.pointer (some ⟨p, 0, none⟩), .int .i64 q] w (ret (.tuple #[.agg (s.gtV q), .bool (s.isF q)]) w) := by
  by_cases hq : 0 ≤ q ∧ q < (s.n : Int)
  · obtain ⟨k, rfl⟩ := Int.eq_ofNat_of_zero_le hq.1
    have hk : k < s.n := by omega
    cases hf : s.ful k with
    | true =>
      have e1 : s.isF (k : Int) = true := by unfold Tb.isF; simp [hf]; omega
      unfold Tb.gtV
      rw [e1, if_pos rfl]
      exact tget_yes h hk hf
    | false =>
      have e1 : s.isF (k : Int) = false := by unfold Tb.isF; simp [hf]
      unfold Tb.gtV
      rw [e1, if_neg Bool.false_ne_true]
      exact tget_free h hk hf
  · have e0 : hasB s.n q = false := by
      unfold hasB
      by_cases h0 : 0 ≤ q
      · rw [show decide (q < (s.n : Int)) = false from decide_eq_false (by omega), Bool.and_false]
      · rw [show decide (0 ≤ q) = false from decide_eq_false h0, Bool.false_and]
    have e1 : s.isF q = false := by
      show (hasB s.n q && s.ful q.toNat) = false
      rw [e0, Bool.false_and]
    unfold Tb.gtV
    rw [e1, if_neg Bool.false_ne_true]
    refine tget_out fun W hW => ?_
    have := thas_c W p _ s.n c (blk_cell (PTY.step h hW).blk 0) q
    rwa [e0] at this
theorem tdrop_un {pa : Option Addr} (hc : Calls Try.prog 28 #[.pointer pa] w (ret (.bool false) w)) (i : Int) : Calls Try.prog 12 #[.pointer pa, .int .i64 i] w (ret (.int .i64 1) w) := by
  have HC := Lib.hid hc
  clear hc
  go_enter Try.func12, Try.ntmps12
  go_wp2_with (first
    | (go_at_call 28
       refine HC.out.mono ?_
       rintro e u ⟨rfl, hb⟩
       have HB := Lib.hid hb
       clear hb))
  go_ret
  exact ⟨rfl, HB.out⟩
theorem tdrop_out (h : PTX w p g c e s F) {i : Int} (hi : hasB s.n i = false) : Calls Try.prog 12 #[.pointer (some ⟨p, 0, none⟩), .int .i64 i] w (ret (.int .i64 2) w) := by
  have HX := Lib.hid h
  have HM := Lib.hid (tmade_yes (blk_cell (PTY.blk h) 0) (PTY.pos h).1)
  have HC : Hid (∀ W, Below w.heap.size w W → Calls Try.prog 33 #[.pointer (some ⟨p, 0, none⟩), .int .i64 i] W (ret (.bool false) W)) := Lib.hid fun W hW => by
    have := thas_c W p _ s.n c (blk_cell (PTY.step h hW).blk 0) i
    rwa [hi] at this
  clear h hi
  go_enter Try.func12, Try.ntmps12
  go_wp2_with (first
    | (go_at_call 28
       refine HM.out.mono ?_
       rintro e u ⟨rfl, hb⟩
       have HB := Lib.hid hb
       clear hb)
    | (go_at_call 33
       refine (HC.out _ HB.out).mono ?_
       rintro e u2 ⟨rfl, hb⟩
       have HB2 := Lib.hid (HB.out.trans (hb.mono HB.out.size))
       clear hb))
  go_ret
  exact ⟨rfl, HB2.out⟩
theorem tdrop_free (h : PTX w p g c e s F) {k : Nat} (hk : k < s.n) (hf : s.ful k = false) : Calls Try.prog 12 #[.pointer (some ⟨p, 0, none⟩), .int .i64 (k : Int)] w (ret (.int .i64 7) w) := by
  have HX := Lib.hid h
  have HM := Lib.hid (tmade_yes (blk_cell (PTY.blk h) 0) (PTY.pos h).1)
  have HC : Hid (∀ W, Below w.heap.size w W → Calls Try.prog 33 #[.pointer (some ⟨p, 0, none⟩), .int .i64 (k : Int)] W (ret (.bool true) W)) := Lib.hid fun W hW => by
    have := thas_c W p _ s.n c (blk_cell (PTY.step h hW).blk 0) (k : Int)
    rwa [show hasB s.n (k : Int) = true from by unfold hasB; simp; omega] at this
  have i0 : (0 : Int) ≤ (k : Int) := by omega
  have i1 : (k : Int) < (s.n : Int) := by omega
  have i2 : ((k : Int)).toNat = k := by omega
  have cap := PTY.cap h
  have cap9 := PTY.cap9 h
  obtain ⟨a, ha⟩ : ∃ a, a = stc s k := ⟨_, rfl⟩
  have ha1 : a ≠ 1 := by rw [ha]; exact stc_not hf
  have hne : ((a : Int) != 1) = true := by simp; omega
  have HCE : Hid (∀ W, Below w.heap.size w W → W.cell? ⟨g, k * 3, none⟩ = some (.int .u8 (a : Int))) := Lib.hid fun W hW => by
    rw [ha]
    exact PTX.c0 (PTY.step h hW) hk
  clear h ha ha1 hf hk
  go_enter Try.func12, Try.ntmps12
  go_wp2_with (first
    | (go_at_call 28
       refine HM.out.mono ?_
       rintro e u ⟨rfl, hb⟩
       have HB := Lib.hid hb
       clear hb)
    | (go_at_call 33
       refine (HC.out _ HB.out).mono ?_
       rintro e u2 ⟨rfl, hb⟩
       have HB2 := Lib.hid (HB.out.trans (hb.mono HB.out.size))
       have x0 : u2.cell? ⟨p, 0, none⟩ = some (.slice (some ⟨g, 0, none⟩) s.n c) := blk_cell (PTY.step HX.out HB2.out).blk 0
       have xc := HCE.out u2 HB2.out
       clear hb))
  go_ret
  exact ⟨rfl, HB2.out⟩
set_option maxHeartbeats 1000000 in
theorem tdrop_yes (h : PTX w p g c e s F) {k : Nat} (hk : k < s.n) (hf : s.ful k = true) (hm : s.mrk k = false) : Calls Try.prog 12 #[.pointer (some ⟨p, 0, none⟩), .int .i64 (k : Int)] w fun r w' => r = .returned (.int .i64 0) ∧ (∃ e', PTX w' p g c e' (s.gone k) F) ∧ Kept F w w' := by
  have HX := Lib.hid h
  have HM := Lib.hid (tmade_yes (blk_cell (PTY.blk h) 0) (PTY.pos h).1)
  have HC : Hid (∀ W, Below w.heap.size w W → Calls Try.prog 33 #[.pointer (some ⟨p, 0, none⟩), .int .i64 (k : Int)] W (ret (.bool true) W)) := Lib.hid fun W hW => by
    have := thas_c W p _ s.n c (blk_cell (PTY.step h hW).blk 0) (k : Int)
    rwa [show hasB s.n (k : Int) = true from by unfold hasB; simp; omega] at this
  have i0 : (0 : Int) ≤ (k : Int) := by omega
  have i1 : (k : Int) < (s.n : Int) := by omega
  have i2 : ((k : Int)).toNat = k := by omega
  have cap := PTY.cap h
  have cap9 := PTY.cap9 h
  have HCE : Hid (∀ W, Below w.heap.size w W → W.cell? ⟨g, k * 3, none⟩ = some (.int .u8 1)) := Lib.hid fun W hW => by
    have := PTX.c0 (PTY.step h hW) hk
    rw [stc_ful hf] at this
    exact this
  have HL := Lib.hid fun W (hW : Below w.heap.size w W) => tlay_gone (PTY.step h hW) hk hf hm
  clear h hf hk hm
  go_enter Try.func12, Try.ntmps12
  go_wp2_with (first
    | (go_at_call 28
       refine HM.out.mono ?_
       rintro e u ⟨rfl, hb⟩
       have HB := Lib.hid hb
       clear hb)
    | (go_at_call 33
       refine (HC.out _ HB.out).mono ?_
       rintro e u2 ⟨rfl, hb⟩
       have HB2 := Lib.hid (HB.out.trans (hb.mono HB.out.size))
       have x0 : u2.cell? ⟨p, 0, none⟩ = some (.slice (some ⟨g, 0, none⟩) s.n c) := blk_cell (PTY.step HX.out HB2.out).blk 0
       have xc := HCE.out u2 HB2.out
       clear hb)
    | (go_at_call 30
       refine (HL.out _ HB2.out).mono ?_
       rintro e u3 ⟨rfl, hx, hkk⟩
       have HX3 := Lib.hid hx
       have HK3 : Hid (Kept F w u3) := Lib.hid ((Kept.of_below HB2.out F).trans hkk fun _ _ q => q)
       clear hx hkk))
  go_ret
  exact ⟨rfl, HX3.out, HK3.out⟩
theorem tdrop_any (h : PTX w p g c e s F) (hs : s.Ok) (q : Int) : Calls Try.prog 12 #[.pointer (some ⟨p, 0, none⟩), .int .i64 q] w fun r w' => r = .returned (.int .i64 (s.drE q)) ∧ (∃ e', PTX w' p g c e' (s.dr q) F) ∧ Kept F w w' := by
  by_cases hq : 0 ≤ q ∧ q < (s.n : Int)
  · obtain ⟨k, rfl⟩ := Int.eq_ofNat_of_zero_le hq.1
    have hk : k < s.n := by omega
    have hd : (decide ((0 : Int) ≤ (k : Int)) && decide ((k : Int) < (s.n : Int))) = true := by simp; omega
    cases hf : s.ful k with
    | true =>
      have hm : s.mrk k = false := by
        cases hm : s.mrk k with
        | false => rfl
        | true =>
          have := hs.one k hm
          rw [hf] at this
          cases this
      have e1 : s.isF (k : Int) = true := by unfold Tb.isF; simp [hf]; omega
      unfold Tb.drE Tb.dr
      rw [e1, if_pos rfl, hd, if_pos rfl, show ((k : Int)).toNat = k from by omega, hf, if_pos rfl]
      exact tdrop_yes h hk hf hm
    | false =>
      have e1 : s.isF (k : Int) = false := by unfold Tb.isF; simp [hf]
      unfold Tb.drE Tb.dr
      rw [e1, if_neg Bool.false_ne_true, hd, if_pos rfl, show ((k : Int)).toNat = k from by omega, hf, if_neg Bool.false_ne_true]
      refine (tdrop_free h hk hf).mono ?_
      rintro r w' ⟨rfl, hb⟩
      exact ⟨rfl, ⟨e, PTY.step h hb⟩, Kept.of_below hb F⟩
  · have e0 : hasB s.n q = false := by
      unfold hasB
      by_cases h0 : 0 ≤ q
      · rw [show decide (q < (s.n : Int)) = false from decide_eq_false (by omega), Bool.and_false]
      · rw [show decide (0 ≤ q) = false from decide_eq_false h0, Bool.false_and]
    have e1 : s.isF q = false := by
      show (hasB s.n q && s.ful q.toNat) = false
      rw [e0, Bool.false_and]
    unfold Tb.drE Tb.dr
    rw [e1, if_neg Bool.false_ne_true, show (decide (0 ≤ q) && decide (q < (s.n : Int))) = false from e0, if_neg Bool.false_ne_true]
    refine (tdrop_out h e0).mono ?_
    rintro r w' ⟨rfl, hb⟩
    exact ⟨rfl, ⟨e, PTY.step h hb⟩, Kept.of_below hb F⟩
end
end Go.Proofs.Ythbjkchgbjopfaa
