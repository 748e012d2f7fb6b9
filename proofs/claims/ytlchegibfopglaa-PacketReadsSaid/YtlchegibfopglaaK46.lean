import Derived.Test.YtlchegibfopglaaK45
/- Layer 7: the law's datagram and known. -/
namespace Go.Proofs.Ytlchegibfopglaa
set_option maxRecDepth 100000
open Go.RowKit
def dgl : List Int := [0, 0, 0, 0, 0, 0, 0, 0, 0, 0, 0, 0, 8, 0, 69, 0, 0, 28, 0, 0, 0, 0, 64, 17, 102, 207, 10, 0, 0, 1, 10, 0, 0, 2, 0, 7, 0, 9, 0, 8, 0, 0]
def dgf (k : Nat) : Int := (dgl[k]?).getD 0
def dgk (k : Nat) : Int := (([69, 0, 0, 28, 0, 0, 0, 0, 64, 17, 0, 0, 10, 0, 0, 1, 10, 0, 0, 2, 0, 7, 0, 9, 0, 8, 0, 0] : List Int)[k]?).getD 0
theorem dgf_byt : Byt dgf := fun k => by
  have h : ∀ k : Nat, k < 42 → 0 ≤ dgf k ∧ dgf k ≤ 255 := by decide
  rcases Nat.lt_or_ge k 42 with q | q
  · exact h k q
  · unfold dgf
    rw [List.getElem?_eq_none (by simpa [dgl] using q)]
    exact ⟨by decide, by decide⟩
theorem dg_made_20 : ∀ k, k < 62 → dgf k = upd (upd (over 14 28 dgk (upd (upd (fun _ => 0) 12 8) 13 0)) 24 102) 25 207 k := by decide
theorem dg_made_0 : ∀ k, k < 42 → dgf k = upd (upd (over 14 28 dgk (upd (upd (fun _ => 0) 12 8) 13 0)) 24 102) 25 207 k := by decide
set_option maxHeartbeats 1000000 in
theorem datagram_20 (w : World) : Calls Try.prog 13 #[.int .i64 20] w fun e w' => ∃ g, e = .returned (.slice (some ⟨g, 0, none⟩) 62 62) ∧ Own w' w.heap.size 5 (some ⟨g, 0, none⟩) 62 62 dgf ∧ Below w.heap.size w w' := by
  obtain ⟨i0, hi0, hz0, hz1, hz2⟩ := info_parts Try.info5
  have HI0 := Lib.hid hi0
  have HZ0 := Lib.hid hz0
  have HZ1 := Lib.hid hz1
  have HZ2 := Lib.hid hz2
  clear hi0 hz0 hz1 hz2
  have hmk : ∀ W : World, (Instr.makeSlice 22 (.int .i64 62) (.int .i64 62)).run Try.prog W = .ok (.slice (some ⟨W.heap.size, 0, none⟩) 62 62) (W.alloc (.cells (madeCells (Value.int .u8 0).cells 62) 5)) := fun W => run_make_bytes (P := Try.prog) W 22 5 i0 Try.underlying22 HI0.out HZ0.out HZ1.out HZ2.out 62 (by omega)
  have HO1 : Hid (MO w (w.alloc (.cells (madeCells (Value.int .u8 0).cells 62) 5)) [] w.heap.size (some ⟨w.heap.size, 0, none⟩) 62 62 (fun _ => 0)) := Lib.hid (MO.start (Mem.nil w) (below_alloc w _) (made_own w _ 62 (by omega) _ rfl))
  go_enter Try.func13, Try.ntmps13
  go_upto_region 2 with fail
  change Code.wp _ _ _ _ (w.alloc (.cells (madeCells (Value.int .u8 0).cells 62) 5))
  clear hmk
  obtain ⟨g, hg⟩ : ∃ g, g = w.heap.size := ⟨_, rfl⟩
  rw [← hg] at HO1 ⊢
  have HG := Lib.hid hg
  clear hg
  generalize w.alloc (.cells (madeCells (Value.int .u8 0).cells 62) 5) = u1 at *
  obtain ⟨x0, y0⟩ := HO1.out.cells 12 (by omega)
  obtain ⟨x9, y9⟩ := HO1.out.cells 13 (by omega)
  go_upto_region 3 with fail
  have HO2 : Hid (MO w ((u1.setCell ⟨g, 12, none⟩ (.int .u8 8)).setCell ⟨g, 13, none⟩ (.int .u8 0)) [] g (some ⟨g, 0, none⟩) 62 62 (upd (upd (fun _ => 0) 12 8) 13 0)) := Lib.hid ((HO1.out.set (by omega) 12 8).set (by omega) 13 0)
  clear x0 y0 x9 y9 HO1
  generalize (u1.setCell ⟨g, 12, none⟩ (.int .u8 8)).setCell ⟨g, 13, none⟩ (.int .u8 0) = u2 at *
  have HR3 : Hid (Rd (u2.alloc (.cells #[.int .u8 69, .int .u8 0, .int .u8 0, .int .u8 28, .int .u8 0, .int .u8 0, .int .u8 0, .int .u8 0, .int .u8 64, .int .u8 17, .int .u8 0, .int .u8 0, .int .u8 10, .int .u8 0, .int .u8 0, .int .u8 1, .int .u8 10, .int .u8 0, .int .u8 0, .int .u8 2, .int .u8 0, .int .u8 7, .int .u8 0, .int .u8 9, .int .u8 0, .int .u8 8, .int .u8 0, .int .u8 0] 5)) (u2.alloc (.cells #[.int .u8 69, .int .u8 0, .int .u8 0, .int .u8 28, .int .u8 0, .int .u8 0, .int .u8 0, .int .u8 0, .int .u8 64, .int .u8 17, .int .u8 0, .int .u8 0, .int .u8 10, .int .u8 0, .int .u8 0, .int .u8 1, .int .u8 10, .int .u8 0, .int .u8 0, .int .u8 2, .int .u8 0, .int .u8 7, .int .u8 0, .int .u8 9, .int .u8 0, .int .u8 8, .int .u8 0, .int .u8 0] 5)).heap.size (some ⟨u2.heap.size, 0, none⟩) 28 dgk) := Lib.hid (blk_rd (heap_alloc_new u2 _) (lt_heap (heap_alloc_new u2 _)) (i := 0) fun k hk => by
    rw [Nat.zero_add]
    match k, hk with
    | 0, _ => rfl
    | 1, _ => rfl
    | 2, _ => rfl
    | 3, _ => rfl
    | 4, _ => rfl
    | 5, _ => rfl
    | 6, _ => rfl
    | 7, _ => rfl
    | 8, _ => rfl
    | 9, _ => rfl
    | 10, _ => rfl
    | 11, _ => rfl
    | 12, _ => rfl
    | 13, _ => rfl
    | 14, _ => rfl
    | 15, _ => rfl
    | 16, _ => rfl
    | 17, _ => rfl
    | 18, _ => rfl
    | 19, _ => rfl
    | 20, _ => rfl
    | 21, _ => rfl
    | 22, _ => rfl
    | 23, _ => rfl
    | 24, _ => rfl
    | 25, _ => rfl
    | 26, _ => rfl
    | 27, _ => rfl
    | k + 28, h => exact absurd h (by omega)
  )
  have HO3 : Hid (MO w (u2.alloc (.cells #[.int .u8 69, .int .u8 0, .int .u8 0, .int .u8 28, .int .u8 0, .int .u8 0, .int .u8 0, .int .u8 0, .int .u8 64, .int .u8 17, .int .u8 0, .int .u8 0, .int .u8 10, .int .u8 0, .int .u8 0, .int .u8 1, .int .u8 10, .int .u8 0, .int .u8 0, .int .u8 2, .int .u8 0, .int .u8 7, .int .u8 0, .int .u8 9, .int .u8 0, .int .u8 8, .int .u8 0, .int .u8 0] 5)) [] g (some ⟨g, 0, none⟩) 62 62 (upd (upd (fun _ => 0) 12 8) 13 0)) := Lib.hid (HO2.out.alloc _)
  go_upto_region 4 with (first
    | (refine wpList_copy_rd rfl (.tmp 12) (.tmp 13) _ rfl g 5 Try.underlying22 (by kernel_rfl) HO3.out.own (D := some ⟨g, 14, none⟩) (dl := 48) (dc := 48) rfl 14 (fun _ => rfl) (by omega) rfl HR3.out 28 (by omega) ?_; intro hoc; have HO4 := Lib.hid hoc; clear hoc))
  have HB5 : Hid (Below w.heap.size w ((u2.alloc (.cells #[.int .u8 69, .int .u8 0, .int .u8 0, .int .u8 28, .int .u8 0, .int .u8 0, .int .u8 0, .int .u8 0, .int .u8 64, .int .u8 17, .int .u8 0, .int .u8 0, .int .u8 10, .int .u8 0, .int .u8 0, .int .u8 1, .int .u8 10, .int .u8 0, .int .u8 0, .int .u8 2, .int .u8 0, .int .u8 7, .int .u8 0, .int .u8 9, .int .u8 0, .int .u8 8, .int .u8 0, .int .u8 0] 5)).setCells g 14 ((nums 28 dgk).map (Value.int .u8)))) := Lib.hid (below_setCells (Nat.le_of_eq HG.out.symm) _ 14 _ HO3.out.below)
  clear HO2 HO3 HR3
  generalize (u2.alloc (.cells #[.int .u8 69, .int .u8 0, .int .u8 0, .int .u8 28, .int .u8 0, .int .u8 0, .int .u8 0, .int .u8 0, .int .u8 64, .int .u8 17, .int .u8 0, .int .u8 0, .int .u8 10, .int .u8 0, .int .u8 0, .int .u8 1, .int .u8 10, .int .u8 0, .int .u8 0, .int .u8 2, .int .u8 0, .int .u8 7, .int .u8 0, .int .u8 9, .int .u8 0, .int .u8 8, .int .u8 0, .int .u8 0] 5)).setCells g 14 ((nums 28 dgk).map (Value.int .u8)) = u5 at *
  obtain ⟨g', hg', _, _, hx, hy⟩ := HO4.out.lies (by omega)
  obtain rfl : g = g' := by simpa using hg'
  have x24 := hx 24 (by omega)
  have x25 := hx 25 (by omega)
  have y24 := hy 24
  have y25 := hy 25
  clear hx hy hg'
  go_upto_region 5 with fail
  have HO6 := Lib.hid ((HO4.out.set_ 24 102).set_ 25 207)
  have HB6 : Hid (Below w.heap.size w ((u5.setCell ⟨g, 24, none⟩ (.int .u8 102)).setCell ⟨g, 25, none⟩ (.int .u8 207))) := Lib.hid ((HB5.out.setCell (show w.heap.size ≤ g by rw [HG.out]; exact Nat.le_refl _) _).setCell (show w.heap.size ≤ g by rw [HG.out]; exact Nat.le_refl _) _)
  clear x24 x25 y24 y25 HO4 HB5
  generalize (u5.setCell ⟨g, 24, none⟩ (.int .u8 102)).setCell ⟨g, 25, none⟩ (.int .u8 207) = u6 at *
  go_wp2_with fail
  go_ret
  refine ⟨g, rfl, ?_, HB6.out⟩
  rw [← HG.out]
  exact HO6.out.same fun k hk => dg_made_20 k hk
set_option maxHeartbeats 1000000 in
theorem datagram_0 (w : World) : Calls Try.prog 13 #[.int .i64 0] w fun e w' => ∃ g, e = .returned (.slice (some ⟨g, 0, none⟩) 42 42) ∧ Own w' w.heap.size 5 (some ⟨g, 0, none⟩) 42 42 dgf ∧ Below w.heap.size w w' := by
  obtain ⟨i0, hi0, hz0, hz1, hz2⟩ := info_parts Try.info5
  have HI0 := Lib.hid hi0
  have HZ0 := Lib.hid hz0
  have HZ1 := Lib.hid hz1
  have HZ2 := Lib.hid hz2
  clear hi0 hz0 hz1 hz2
  have hmk : ∀ W : World, (Instr.makeSlice 22 (.int .i64 42) (.int .i64 42)).run Try.prog W = .ok (.slice (some ⟨W.heap.size, 0, none⟩) 42 42) (W.alloc (.cells (madeCells (Value.int .u8 0).cells 42) 5)) := fun W => run_make_bytes (P := Try.prog) W 22 5 i0 Try.underlying22 HI0.out HZ0.out HZ1.out HZ2.out 42 (by omega)
  have HO1 : Hid (MO w (w.alloc (.cells (madeCells (Value.int .u8 0).cells 42) 5)) [] w.heap.size (some ⟨w.heap.size, 0, none⟩) 42 42 (fun _ => 0)) := Lib.hid (MO.start (Mem.nil w) (below_alloc w _) (made_own w _ 42 (by omega) _ rfl))
  go_enter Try.func13, Try.ntmps13
  go_upto_region 2 with fail
  change Code.wp _ _ _ _ (w.alloc (.cells (madeCells (Value.int .u8 0).cells 42) 5))
  clear hmk
  obtain ⟨g, hg⟩ : ∃ g, g = w.heap.size := ⟨_, rfl⟩
  rw [← hg] at HO1 ⊢
  have HG := Lib.hid hg
  clear hg
  generalize w.alloc (.cells (madeCells (Value.int .u8 0).cells 42) 5) = u1 at *
  obtain ⟨x0, y0⟩ := HO1.out.cells 12 (by omega)
  obtain ⟨x9, y9⟩ := HO1.out.cells 13 (by omega)
  go_upto_region 3 with fail
  have HO2 : Hid (MO w ((u1.setCell ⟨g, 12, none⟩ (.int .u8 8)).setCell ⟨g, 13, none⟩ (.int .u8 0)) [] g (some ⟨g, 0, none⟩) 42 42 (upd (upd (fun _ => 0) 12 8) 13 0)) := Lib.hid ((HO1.out.set (by omega) 12 8).set (by omega) 13 0)
  clear x0 y0 x9 y9 HO1
  generalize (u1.setCell ⟨g, 12, none⟩ (.int .u8 8)).setCell ⟨g, 13, none⟩ (.int .u8 0) = u2 at *
  have HR3 : Hid (Rd (u2.alloc (.cells #[.int .u8 69, .int .u8 0, .int .u8 0, .int .u8 28, .int .u8 0, .int .u8 0, .int .u8 0, .int .u8 0, .int .u8 64, .int .u8 17, .int .u8 0, .int .u8 0, .int .u8 10, .int .u8 0, .int .u8 0, .int .u8 1, .int .u8 10, .int .u8 0, .int .u8 0, .int .u8 2, .int .u8 0, .int .u8 7, .int .u8 0, .int .u8 9, .int .u8 0, .int .u8 8, .int .u8 0, .int .u8 0] 5)) (u2.alloc (.cells #[.int .u8 69, .int .u8 0, .int .u8 0, .int .u8 28, .int .u8 0, .int .u8 0, .int .u8 0, .int .u8 0, .int .u8 64, .int .u8 17, .int .u8 0, .int .u8 0, .int .u8 10, .int .u8 0, .int .u8 0, .int .u8 1, .int .u8 10, .int .u8 0, .int .u8 0, .int .u8 2, .int .u8 0, .int .u8 7, .int .u8 0, .int .u8 9, .int .u8 0, .int .u8 8, .int .u8 0, .int .u8 0] 5)).heap.size (some ⟨u2.heap.size, 0, none⟩) 28 dgk) := Lib.hid (blk_rd (heap_alloc_new u2 _) (lt_heap (heap_alloc_new u2 _)) (i := 0) fun k hk => by
    rw [Nat.zero_add]
    match k, hk with
    | 0, _ => rfl
    | 1, _ => rfl
    | 2, _ => rfl
    | 3, _ => rfl
    | 4, _ => rfl
    | 5, _ => rfl
    | 6, _ => rfl
    | 7, _ => rfl
    | 8, _ => rfl
    | 9, _ => rfl
    | 10, _ => rfl
    | 11, _ => rfl
    | 12, _ => rfl
    | 13, _ => rfl
    | 14, _ => rfl
    | 15, _ => rfl
    | 16, _ => rfl
    | 17, _ => rfl
    | 18, _ => rfl
    | 19, _ => rfl
    | 20, _ => rfl
    | 21, _ => rfl
    | 22, _ => rfl
    | 23, _ => rfl
    | 24, _ => rfl
    | 25, _ => rfl
    | 26, _ => rfl
    | 27, _ => rfl
    | k + 28, h => exact absurd h (by omega)
  )
  have HO3 : Hid (MO w (u2.alloc (.cells #[.int .u8 69, .int .u8 0, .int .u8 0, .int .u8 28, .int .u8 0, .int .u8 0, .int .u8 0, .int .u8 0, .int .u8 64, .int .u8 17, .int .u8 0, .int .u8 0, .int .u8 10, .int .u8 0, .int .u8 0, .int .u8 1, .int .u8 10, .int .u8 0, .int .u8 0, .int .u8 2, .int .u8 0, .int .u8 7, .int .u8 0, .int .u8 9, .int .u8 0, .int .u8 8, .int .u8 0, .int .u8 0] 5)) [] g (some ⟨g, 0, none⟩) 42 42 (upd (upd (fun _ => 0) 12 8) 13 0)) := Lib.hid (HO2.out.alloc _)
  go_upto_region 4 with (first
    | (refine wpList_copy_rd rfl (.tmp 12) (.tmp 13) _ rfl g 5 Try.underlying22 (by kernel_rfl) HO3.out.own (D := some ⟨g, 14, none⟩) (dl := 28) (dc := 28) rfl 14 (fun _ => rfl) (by omega) rfl HR3.out 28 (by omega) ?_; intro hoc; have HO4 := Lib.hid hoc; clear hoc))
  have HB5 : Hid (Below w.heap.size w ((u2.alloc (.cells #[.int .u8 69, .int .u8 0, .int .u8 0, .int .u8 28, .int .u8 0, .int .u8 0, .int .u8 0, .int .u8 0, .int .u8 64, .int .u8 17, .int .u8 0, .int .u8 0, .int .u8 10, .int .u8 0, .int .u8 0, .int .u8 1, .int .u8 10, .int .u8 0, .int .u8 0, .int .u8 2, .int .u8 0, .int .u8 7, .int .u8 0, .int .u8 9, .int .u8 0, .int .u8 8, .int .u8 0, .int .u8 0] 5)).setCells g 14 ((nums 28 dgk).map (Value.int .u8)))) := Lib.hid (below_setCells (Nat.le_of_eq HG.out.symm) _ 14 _ HO3.out.below)
  clear HO2 HO3 HR3
  generalize (u2.alloc (.cells #[.int .u8 69, .int .u8 0, .int .u8 0, .int .u8 28, .int .u8 0, .int .u8 0, .int .u8 0, .int .u8 0, .int .u8 64, .int .u8 17, .int .u8 0, .int .u8 0, .int .u8 10, .int .u8 0, .int .u8 0, .int .u8 1, .int .u8 10, .int .u8 0, .int .u8 0, .int .u8 2, .int .u8 0, .int .u8 7, .int .u8 0, .int .u8 9, .int .u8 0, .int .u8 8, .int .u8 0, .int .u8 0] 5)).setCells g 14 ((nums 28 dgk).map (Value.int .u8)) = u5 at *
  obtain ⟨g', hg', _, _, hx, hy⟩ := HO4.out.lies (by omega)
  obtain rfl : g = g' := by simpa using hg'
  have x24 := hx 24 (by omega)
  have x25 := hx 25 (by omega)
  have y24 := hy 24
  have y25 := hy 25
  clear hx hy hg'
  go_upto_region 5 with fail
  have HO6 := Lib.hid ((HO4.out.set_ 24 102).set_ 25 207)
  have HB6 : Hid (Below w.heap.size w ((u5.setCell ⟨g, 24, none⟩ (.int .u8 102)).setCell ⟨g, 25, none⟩ (.int .u8 207))) := Lib.hid ((HB5.out.setCell (show w.heap.size ≤ g by rw [HG.out]; exact Nat.le_refl _) _).setCell (show w.heap.size ≤ g by rw [HG.out]; exact Nat.le_refl _) _)
  clear x24 x25 y24 y25 HO4 HB5
  generalize (u5.setCell ⟨g, 24, none⟩ (.int .u8 102)).setCell ⟨g, 25, none⟩ (.int .u8 207) = u6 at *
  go_wp2_with fail
  go_ret
  refine ⟨g, rfl, ?_, HB6.out⟩
  rw [← HG.out]
  exact HO6.out.same fun k hk => dg_made_0 k hk
theorem dg_form (I : Value) : pkF dgf I = pkc dgf (fun k => dgf (6 + k)) (w2 dgf 12) false 17 (otS false (pkG dgf)) (otD false (pkG dgf)) 7 9 0 false I := by
  have hv : pkV dgf = false := by decide
  have hp : otP false (pkG dgf) = 17 := by decide
  have h7 : w2 (otF false (pkG dgf)) 0 = 7 := by decide
  have h9 : w2 (otF false (pkG dgf)) 2 = 9 := by decide
  have ht : pkT false 17 (otS false (pkG dgf)) (otD false (pkG dgf)) (otF false (pkG dgf)) (otR false (pkG dgf)) = tupc false 17 (otS false (pkG dgf)) (otD false (pkG dgf)) 7 9 := by
    unfold pkT
    rw [if_pos (.inr rfl), h7, h9]
  unfold pkF
  rw [hv, hp, ht, show pkL 17 (otF false (pkG dgf)) = 0 by unfold pkL; rw [if_neg (by decide)], show pkR 17 = false by decide]
  exact pkA_is ..
theorem dg_read (A : Option Addr) (c : Nat) (w : World) (h1 : 62 ≤ c) (h2 : c ≤ 9223372036854775807) (hr : Rd w w.heap.size A 62 dgf) :
    Calls Try.prog 6 #[.slice A 62 c] w fun e w' => ∃ g1 ic, e = .returned (.tuple #[.agg (pkc dgf (fun k => dgf (6 + k)) (w2 dgf 12) false 17 (otS false (pkG dgf)) (otD false (pkG dgf)) 7 9 0 false (.slice (some ⟨g1, 0, none⟩) 28 ic)), .int .i64 0]) ∧ Below w.heap.size w w' := by
  refine (pk_any A 62 c dgf dgf_byt (by omega) h1 h2 w hr).mono ?_
  rintro e w' (⟨h, _⟩ | ⟨_, g1, ic, N, c', rfl, _, _, _, _, hb⟩)
  · exact absurd (show pkE dgf 62 = 0 by decide +kernel) h
  · refine ⟨g1, ic, ?_, hb⟩
    rw [← dg_form, show (28 : Nat) = otI (pkV dgf) (pkG dgf) by decide]
    rfl
theorem arp_read (A : Option Addr) (c : Nat) (w : World) (h1 : 42 ≤ c) (h2 : c ≤ 9223372036854775807) (hr : Rd w w.heap.size A 42 (upd dgf 13 6)) :
    Calls Try.prog 6 #[.slice A 42 c] w fun e w' => e = .returned (.tuple #[.agg pkz, .int .i64 10]) ∧ Below w.heap.size w w' := by
  have hE : pkE (upd dgf 13 6) 42 = 10 := by decide +kernel
  refine (pk_any A 42 c (upd dgf 13 6) (upd_byt dgf_byt 13 (by omega)) (by omega) h1 h2 w hr).mono ?_
  rintro e w' (⟨_, rfl, hb⟩ | ⟨h, _⟩)
  · rw [hE]
    exact ⟨rfl, hb⟩
  · rw [hE] at h
    exact absurd h (by decide)
set_option maxHeartbeats 2000000 in
theorem known_any (w : World) : Calls Try.prog 5 #[] w fun e w' => e = .returned (.bool true) ∧ Below w.heap.size w w' := by
  have HD0 := Lib.hid datagram_0
  have HD1 := Lib.hid datagram_20
  have HR1 := Lib.hid dg_read
  have HR2 := Lib.hid arp_read
  have HM0 := Lib.hid (Mem.nil w)
  go_enter Try.func5, Try.ntmps5
  go_wp2_with fail
  go_at_call 13
  refine (HD1.out w).mono ?_
  rintro e u1 ⟨g, rfl, ho, hb⟩
  have HO1 := Lib.hid ho
  have HM1 := Lib.hid (HM0.out.step hb)
  clear ho hb HM0 HD1
  go_wp2_with fail
  go_at_call 6
  refine (HR1.out (some ⟨g, 0, none⟩) 62 u1 (by omega) (by omega) HO1.out.rd).mono ?_
  rintro e u2 ⟨g1, ic, rfl, hb⟩
  have HM2 := Lib.hid (HM1.out.step hb)
  clear hb HM1 HO1 HR1
  have HN : Hid ((u2.alloc (.cells pkz 32)).heap[u2.heap.size]? = some (.cells pkz 32 (0, 0))) := heap_alloc_new u2 _
  go_upto_region 3 with (first
    | (refine wpList_store_row rfl 32 (.tmp 2) (.tmp 11) rfl u2.heap.size (pkc dgf (fun k => dgf (6 + k)) (w2 dgf 12) false 17 (otS false (pkG dgf)) (otD false (pkG dgf)) 7 9 0 false (.slice (some ⟨g1, 0, none⟩) 28 ic)) rfl rfl 32 pkz HN.out (by kernel_rfl) rfl (pk_one ..) ?_))
  change Code.wp _ _ _ _ ((u2.alloc (.cells pkz 32)).setRow u2.heap.size (pkc dgf (fun k => dgf (6 + k)) (w2 dgf 12) false 17 (otS false (pkG dgf)) (otD false (pkG dgf)) 7 9 0 false (.slice (some ⟨g1, 0, none⟩) 28 ic)))
  obtain ⟨q2, hq⟩ : ∃ q, q = u2.heap.size := ⟨_, rfl⟩
  have HM3 : Hid (Mem w ((u2.alloc (.cells pkz 32)).setRow q2 (pkc dgf (fun k => dgf (6 + k)) (w2 dgf 12) false 17 (otS false (pkG dgf)) (otD false (pkG dgf)) 7 9 0 false (.slice (some ⟨g1, 0, none⟩) 28 ic))) [(q2, .cells (pkc dgf (fun k => dgf (6 + k)) (w2 dgf 12) false 17 (otS false (pkG dgf)) (otD false (pkG dgf)) 7 9 0 false (.slice (some ⟨g1, 0, none⟩) 28 ic)) 32 (0, 0))]) := Lib.hid (HM2.out.newrow pkz (pkc dgf (fun k => dgf (6 + k)) (w2 dgf 12) false 17 (otS false (pkG dgf)) (otD false (pkG dgf)) 7 9 0 false (.slice (some ⟨g1, 0, none⟩) 28 ic)) 32 q2 hq)
  rw [← hq]
  clear hq HN HM2
  generalize (u2.alloc (.cells pkz 32)).setRow q2 (pkc dgf (fun k => dgf (6 + k)) (w2 dgf 12) false 17 (otS false (pkG dgf)) (otD false (pkG dgf)) 7 9 0 false (.slice (some ⟨g1, 0, none⟩) 28 ic)) = u3 at *
  go_wp2_with fail
  go_at_call 13
  refine (HD0.out u3).mono ?_
  rintro e u4 ⟨g2, rfl, ho, hb⟩
  have HO4 := Lib.hid ho
  have HM4 := Lib.hid (HM3.out.step hb)
  have hlow : u3.heap.size ≤ g2 := by
    obtain ⟨x, hx, h1, _⟩ := ho.lies (by omega)
    obtain rfl : g2 = x := by simpa using hx
    exact h1
  have HLW := Lib.hid hlow
  have HT3 := Lib.hid HM3.out.top
  have HS3 := Lib.hid HM3.out.below.size
  clear ho hb HM3 HD0 hlow
  obtain ⟨g', hg', _, _, hx, hy⟩ := HO4.out.lies (by omega)
  obtain rfl : g2 = g' := by simpa using hg'
  have x13 := hx 13 (by omega)
  have y13 := hy 13
  clear hx hy hg'
  go_upto_region 5 with fail
  have HO5 := Lib.hid (HO4.out.set_ 13 6)
  have HM5 : Hid (Mem w (u4.setCell ⟨g2, 13, none⟩ (.int .u8 6)) [(q2, .cells (pkc dgf (fun k => dgf (6 + k)) (w2 dgf 12) false 17 (otS false (pkG dgf)) (otD false (pkG dgf)) 7 9 0 false (.slice (some ⟨g1, 0, none⟩) 28 ic)) 32 (0, 0))]) := Lib.hid (HM4.out.besides (B := u3.heap.size) HT3.out HS3.out ((Below.refl _ _).setCell (p := ⟨g2, 13, none⟩) HLW.out _))
  clear x13 y13 HO4 HM4
  generalize u4.setCell ⟨g2, 13, none⟩ (.int .u8 6) = u5 at *
  go_wp2_with fail
  go_at_call 6
  refine (HR2.out (some ⟨g2, 0, none⟩) 42 u5 (by omega) (by omega) HO5.out.rd).mono ?_
  rintro e u6 ⟨rfl, hb⟩
  have HM6 := Lib.hid (HM5.out.step hb)
  clear hb HM5 HO5 HR2
  have HN : Hid ((u6.alloc (.cells pkz 32)).heap[u6.heap.size]? = some (.cells pkz 32 (0, 0))) := heap_alloc_new u6 _
  go_upto_region 6 with (first
    | (refine wpList_store_row rfl 32 (.tmp 5) (.tmp 19) rfl u6.heap.size pkz rfl rfl 32 pkz HN.out (by kernel_rfl) rfl (pk_one ..) ?_))
  change Code.wp _ _ _ _ ((u6.alloc (.cells pkz 32)).setRow u6.heap.size pkz)
  obtain ⟨q5, hq⟩ : ∃ q, q = u6.heap.size := ⟨_, rfl⟩
  have HM7 : Hid (Mem w ((u6.alloc (.cells pkz 32)).setRow q5 pkz) [(q2, .cells (pkc dgf (fun k => dgf (6 + k)) (w2 dgf 12) false 17 (otS false (pkG dgf)) (otD false (pkG dgf)) 7 9 0 false (.slice (some ⟨g1, 0, none⟩) 28 ic)) 32 (0, 0)), (q5, .cells pkz 32 (0, 0))]) := Lib.hid (HM6.out.newrow pkz pkz 32 q5 hq)
  rw [← hq]
  clear hq HN HM6
  generalize (u6.alloc (.cells pkz 32)).setRow q5 pkz = u7 at *
  have x51 : u7.cell? ⟨q2, 51, none⟩ = some (.slice (some ⟨g1, 0, none⟩) 28 ic) := blk_cell (HM7.out.get 0 rfl) 51
  have x47 : u7.cell? ⟨q2, 47, none⟩ = some (.int .u16 7) := blk_cell (HM7.out.get 0 rfl) 47
  have x48 : u7.cell? ⟨q2, 48, none⟩ = some (.int .u16 9) := blk_cell (HM7.out.get 0 rfl) 48
  have x14 : u7.cell? ⟨q2, 14, none⟩ = some (.int .u8 17) := blk_cell (HM7.out.get 0 rfl) 14
  go_wp2_with fail
  go_ret
  exact ⟨rfl, HM7.out.below⟩
end Go.Proofs.Ytlchegibfopglaa
