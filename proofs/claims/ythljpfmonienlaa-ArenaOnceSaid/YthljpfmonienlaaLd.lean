/- Stage 9: the landed arena's fields set; unlink. -/
import Derived.Test.YthljpfmonienlaaLc
namespace Go.Proofs.Ythljpfmonienlaa
set_option maxRecDepth 100000
open Go.RowKit
theorem PX.set1 {w : World} {p g n c : Nat} {fd : Int} {fs lv S : Nat} {ha : Nat → Nat} {bf : Nat → Int} {F : Nat → Prop} (h : PX w p g n c fd fs lv S ha bf F) (v : Int) : PX (w.setCell ⟨p, 1, none⟩ (.int .i64 v)) p g n c v fs lv S ha bf F :=
  ⟨blk_set h.blk 1 _, h.row.block (Below.heap_setCell w ⟨p, 1, none⟩ _ g (Ne.symm h.ne)), h.mp, h.mg, fun k hF => by simpa using h.old k hF, h.pos⟩
theorem PX.set2 {w : World} {p g n c : Nat} {fd : Int} {fs lv S : Nat} {ha : Nat → Nat} {bf : Nat → Int} {F : Nat → Prop} (h : PX w p g n c fd fs lv S ha bf F) (v : Nat) : PX (w.setCell ⟨p, 2, none⟩ (.int .i64 (v : Int))) p g n c fd v lv S ha bf F :=
  ⟨blk_set h.blk 2 _, h.row.block (Below.heap_setCell w ⟨p, 2, none⟩ _ g (Ne.symm h.ne)), h.mp, h.mg, fun k hF => by simpa using h.old k hF, h.pos⟩
theorem PX.set3 {w : World} {p g n c : Nat} {fd : Int} {fs lv S : Nat} {ha : Nat → Nat} {bf : Nat → Int} {F : Nat → Prop} (h : PX w p g n c fd fs lv S ha bf F) (v : Nat) : PX (w.setCell ⟨p, 3, none⟩ (.int .i64 (v : Int))) p g n c fd fs v S ha bf F :=
  ⟨blk_set h.blk 3 _, h.row.block (Below.heap_setCell w ⟨p, 3, none⟩ _ g (Ne.symm h.ne)), h.mp, h.mg, fun k hF => by simpa using h.old k hF, h.pos⟩
theorem PX.set4 {w : World} {p g n c : Nat} {fd : Int} {fs lv S : Nat} {ha : Nat → Nat} {bf : Nat → Int} {F : Nat → Prop} (h : PX w p g n c fd fs lv S ha bf F) (v : Nat) : PX (w.setCell ⟨p, 4, none⟩ (.int .u64 (v : Int))) p g n c fd fs lv v ha bf F :=
  ⟨blk_set h.blk 4 _, h.row.block (Below.heap_setCell w ⟨p, 4, none⟩ _ g (Ne.symm h.ne)), h.mp, h.mg, fun k hF => by simpa using h.old k hF, h.pos⟩
theorem PX.put {w : World} {p g n c : Nat} {fd : Int} {fs lv S : Nat} {ha : Nat → Nat} {bf : Nat → Int} {F : Nat → Prop} (h : PX w p g n c fd fs lv S ha bf F) (j a : Nat) (b : Int) : PX (w.setCells g (j * 2) [.int .u64 (a : Int), .int .i64 b]) p g n c fd fs lv S (fun k => if k = j then a else ha k) (fun k => if k = j then b else bf k) F := by
  refine ⟨(other_setCells h.ne _ _ _).trans h.blk, ((h.row.set_ (j * 2) (.int .u64 (a : Int))).set_ (j * 2 + 1) (.int .i64 b)).same fun k _ => ?_, h.mp, h.mg, fun k hF => ?_, h.pos⟩
  · unfold updV pcell
    by_cases e1 : k = j * 2 + 1
    · rw [if_pos e1, if_neg (show ¬ k % 2 = 0 by omega)]
      show Value.int .i64 (if k / 2 = j then b else bf (k / 2)) = _
      rw [if_pos (by omega)]
    · rw [if_neg e1]
      by_cases e2 : k = j * 2
      · rw [if_pos e2, if_pos (show k % 2 = 0 by omega)]
        show Value.int .u64 ((if k / 2 = j then a else ha (k / 2) : Nat) : Int) = _
        rw [if_pos (by omega)]
      · rw [if_neg e2]
        by_cases e3 : k % 2 = 0
        · rw [if_pos e3, if_pos e3]
          show Value.int .u64 ((if k / 2 = j then a else ha (k / 2) : Nat) : Int) = _
          rw [if_neg (by omega)]
        · rw [if_neg e3, if_neg e3]
          show Value.int .i64 (if k / 2 = j then b else bf (k / 2)) = _
          rw [if_neg (by omega)]
  · have := h.old k hF
    have e := (below_setCells (b := g) (Nat.zero_le _) [.int .u64 (a : Int), .int .i64 b] (j * 2) w (Below.refl 0 w)).size
    omega
theorem PX.there {w : World} {p g n c : Nat} {fd : Int} {fs lv S : Nat} {ha : Nat → Nat} {bf : Nat → Int} {F : Nat → Prop} (h : PX w p g n c fd fs lv S ha bf F) {j : Nat} (hj : j < n) : w.there g (j * 2) 2 := fun k hk => by
  refine ⟨?_, h.fz _⟩
  rcases (show k = 0 ∨ k = 1 by omega) with rfl | rfl
  · rw [Nat.add_zero, h.c0 hj]
    rfl
  · rw [h.c1 hj]
    rfl
theorem Kept.setCells {R : Nat → Prop} {w w' : World} (h : Kept R w w') {g : Nat} (hg : R g ∨ w.heap.size ≤ g) : ∀ (vs : List Value) (o : Nat), Kept R w (w'.setCells g o vs) := fun vs => by
  induction vs generalizing w' with
  | nil => exact fun _ => h
  | cons v r ih => exact fun o => ih (h.setCell (p := ⟨g, o, none⟩) hg v) (o + 1)
set_option maxHeartbeats 1000000 in
theorem punlink_free {w : World} {p g n c : Nat} {fd : Int} {fs lv S : Nat} {ha : Nat → Nat} {bf : Nat → Int} {F : Nat → Prop} (h : PX w p g n c fd fs lv S ha bf F) (_hn : n ≤ 65536) (i : Nat) (hi : i < n) (hf : fd = (i : Int)) :
    Calls Try.prog 22 #[.pointer (some ⟨p, 0, none⟩)] w fun e w' => e = .returned (.int .i64 (i : Int)) ∧ PX w' p g n c (bf i) fs lv S ha bf F ∧ Kept (fun k => k = p) w w' := by
  subst hf
  have HX := Lib.hid h
  have x0 : w.cell? ⟨p, 0, none⟩ = some (.slice (some ⟨g, 0, none⟩) n c) := blk_cell h.blk 0
  have x1 : w.cell? ⟨p, 1, none⟩ = some (.int .i64 (i : Int)) := blk_cell h.blk 1
  have y1 := blk_free h.blk 1
  have xc : w.cell? ⟨g, i * 2 + 1, none⟩ = some (.int .i64 (bf i)) := h.c1 hi
  have hne : ((i : Int) != -1) = true := by simp
  have i0 : (0 : Int) ≤ (i : Int) := by omega
  have i1 : (i : Int) < (n : Int) := by omega
  have i2 : ((i : Int)).toNat = i := by omega
  have cap := h.cap
  have cap9 := h.cap9
  clear h
  go_enter Try.func22, Try.ntmps22
  go_wp2_with fail
  go_ret
  exact ⟨rfl, HX.out.set1 _, (Kept.refl (fun k => k = p) w).setCell (p := ⟨p, 1, none⟩) (.inl rfl) _⟩
set_option maxHeartbeats 1000000 in
theorem punlink_fresh {w : World} {p g n c : Nat} {fd : Int} {fs lv S : Nat} {ha : Nat → Nat} {bf : Nat → Int} {F : Nat → Prop} (h : PX w p g n c fd fs lv S ha bf F) (hn : n ≤ 65536) (hi : fs < n) (hf : fd = -1) :
    Calls Try.prog 22 #[.pointer (some ⟨p, 0, none⟩)] w fun e w' => e = .returned (.int .i64 (fs : Int)) ∧ PX w' p g n c (-1) (fs + 1) lv S ha bf F ∧ Kept (fun k => k = p) w w' := by
  subst hf
  have HX := Lib.hid h
  have x1 : w.cell? ⟨p, 1, none⟩ = some (.int .i64 (-1)) := blk_cell h.blk 1
  have x2 : w.cell? ⟨p, 2, none⟩ = some (.int .i64 (fs : Int)) := blk_cell h.blk 2
  have y2 := blk_free h.blk 2
  have zw : IntKind.i64.wrap ((fs : Int) + 1) = (fs : Int) + 1 := by rw [IntKind.wrap_i64]; omega
  have zw2 : IntKind.i64.wrap ((fs : Int) + 1 - 1) = (fs : Int) := by rw [IntKind.wrap_i64]; omega
  have zw3 : IntKind.i64.wrap (fs : Int) = (fs : Int) := by rw [IntKind.wrap_i64]; omega
  have HX2 : Hid (PX (w.setCell ⟨p, 2, none⟩ (.int .i64 ((fs : Int) + 1))) p g n c (-1) (fs + 1) lv S ha bf F) := Lib.hid (by
    have := h.set2 (fs + 1)
    rwa [show ((fs + 1 : Nat) : Int) = (fs : Int) + 1 by omega] at this)
  have x22 : (w.setCell ⟨p, 2, none⟩ (.int .i64 ((fs : Int) + 1))).cell? ⟨p, 2, none⟩ = some (.int .i64 ((fs : Int) + 1)) := by
    have := blk_cell HX2.out.blk 2
    exact this
  clear h
  go_enter Try.func22, Try.ntmps22
  go_wp2_with fail
  go_ret
  exact ⟨rfl, HX2.out, (Kept.refl (fun k => k = p) w).setCell (p := ⟨p, 2, none⟩) (.inl rfl) _⟩
end Go.Proofs.Ythljpfmonienlaa
