/- Stage 9: told, over whatever iterator tells a list. -/
import Derived.RangeFuncNested
import Derived.RangeFuncBound
import Derived.RangeFuncCalls
import Derived.RangeFuncLeaves
import Derived.Shelf.Abstract
import Derived.Shelf.RegionOpen
import Derived.WalkKit
import Derived.OwnWalkIn
import Derived.TacticsInMore
import Derived.LoopNIn
import Derived.LoopIn
import Derived.Test.YthljpfmonienlaaFoot
namespace Go.Proofs.Ythljpfmonienlaa
open Go.RowKit Go.Shelf
attribute [local go_sem] Oper.semAt_some
/-- A handle, as an iterator hands it on. -/
def hEnc (x : Nat × Nat) : Array Value := #[.agg #[.int .i64 (x.1 : Int), .int .u64 (x.2 : Int)]]
theorem Kept.grownBy {R : Nat → Prop} {w w' : World} {row : Option Nat} (hg : w.grownBy w' row) (hR : ∀ k, row = some k → R k) : Kept R w w' :=
  ⟨hg.os, hg.tape, hg.output, hg.size, fun k hk hn => hg.block k hk fun e => hn (hR k e.symm)⟩
theorem keptK_t {R : Nat → Prop} {A B C : World} (h : Kept R A B) (k : Kept R B C) : Kept R A C := h.trans k fun _ _ r => r
theorem keptK_b {R : Nat → Prop} {w : World} (hn : ∀ k, w.heap.size ≤ k → R k) (W : World) (l : Nat) (o o' : Obj) (hl : w.heap.size ≤ l) (_ : W.heap[l]? = some o) (_ : o.isCells = false) (_ : o.isWalk = false) : Kept R W (W.putObj l o') :=
  Kept.grownBy (grownBy_putObj' W l o') fun k e => by
    injection e with e
    subst e
    exact hn _ hl
/-- A function that tells the handles of l, one by one, as far as it is asked, as long as its blocks are kept. -/
def Its (g : Nat) (lb : Array Value) (l : List (Nat × Nat)) (Fi : Nat → Prop) (w : World) : Prop := ∀ R : Nat → Prop, (∀ k, Fi k → ¬ R k) → SeqStopsK Fence.wide 12 Try.prog g lb hEnc (Kept R) (fun xs => xs = l) (fun pre => pre <+: l) l.length w
/-- What All tells: such a function, over its own blocks and old ones. -/
def AllO (g : Nat) (l : List (Nat × Nat)) (B : Nat) (W : World) (e : Ending) (w' : World) : Prop := ∃ lb Fi, e = .returned (.func (.func g) #[] lb) ∧ Below W.heap.size W w' ∧ (∀ k, Fi k → k < w'.heap.size ∧ (k < B ∨ W.heap.size ≤ k)) ∧ Its g lb l Fi w'
set_option maxRecDepth 100000 in
set_option maxHeartbeats 1000000 in
theorem told_any (g : Nat) (eg : ∀ args w, (callFunc g args).run Try.prog w = .ok (.enter g args) w) (pa : Option Addr) (l : List (Nat × Nat)) (hl : l.length ≤ 65536) (w : World)
    (HA : ∀ W, Below w.heap.size w W → Calls Try.prog 20 #[.pointer pa] W (AllO g l w.heap.size W)) :
    Calls Try.prog 21 #[.pointer pa] w fun e w' => e = .returned (.int .i64 (l.length : Int)) ∧ Below w.heap.size w w' := by
  have HI := Lib.hid HA
  clear HA
  have HB0 : Hid (Below w.heap.size w (w.alloc (.cells #[.int .i64 0] 3))) := Lib.hid (below_alloc w _)
  refine (callsIn_wide (n := 13)).1 ?_
  refine callsIn_of_wp_marks Try.func21 rfl trivial ?_ rfl
  simp only [Try.ntmps21, List.size_toArray, List.length_cons, List.length_nil, Nat.reduceAdd, Nat.reduceSub, Array.replicate_succ, Array.replicate_zero, List.push_toArray, List.append_toArray, List.nil_append, List.cons_append]
  gi_wp2_with (refine ⟨trivial, ?_⟩; gi_at_call 20; refine (callsIn_wide.2 (HI.out _ HB0.out)).mono ?_; rintro e u ⟨lb, Fi, rfl, hb, hFi, hst⟩)
  have HB1 : Hid (Below w.heap.size w u) := Lib.hid (HB0.out.trans (hb.mono HB0.out.size))
  have HC : Hid (u.heap[w.heap.size]? = some (.cells #[.int .i64 0] 3 (0, 0))) := Lib.hid ((hb.block _ (by simp)).trans (heap_alloc_new w _))
  have hRb : ∀ k, Fi k → ¬ (k = w.heap.size ∨ u.heap.size ≤ k) := fun k hk hr => by
    obtain ⟨h1, h2⟩ := hFi k hk
    have hz : (w.alloc (.cells #[.int .i64 0] 3)).heap.size = w.heap.size + 1 := by simp
    omega
  clear hb HI HB0
  refine wpIn_rangeFunc_ownF rfl (by omega) (gf := g) (lb := lb) rfl trivial eg (hst (fun k => k = w.heap.size ∨ u.heap.size ≤ k) hRb) keptK_t (keptK_b fun _ h => .inr h) (Below.refl _ _) (fun _ => rfl)
    (fun pre W => (W.cell? ⟨w.heap.size, 0, none⟩ = some (.int .i64 (pre.length : Int)) ∧ W.frozen? ⟨w.heap.size, 0, none⟩ = false) ∧ Below w.heap.size w W)
    (fun _ _ _ => False)
    (OwnFrom.and (Own.from (fun s A B row hs hg hr => ⟨cell_kept hs.1 hg hr, (frozen_kept hs.1 hg hr).trans hs.2⟩) _) (ownFrom_below (Nat.le_refl _) HB1.out.size))
    (fun _ _ _ _ _ hs _ _ => hs)
    ⟨⟨blk_cell HC.out 0, blk_free HC.out 0⟩, HB1.out⟩
    (fun x => { tmps := #[.pointer pa, undef, .int .i64 0, .pointer (some ⟨w.heap.size, 0, none⟩), .pointer pa, .func (.func g) #[] lb, .agg #[.int .i64 (x.1 : Int), .int .u64 (x.2 : Int)], undef, undef, undef], defers := [] }) ?assign ?body ?done ?stop
  case assign =>
    intro l x W K hK
    unfold hEnc
    gi_wp2
    simpa using hK
  case body =>
    rintro l' pre x W ⟨⟨hc, hf⟩, hB⟩ hpl
    have zw : IntKind.i64.wrap ((pre.length : Int) + 1) = (pre.length : Int) + 1 := by rw [IntKind.wrap_i64]; omega
    gi_wp2
    refine ⟨KeepsOthers.setCell _ _ _, (Kept.refl _ W).setCell (p := ⟨w.heap.size, 0, none⟩) (.inl (.inl rfl)) _, ⟨?_, by rw [World.frozen?_setCell]; exact hf⟩, hB.setCell (p := ⟨w.heap.size, 0, none⟩) (Nat.le_refl _) _⟩
    rw [World.cell?_setCell_same' _ _ _ (by rw [hc]; rfl), List.length_append]
    rfl
  case done =>
    rintro D ys W hD rfl ⟨⟨hc, _⟩, hB⟩ hK
    gi_wp2
    refine ⟨by simp, .inl ⟨_, _, rfl, run_takeDeferred hK, ?_⟩⟩
    exact ⟨_, results_tmp rfl _ _ _, rfl, hB.trans (belowK_b (w := w) (Nat.le_refl _) W D _ _ (Nat.le_trans HB1.out.size hD) hK rfl rfl)⟩
  case stop =>
    rintro D c pre W _ _ h _
    exact h.elim
end Go.Proofs.Ythljpfmonienlaa
