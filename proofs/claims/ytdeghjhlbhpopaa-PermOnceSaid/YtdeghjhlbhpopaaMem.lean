/- The blocks that a walk made, in the order of their making: one fact for all of them, over any program. -/
import Derived.Test.YtdeghjhlbhpopaaGen
namespace Go.Proofs.Ytdeghjhlbhpopaa
open Go.RowKit
structure Mem (w W : World) (L : List (Nat × Obj)) : Prop where
  all : ∀ p ∈ L, W.heap[p.1]? = some p.2
  lo : ∀ p ∈ L, w.heap.size ≤ p.1
  inc : L.Pairwise fun a b => a.1 < b.1
  below : Below w.heap.size w W
theorem Mem.nil (w : World) : Mem w w [] := ⟨fun _ h => (nomatch h), fun _ h => (nomatch h), .nil, Below.refl _ _⟩
theorem Mem.get {w W : World} {L : List (Nat × Obj)} (h : Mem w W L) (k : Nat) {g : Nat} {o : Obj} (hk : L[k]? = some (g, o)) : W.heap[g]? = some o := h.all (g, o) (List.mem_of_getElem? hk)
theorem Mem.low {w W : World} {L : List (Nat × Obj)} (h : Mem w W L) (k : Nat) {g : Nat} {o : Obj} (hk : L[k]? = some (g, o)) : w.heap.size ≤ g := h.lo (g, o) (List.mem_of_getElem? hk)
theorem Mem.step {w W W' : World} {L : List (Nat × Obj)} (h : Mem w W L) (hb : Below W.heap.size W W') : Mem w W' L :=
  ⟨fun p hp => (hb.block _ (lt_heap (h.all p hp))).trans (h.all p hp), h.lo, h.inc, h.below.trans (hb.mono h.below.size)⟩
theorem Mem.drew {w W : World} {L : List (Nat × Obj)} (h : Mem w W L) : Mem w W.drew L := ⟨h.all, h.lo, h.inc, h.below.drew⟩
theorem Mem.drewN {w W : World} {L : List (Nat × Obj)} (h : Mem w W L) (k : Nat) : Mem w (W.drewN k) L := ⟨h.all, h.lo, h.inc, below_drewN h.below k⟩
theorem Mem.alloc {w W : World} {L : List (Nat × Obj)} (h : Mem w W L) (o : Obj) : Mem w (W.alloc o) (L ++ [(W.heap.size, o)]) := by
  refine ⟨fun p hp => ?_, fun p hp => ?_, ?_, h.below.alloc h.below.size o⟩
  · rcases List.mem_append.1 hp with q | q
    · exact blk_old (h.all p q) o
    · obtain rfl := List.mem_singleton.1 q
      exact heap_alloc_new W o
  · rcases List.mem_append.1 hp with q | q
    · exact h.lo p q
    · obtain rfl := List.mem_singleton.1 q
      exact h.below.size
  · refine List.pairwise_append.2 ⟨h.inc, List.pairwise_singleton .., fun a ha b hb => ?_⟩
    obtain rfl := List.mem_singleton.1 hb
    exact lt_heap (h.all a ha)
/-- A block that is made and named. -/
theorem Mem.new {w W : World} {L : List (Nat × Obj)} (h : Mem w W L) (o : Obj) (q : Nat) (hq : q = W.heap.size) : Mem w (W.alloc o) (L ++ [(q, o)]) := by
  subst hq
  exact h.alloc o
theorem Mem.turn {w W W' : World} {L : List (Nat × Obj)} (h : Mem w W L) (k : Nat) {g : Nat} {o : Obj} (hk : L[k]? = some (g, o)) (o' : Obj) (hg : W'.heap[g]? = some o') (hw : ∀ j, j ≠ g → W'.heap[j]? = W.heap[j]?) (hb : Below w.heap.size w W') : Mem w W' (L.set k (g, o')) := by
  obtain ⟨hlt, he⟩ := List.getElem?_eq_some_iff.1 hk
  have hp := List.pairwise_iff_getElem.1 h.inc
  have key : ∀ i (hi : i < (L.set k (g, o')).length), W'.heap[(L.set k (g, o'))[i].1]? = some (L.set k (g, o'))[i].2 ∧ w.heap.size ≤ (L.set k (g, o'))[i].1 := fun i hi => by
    have hi' : i < L.length := by simpa using hi
    rw [List.getElem_set]
    by_cases e : k = i
    · subst e
      rw [if_pos rfl]
      exact ⟨hg, h.low k hk⟩
    · rw [if_neg e]
      refine ⟨?_, h.lo _ (List.getElem_mem hi')⟩
      rw [hw _ ?_]
      · exact h.all _ (List.getElem_mem hi')
      · have e2 : L[k].1 = g := by rw [he]
        rcases Nat.lt_or_gt_of_ne e with q | q
        · have := hp k i hlt hi' q
          omega
        · have := hp i k hi' hlt q
          omega
  refine ⟨fun p hp => ?_, fun p hp => ?_, ?_, hb⟩
  · obtain ⟨i, hi, rfl⟩ := List.getElem_of_mem hp
    exact (key i hi).1
  · obtain ⟨i, hi, rfl⟩ := List.getElem_of_mem hp
    exact (key i hi).2
  · refine List.pairwise_iff_getElem.2 fun i j hi hj hij => ?_
    have hi' : i < L.length := by simpa using hi
    have hj' : j < L.length := by simpa using hj
    have e1 : ∀ i (hi : i < (L.set k (g, o')).length) (hi' : i < L.length), (L.set k (g, o'))[i].1 = L[i].1 := fun i hi hi' => by
      rw [List.getElem_set]
      split
      · rename_i e
        subst e
        rw [he]
      · rfl
    rw [e1 i hi hi', e1 j hj hj']
    exact hp i j hi' hj' hij
theorem Mem.row {w W : World} {L : List (Nat × Obj)} (h : Mem w W L) (k : Nat) {g : Nat} {cs : Array Value} {t : TypeId} (hk : L[k]? = some (g, .cells cs t (0, 0))) (new : Array Value) : Mem w (W.setRow g new) (L.set k (g, .cells new t (0, 0))) :=
  h.turn k hk _ (setRow_heap W g _ new _ _ (h.get k hk)) (fun j hj => setRow_other W g j new hj) (below_setRow h.below (h.low k hk) new)
theorem Mem.set {w W : World} {L : List (Nat × Obj)} (h : Mem w W L) (k : Nat) {g : Nat} {cs : Array Value} {t : TypeId} (hk : L[k]? = some (g, .cells cs t (0, 0))) (i : Nat) (v : Value) : Mem w (W.setCell ⟨g, i, none⟩ v) (L.set k (g, .cells (cs.setIfInBounds i v) t (0, 0))) :=
  h.turn k hk _ (blk_set (h.get k hk) i v) (fun j hj => Below.heap_setCell W ⟨g, i, none⟩ v j hj) (h.below.setCell (h.low k hk) v)
theorem Mem.cells {w W : World} {L : List (Nat × Obj)} (h : Mem w W L) (k : Nat) {g : Nat} {cs : Array Value} {t : TypeId} (hk : L[k]? = some (g, .cells cs t (0, 0))) (o : Nat) (vs : List Value) : Mem w (W.setCells g o vs) (L.set k (g, .cells (laid cs o vs) t (0, 0))) :=
  h.turn k hk _ (blk_setCells vs o W cs (h.get k hk)) (fun _j hj => other_setCells hj vs o W) (below_setCells (h.low k hk) vs o W h.below)
/-- Bytes that came in, behind it. -/
theorem Mem.rd {w W : World} {L : List (Nat × Obj)} (h : Mem w W L) {A : Option Addr} {n : Nat} {f : Nat → Int} (hr : Rd w w.heap.size A n f) : Rd W W.heap.size A n f := (hr.keep h.below).more h.below.size
theorem Mem.cell {w W : World} {L : List (Nat × Obj)} (h : Mem w W L) {b o : Nat} (hb : b < w.heap.size) {v : Value} (hc : w.cell? ⟨b, o, none⟩ = some v) : W.cell? ⟨b, o, none⟩ = some v := (h.below.cell (p := ⟨b, o, none⟩) hb).trans hc
/-- .. of the call's own: kept where one of the blocks, of another type, alone is turned. -/
theorem Own.besides {w W W' : World} {L : List (Nat × Obj)} {base : Nat} {e : TypeId} {A : Option Addr} {n c : Nat} {f : Nat → Int} (ho : Own W base e A n c f) (h : Mem w W L) (k : Nat) {g : Nat} {cs : Array Value} {t : TypeId} (hk : L[k]? = some (g, .cells cs t (0, 0))) (hte : t ≠ e) (hw : ∀ j, j ≠ g → W'.heap[j]? = W.heap[j]?) : Own W' base e A n c f :=
  ho.other (h.get k hk) hte hw
theorem Mem.old {w W : World} {L : List (Nat × Obj)} (h : Mem w W L) {g : Nat} {o : Obj} (hg : w.heap[g]? = some o) : W.heap[g]? = some o := (h.below.block _ (lt_heap hg)).trans hg
theorem Mem.rdo {w W : World} {L : List (Nat × Obj)} (h : Mem w W L) {A : Option Addr} {n : Nat} {f : Nat → Int} (hr : Rd w w.heap.size A n f) : Rd W W.heap.size A n f := h.rd hr
end Go.Proofs.Ytdeghjhlbhpopaa
