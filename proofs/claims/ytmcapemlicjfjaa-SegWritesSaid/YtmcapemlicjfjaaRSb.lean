/- Layer 5: the memory of the document's readers. -/
import Derived.Test.YtmcapemlicjfjaaRSa
namespace Go.Proofs.Ytmcapemlicjfjaa
open Go.RowKit
/-- Three blocks, and a fourth one like the third. -/
structure Box4 (w W : World) (s d : Nat → Int) (cs : Array Value) (t : TypeId) : Prop where
  box : Box3 w W s d cs t
  b3 : W.heap[w.heap.size + 1 + 1 + 1]? = some (.cells cs t (0, 0))
theorem Box4.step {w W W' : World} {s d : Nat → Int} {cs : Array Value} {t : TypeId} (h : Box4 w W s d cs t) (hb : Below W.heap.size W W') : Box4 w W' s d cs t :=
  ⟨h.box.step hb, (hb.block _ (lt_heap h.b3)).trans h.b3⟩
theorem Box4.keep {w W W' : World} {s d : Nat → Int} {cs : Array Value} {t : TypeId} (h : Box4 w W s d cs t) (hb : Below (w.heap.size + 1 + 1 + 1 + 1) W W') : Box4 w W' s d cs t :=
  ⟨h.box.keep (hb.mono (by omega)), (hb.block _ (by omega)).trans h.b3⟩
theorem Box4.size {w W : World} {s d : Nat → Int} {cs : Array Value} {t : TypeId} (h : Box4 w W s d cs t) : w.heap.size + 1 + 1 + 1 + 1 ≤ W.heap.size := lt_heap h.b3
theorem Box4.start (w : World) (s d : Nat → Int) (cs : Array Value) (t : TypeId) : Box4 w ((((w.alloc (.cells (arr16 s) 22)).alloc (.cells (arr16 d) 22)).alloc (.cells cs t)).alloc (.cells cs t)) s d cs t := by
  have h := Box3.start w s d cs t
  have e2 : (((w.alloc (Obj.cells (arr16 s) 22)).alloc (Obj.cells (arr16 d) 22)).alloc (.cells cs t)).heap.size = w.heap.size + 1 + 1 + 1 := by simp
  refine ⟨h.step (below_alloc _ _), ?_⟩
  rw [← e2]
  exact heap_alloc_new _ _
theorem Box4.row {w W : World} {s d : Nat → Int} {cs : Array Value} {t : TypeId} (h : Box4 w W s d cs t) : Box4 w (W.setRow (w.heap.size + 1 + 1 + 1) cs) s d cs t :=
  ⟨h.box.keep (below_setRow (Below.refl _ _) (Nat.le_refl _) _), setRow_heap _ _ _ cs _ _ h.b3⟩
/-- .. and a header in a variable. -/
structure Hd4 (w W : World) (s d : Nat → Int) (cs : Array Value) (t : TypeId) (y : Nat) (hs : Array Value) : Prop where
  box : Box4 w W s d cs t
  hd : W.heap[y]? = some (.cells hs t (0, 0))
  lo : w.heap.size + 1 + 1 + 1 + 1 ≤ y
theorem Hd4.step {w W W' : World} {s d : Nat → Int} {cs : Array Value} {t : TypeId} {y : Nat} {hs : Array Value} (h : Hd4 w W s d cs t y hs) (hb : Below W.heap.size W W') : Hd4 w W' s d cs t y hs :=
  ⟨h.box.step hb, (hb.block _ (lt_heap h.hd)).trans h.hd, h.lo⟩
theorem Hd4.set {w W : World} {s d : Nat → Int} {cs : Array Value} {t : TypeId} {y : Nat} {hs : Array Value} (h : Hd4 w W s d cs t y hs) (i : Nat) (v : Value) : Hd4 w (W.setCell ⟨y, i, none⟩ v) s d cs t y (hs.setIfInBounds i v) :=
  ⟨h.box.keep ((Below.refl _ _).setCell h.lo v), blk_set h.hd i v, h.lo⟩
theorem Hd4.new {w W : World} {s d : Nat → Int} {cs : Array Value} {t : TypeId} (h : Box4 w W s d cs t) (zs hs : Array Value) (y : Nat) (hy : y = W.heap.size) : Hd4 w ((W.alloc (.cells zs t)).setRow y hs) s d cs t y hs := by
  subst hy
  exact ⟨h.keep (below_setRow ((Below.refl _ _).alloc h.size _) h.size _), setRow_heap _ _ _ hs _ _ (heap_alloc_new W _), h.size⟩
end Go.Proofs.Ytmcapemlicjfjaa
