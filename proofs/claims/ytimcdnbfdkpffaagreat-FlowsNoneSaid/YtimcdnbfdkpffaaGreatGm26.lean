import Derived.Test.YtimcdnbfdkpffaaGreatGm25
/- Stage 14: the document's Step. -/
namespace Go.Proofs.YtimcdnbfdkpffaaGreat
set_option maxRecDepth 100000
open Go.RowKit Go.Shelf
section
variable {w w' : World} {q qn qx : Nat} {s : Gr} {G Gn Gx : Nat → Prop}
def BoxF (l : Array Bool) (i : Nat) (W : World) (z0 z : Nat) (A B : Array Value) (t : TypeId) : Prop := z0 ≤ z ∧ W.heap[z]? = some (.cells (if l.getD i false then B else A) t (0, 0))
theorem getD_tf {l : Array Bool} {i : Nat} (h : l.getD i true = false) : l.getD i false = false := by
  rw [Array.getD_eq_getD_getElem?] at h ⊢
  cases hq : l[i]? with
  | none => rfl
  | some b =>
    rw [hq] at h
    exact h
section
variable {l : Array Bool} {i k z0 z : Nat} {W W' : World} {A B : Array Value} {t : TypeId}
theorem BoxF.on (h : BoxF l i W z0 z A B t) (hk : i ≠ k) (hb : Below W.heap.size W W') : BoxF (l.setIfInBounds k true) i W' z0 z A B t := ⟨h.1, by rw [getD_set hk]; exact (hb.block z (lt_heap h.2)).trans h.2⟩
theorem BoxF.new (hl : l.getD i false = false) (hk : i ≠ k) (hW : z0 ≤ W.heap.size) : BoxF (l.setIfInBounds k true) i (W.alloc (.cells A t)) z0 W.heap.size A B t := ⟨hW, by rw [getD_set hk, hl]; exact heap_alloc_new W _⟩
theorem BoxF.put (h : BoxF l i W z0 z A B t) (hn : l.getD i true = false) : W.heap[z]? = some (.cells A t (0, 0)) ∧ BoxF (l.setIfInBounds i true) i (W.setRow z B) z0 z A B t := by
  have h2 := h.2
  rw [getD_tf hn] at h2
  exact ⟨h2, h.1, by rw [getD_set_self hn]; exact setRow_heap _ z _ B _ _ h2⟩
end
theorem FrU.skipK {a0 a : Act} {K : List (Nat × Nat)} {V : Nat → Value} {l : Array Bool} (h : FrU a0 (kv K V) l a) (i : Nat) (hk : (K.all fun x => x.1 != i) = true) : FrU a0 (kv K V) (l.setIfInBounds i true) a :=
  h.skip i fun x hx => by
    obtain ⟨y, hy, rfl⟩ := List.mem_map.1 hx
    have := List.all_eq_true.1 hk y hy
    simpa using this
end
end Go.Proofs.YtimcdnbfdkpffaaGreat
