/- Stage 10: the landed slots and the document's, side by side. -/
import Derived.Test.YthlnhkkjpjbmeaaXc
namespace Go.Proofs.Ythlnhkkjpjbmeaa
set_option maxRecDepth 100000
open Go.RowKit Go.Shelf
theorem RdG.blocks {w w' : World} {G : Nat → Prop} {A : Option Addr} {m : Nat} {f : Nat → Value} (h : RdG w G A m f) (hs : ∀ k, G k → k < w'.heap.size) (hb : ∀ k, G k → w'.heap[k]? = w.heap[k]?) : RdG w' G A m f := by
  rcases h with h | ⟨b, off, e, h1, h2, h3⟩
  · exact .inl h
  · exact .inr ⟨b, off, e, h1, hs b h1, fun k q => (kept_cell_block (p := ⟨b, off + k, none⟩) (hb b h1)).trans (h3 k q)⟩
theorem LRow.blocks {w w' : World} {G : Nat → Prop} {v : Value} {l : List Nat} (h : LRow w G v l) (hs : ∀ k, G k → k < w'.heap.size) (hb : ∀ k, G k → w'.heap[k]? = w.heap[k]?) : LRow w' G v l := by
  obtain ⟨A, c, e, h1, h2, h3⟩ := h
  exact ⟨A, c, e, h1, h2, h3.blocks hs hb⟩
theorem RS.blocks {w w' : World} {q : Nat} {s : Sl} {G : Nat → Prop} (h : RS w q s G) (hs : ∀ k, G k → k < w'.heap.size) (hb : ∀ k, G k → w'.heap[k]? = w.heap[k]?) : RS w' q s G := by
  obtain ⟨A, c, rows, h⟩ := h
  exact ⟨A, c, rows, (hb q h.mem).trans h.blk, h.cap, h.out.blocks (fun k q => hs k q.1) fun k q => hb k q.1, fun i hi => (h.each i hi).blocks (fun k q => hs k q.1) fun k q => hb k q.1, h.mem, hs⟩
/-- The document's blocks turned, and new ones made. -/
theorem SSt.regrow {wb W W' : World} {X G G' K : Nat → Prop} {p : Nat} {s : Sl} {A : Nat} {wk : Option (Nat × Nat)} (h : SSt wb (Or2 (Or2 X G) K) W p s A wk) (he : Ext2 G G' W W') (hG : ∀ k, G k → wb.heap.size ≤ k) : SSt wb (Or2 (Or2 X G') K) W' p s A wk ∧ ∀ k, X k ∨ K k → ¬ G k → W'.heap[k]? = W.heap[k]? := by
  obtain ⟨F, hp, h1, h2, h3⟩ := h
  refine ⟨⟨F, hp.keep he.kept fun k hF hg => (h1 k hF).2 (.inl (.inr hg)), fun k hF => ⟨(h1 k hF).1, fun hx => ?_⟩, fun k hx => ?_, h3.trans (he.kept.below h3.size hG)⟩, fun k hx hg => he.kept.block k (h2 k (hx.elim (fun q => .inl (.inl q)) .inr)) hg⟩
  · rcases hx with (hx | hx) | hx
    · exact (h1 k hF).2 (.inl (.inl hx))
    · rcases he.sub k hx with q | q
      · exact (h1 k hF).2 (.inl (.inr q))
      · have := hp.old k hF
        omega
    · exact (h1 k hF).2 (.inr hx)
  · rcases hx with (hx | hx) | hx
    · exact Nat.lt_of_lt_of_le (h2 k (.inl (.inl hx))) he.kept.size
    · rcases he.sub k hx with q | q
      · exact Nat.lt_of_lt_of_le (h2 k (.inl (.inr q))) he.kept.size
      · exact q.2
    · exact Nat.lt_of_lt_of_le (h2 k (.inr hx)) he.kept.size
theorem ST.regrow {wb W W' : World} {X G G' : Nat → Prop} {p : Nat} {s : Sl} (h : ST wb p s (Or2 X G) W) (he : Ext2 G G' W W') (hG : ∀ k, G k → wb.heap.size ≤ k) : ST wb p s (Or2 X G') W' ∧ ∀ k, X k → ¬ G k → W'.heap[k]? = W.heap[k]? := by
  obtain ⟨A, h⟩ := h
  have h' : SSt wb (Or2 (Or2 X G) (fun _ => False)) W p s A none := h.less fun k q => q.elim id fun q => q.elim
  obtain ⟨q1, q2⟩ := h'.regrow he hG
  exact ⟨⟨A, q1.less fun k q => .inl q⟩, fun k hx hg => q2 k (.inl hx) hg⟩
/-- The landed slots at p stand for s, the document's at q for t; X is looked after. -/
def TwoD (wb : World) (X : Nat → Prop) (W : World) (p q : Nat) (s t : Sl) : Prop := ∃ G, RS W q t G ∧ (∀ k, G k → wb.heap.size ≤ k ∧ ¬ X k) ∧ ST wb p s (Or2 X G) W
section
variable {wb W : World} {X : Nat → Prop} {p q : Nat} {s t : Sl}
theorem TwoD.below (h : TwoD wb X W p q s t) : Below wb.heap.size wb W := by
  obtain ⟨G, _, _, h⟩ := h
  exact h.below
theorem TwoD.lt (h : TwoD wb X W p q s t) : ∀ k, X k → k < W.heap.size := by
  obtain ⟨G, _, _, h⟩ := h
  exact fun k hx => h.lt k (.inl hx)
theorem TwoD.step (h : TwoD wb X W p q s t) {W' : World} (hb : Below W.heap.size W W') : TwoD wb X W' p q s t := by
  obtain ⟨G, h1, h2, h3⟩ := h
  exact ⟨G, h1.step hb, h2, h3.step hb⟩
theorem TwoD.less (h : TwoD wb X W p q s t) {Y : Nat → Prop} (hY : ∀ k, Y k → X k) : TwoD wb Y W p q s t := by
  obtain ⟨G, h1, h2, h3⟩ := h
  exact ⟨G, h1, fun k hk => ⟨(h2 k hk).1, fun y => (h2 k hk).2 (hY k y)⟩, h3.less fun k hk => hk.imp (hY k) id⟩
theorem TwoD.more (h : TwoD wb X W p q s t) {W' : World} (hb : Below W.heap.size W W') {Y : Nat → Prop} (hY : ∀ k, Y k → W.heap.size ≤ k ∧ k < W'.heap.size) : TwoD wb (Or2 X Y) W' p q s t := by
  obtain ⟨G, h1, h2, h3⟩ := h
  refine ⟨G, h1.step hb, fun k hk => ⟨(h2 k hk).1, fun hx => ?_⟩, (h3.more hb hY).less fun k hk => ?_⟩
  · rcases hx with hx | hx
    · exact (h2 k hk).2 hx
    · have := h1.old k hk
      have := (hY k hx).1
      omega
  · rcases hk with (hk | hk) | hk
    · exact .inl (.inl hk)
    · exact .inr hk
    · exact .inl (.inr hk)
theorem TwoD.kept (h : TwoD wb X W p q s t) {W' : World} {R : Nat → Prop} (hk : Kept R W W') (hR : ∀ k, R k → k < W.heap.size → X k ∧ wb.heap.size ≤ k) : TwoD wb X W' p q s t := by
  obtain ⟨G, h1, h2, h3⟩ := h
  exact ⟨G, h1.blocks (fun k hg => Nat.lt_of_lt_of_le (h1.old k hg) hk.size) fun k hg => hk.block k (h1.old k hg) fun r => (h2 k hg).2 (hR k r (h1.old k hg)).1, h2, h3.kept hk fun k r hl => ⟨.inl (hR k r hl).1, (hR k r hl).2⟩⟩
/-- A call upon the landed ones. -/
theorem TwoD.left (h : TwoD wb X W p q s t) {f : FuncId} {args : Array Value} {v : Value} {s' : Sl} (hc : ∀ Y, ST wb p s Y W → Calls Try.prog f args W fun e w' => e = .returned v ∧ ST wb p s' Y w' ∧ ∀ k, Y k → w'.heap[k]? = W.heap[k]?) :
    Calls Try.prog f args W fun e w' => e = .returned v ∧ TwoD wb X w' p q s' t ∧ ∀ k, X k → w'.heap[k]? = W.heap[k]? := by
  obtain ⟨G, h1, h2, h3⟩ := h
  refine (hc _ h3).mono ?_
  rintro e w' ⟨rfl, h4, h5⟩
  exact ⟨rfl, ⟨G, h1.blocks (fun k hg => h4.lt k (.inr hg)) fun k hg => h5 k (.inr hg), h2, h4⟩, fun k hx => h5 k (.inl hx)⟩
/-- A call upon the document's. -/
theorem TwoD.right (h : TwoD wb X W p q s t) {f : FuncId} {args : Array Value} {v : Value} {t' : Sl} (hc : ∀ G, RS W q t G → Calls Try.prog f args W fun e w' => e = .returned v ∧ ∃ G', RS w' q t' G' ∧ Ext2 G G' W w') :
    Calls Try.prog f args W fun e w' => e = .returned v ∧ TwoD wb X w' p q s t' ∧ ∀ k, X k → w'.heap[k]? = W.heap[k]? := by
  obtain ⟨G, h1, h2, h3⟩ := h
  refine (hc G h1).mono ?_
  rintro e w' ⟨rfl, G', h4, he⟩
  obtain ⟨h5, h6⟩ := h3.regrow he fun k hg => (h2 k hg).1
  refine ⟨rfl, ⟨G', h4, fun k hk => ?_, h5⟩, fun k hx => h6 k hx fun hg => (h2 k hg).2 hx⟩
  rcases he.sub k hk with q | q
  · exact h2 k q
  · refine ⟨Nat.le_trans h3.below.size q.1, fun hx => ?_⟩
    have := h3.lt k (.inl hx)
    omega
end
end Go.Proofs.Ythlnhkkjpjbmeaa
