import Derived.Test.YtkmakdhlaenaoaaGm39
/- Stage 11: the play goes on with copies: the words for it. -/
namespace Go.Proofs.Ytkmakdhlaenaoaa
set_option maxRecDepth 100000
open Go.RowKit Go.Shelf
section
variable {w W w' : World} {X : Nat → Prop} {b p q : Nat} {E : Option Addr} {hc tk : Nat} {hs : List (Nat × Nat)} {s t : Wh}
/-- New blocks beside it. -/
theorem PL.more (h : PL w X W b p q E hc hs tk s t) (hb : Below W.heap.size W w') {Y : Nat → Prop} (hY : ∀ k, Y k → W.heap.size ≤ k ∧ k < w'.heap.size) : PL w (fun k => X k ∨ Y k) w' b p q E hc hs tk s t := by
  have h0 := h.step hb
  obtain ⟨F, G, hp, hq, h1, h2⟩ := h.st
  have hk : Kept (fun _ => False) W w' := Kept.of_below hb _
  have hlt := lt_heap h.blk
  exact ⟨h0.blk, ⟨F, G, hp.keep hk fun _ _ q => q, hq.keep hk fun _ _ q => q, fun k hf => ⟨(h1 k hf).1, fun y => y.elim (h1 k hf).2.1 fun e => by have := hp.old k hf; have := (hY k e).1; omega, (h1 k hf).2.2⟩, fun k hf => ⟨(h2 k hf).1, fun y => y.elim (h2 k hf).2.1 fun e => by have := hq.old k hf; have := (hY k e).1; omega, (h2 k hf).2.2⟩⟩, h0.row, fun k e => ⟨fun y => y.elim (h.rx k e).1 fun e2 => by have := h.own_lt e; have := (hY k e2).1; omega, (h.rx k e).2⟩, h.lo, fun y => y.elim h.xb fun e => by have := (hY b e).1; omega, fun k y => y.elim (fun y => h0.xo k y) fun e => (hY k e).2, h0.below, h.z0⟩
/-- Copies take the places of both. -/
theorem PL.swap (h : PL w X W b p q E hc hs tk s t) : ∃ G, DW W q t G ∧ ∀ (w9 : World) (q2 : Nat) (G2 : Nat → Prop), DW w9 q2 t G2 → (∀ k, G2 k → G k ∨ (W.heap.size ≤ k ∧ k < w9.heap.size)) → Below W.heap.size W w9 → ∀ (c : Nat) (F4 : Nat → Prop), PW W c t F4 → (∀ k, F4 k → X k ∧ w.heap.size ≤ k) → ∀ Y : Nat → Prop, (∀ k, Y k → X k ∧ ¬ F4 k) →
    PL w Y ((w9.setCell ⟨b, 0, none⟩ (.pointer (some ⟨c, 0, none⟩))).setCell ⟨b, 1, none⟩ (.pointer (some ⟨q2, 0, none⟩))) b c q2 E hc hs tk t t ∧ ∀ j, Y j → ((w9.setCell ⟨b, 0, none⟩ (.pointer (some ⟨c, 0, none⟩))).setCell ⟨b, 1, none⟩ (.pointer (some ⟨q2, 0, none⟩))).heap[j]? = W.heap[j]? := by
  obtain ⟨F, G, hp, hq, h1, h2⟩ := h.st
  refine ⟨G, hq, fun w9 q2 G2 hq2 hg hb c F4 hc4 hf4 Y hY => ?_⟩
  have h9 := h.step hb
  have hk9 : Kept (fun _ => False) W w9 := Kept.of_below hb _
  have hk : Kept (fun k => k = b) w9 ((w9.setCell ⟨b, 0, none⟩ (.pointer (some ⟨c, 0, none⟩))).setCell ⟨b, 1, none⟩ (.pointer (some ⟨q2, 0, none⟩))) :=
    Kept.setCell (R := fun k => k = b) (Kept.setCell (R := fun k => k = b) (Kept.refl _ w9) (p := ⟨b, 0, none⟩) (.inl rfl) _) (p := ⟨b, 1, none⟩) (.inl rfl) _
  have hlt := lt_heap h.blk
  have hw := h.below.size
  have hbX : ¬ X b := h.xb
  refine ⟨⟨blk_set (blk_set h9.blk 0 _) 1 _, ⟨F4, G2, (hc4.keep hk9 fun _ _ q => q).keep hk fun k hf e => hbX (by rw [← e]; exact (hf4 k hf).1), hq2.keep hk fun k hg2 e => ?_, fun k hf => ⟨(hf4 k hf).2, fun y => (hY k y).2 hf, fun e => hbX (by rw [← e]; exact (hf4 k hf).1), fun hg2 => ?_, fun e => (h.rx k e).1 (hf4 k hf).1⟩, fun k hg2 => ?_⟩, h9.row.keepAny fun g e => hk.block g (h9.own_lt (by rw [e]; rfl)) fun eb => (h9.rx g (by rw [e]; rfl)).2 eb, fun k e => ⟨fun y => (h.rx k e).1 (hY k y).1, (h.rx k e).2⟩, h.lo, fun y => hbX (hY b y).1, fun k y => Nat.lt_of_lt_of_le (h9.xo k (hY k y).1) hk.size, h9.below.trans (hk.below h9.below.size fun k e => by rw [e]; exact h.lo), h.z0⟩, fun j hj => ?_⟩
  · rcases hg k hg2 with q1 | q1
    · exact (h2 k q1).2.2.1 e
    · omega
  · rcases hg k hg2 with q1 | q1
    · exact (h2 k q1).2.1 (hf4 k hf).1
    · have := hc4.old k hf
      omega
  · rcases hg k hg2 with q1 | q1
    · exact ⟨(h2 k q1).1, fun y => (h2 k q1).2.1 (hY k y).1, (h2 k q1).2.2.1, (h2 k q1).2.2.2⟩
    · exact ⟨by omega, fun y => by have := h.xo k (hY k y).1; omega, by omega, fun e => by have := h.own_lt e; omega⟩
  · exact (hk.block j (h9.xo j (hY j hj).1) fun e => hbX (by rw [← e]; exact (hY j hj).1)).trans (hb.block j (h.xo j (hY j hj).1))
end
end Go.Proofs.Ytkmakdhlaenaoaa
