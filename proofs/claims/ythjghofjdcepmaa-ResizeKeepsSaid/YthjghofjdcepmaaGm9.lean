import Derived.Test.YthjghofjdcepmaaGm3
import Derived.RangeFuncNested
import Derived.RangeFuncBound
import Derived.RangeFuncCalls
import Derived.RangeFuncLeaves
import Derived.Shelf.Abstract
import Derived.Shelf.RegionOpen
import Derived.Test.YthjghofjdcepmaaGm8
import Derived.Test.YthjghofjdcepmaaGm2
/- Objects with a footprint, whatever they stand for: one, or two side by side, beside blocks that are looked after; over any program. -/
namespace Go.Proofs.Ythjghofjdcepmaa
set_option maxRecDepth 100000
open Go.RowKit Go.Shelf
/-- What an object's words must know: it stays as long as its blocks do, and its blocks are there. -/
structure FootG {σ : Type} (PA : World → Nat → σ → (Nat → Prop) → Prop) : Prop where
  keep : ∀ {w w' : World} {p : Nat} {s : σ} {F R : Nat → Prop}, PA w p s F → Kept R w w' → (∀ k, F k → ¬ R k) → PA w' p s F
  old : ∀ {w : World} {p : Nat} {s : σ} {F : Nat → Prop}, PA w p s F → ∀ k, F k → k < w.heap.size
/-- A footprint that has grown by new blocks alone; nothing old was turned but it. -/
structure ExtG (F F' : Nat → Prop) (w w' : World) : Prop where
  sub : ∀ k, F' k → F k ∨ w.heap.size ≤ k ∧ k < w'.heap.size
  kept : Kept F w w'
theorem ExtG.of_below {F : Nat → Prop} {w w' : World} (h : Below w.heap.size w w') : ExtG F F w w' := ⟨fun _ h => .inl h, Kept.of_below h _⟩
theorem ExtG.refl (F : Nat → Prop) (w : World) : ExtG F F w w := .of_below (Below.refl _ _)
theorem ExtG.trans {F F' F'' : Nat → Prop} {a b c : World} (h : ExtG F F' a b) (k : ExtG F' F'' b c) : ExtG F F'' a c := by
  refine ⟨fun j hj => ?_, h.kept.trans k.kept fun j hj hF => ?_⟩
  · have h1 := h.kept.size
    have h2 := k.kept.size
    rcases k.sub j hj with q | q
    · rcases h.sub j q with r | r
      · exact .inl r
      · exact .inr ⟨r.1, by omega⟩
    · exact .inr ⟨by omega, q.2⟩
  · rcases h.sub j hF with r | r
    · exact r
    · omega
section
variable {σ τ : Type} {PA : World → Nat → σ → (Nat → Prop) → Prop} {QA : World → Nat → τ → (Nat → Prop) → Prop} {w W : World} {X : Nat → Prop} {p q : Nat} {s : σ} {t : τ}
/-- At p stands s, in blocks of the call's own (from w on), none of X. -/
def StG (PA : World → Nat → σ → (Nat → Prop) → Prop) (w : World) (X : Nat → Prop) (W : World) (p : Nat) (s : σ) : Prop :=
  ∃ F, PA W p s F ∧ (∀ k, F k → w.heap.size ≤ k ∧ ¬ X k) ∧ (∀ k, X k → k < W.heap.size) ∧ Below w.heap.size w W
/-- At p stands s, at q stands t, in blocks from w on that have nothing in common with each other, nor with X. -/
def TwG (PA : World → Nat → σ → (Nat → Prop) → Prop) (QA : World → Nat → τ → (Nat → Prop) → Prop) (w : World) (X : Nat → Prop) (W : World) (p q : Nat) (s : σ) (t : τ) : Prop :=
  ∃ F G, PA W p s F ∧ QA W q t G ∧ (∀ k, F k → w.heap.size ≤ k ∧ ¬ X k ∧ ¬ G k) ∧ (∀ k, G k → w.heap.size ≤ k ∧ ¬ X k) ∧ (∀ k, X k → k < W.heap.size) ∧ Below w.heap.size w W
theorem StG.below (h : StG PA w X W p s) : Below w.heap.size w W := by
  obtain ⟨_, _, _, _, h⟩ := h
  exact h
theorem StG.xold (h : StG PA w X W p s) : ∀ k, X k → k < W.heap.size := by
  obtain ⟨_, _, _, h, _⟩ := h
  exact h
theorem TwG.below (h : TwG PA QA w X W p q s t) : Below w.heap.size w W := by
  obtain ⟨_, _, _, _, _, _, _, h⟩ := h
  exact h
theorem TwG.xold (h : TwG PA QA w X W p q s t) : ∀ k, X k → k < W.heap.size := by
  obtain ⟨_, _, _, _, _, _, h, _⟩ := h
  exact h
theorem TwG.symm (h : TwG PA QA w X W p q s t) : TwG QA PA w X W q p t s := by
  obtain ⟨F, G, hF, hG, h1, h2, h3, h4⟩ := h
  exact ⟨G, F, hG, hF, fun k g => ⟨(h2 k g).1, (h2 k g).2, fun f => (h1 k f).2.2 g⟩, fun k f => ⟨(h1 k f).1, (h1 k f).2.1⟩, h3, h4⟩
theorem TwG.left (h : TwG PA QA w X W p q s t) : StG PA w X W p s := by
  obtain ⟨F, G, hF, hG, h1, h2, h3, h4⟩ := h
  exact ⟨F, hF, fun k f => ⟨(h1 k f).1, (h1 k f).2.1⟩, h3, h4⟩
theorem StG.start (h : ∃ F, PA W p s F ∧ ∀ k, F k → w.heap.size ≤ k) (hb : Below w.heap.size w W) : StG PA w (fun _ => False) W p s := by
  obtain ⟨F, hF, h1⟩ := h
  exact ⟨F, hF, fun k f => ⟨h1 k f, fun e => e⟩, fun _ e => e.elim, hb⟩
theorem StG.ext {F F' : Nat → Prop} {w' : World} {s' : σ} (h : ∀ k, F k → w.heap.size ≤ k ∧ ¬ X k) (hX : ∀ k, X k → k < W.heap.size) (hb : Below w.heap.size w W) (hp : PA w' p s' F') (he : ExtG F F' W w') : StG PA w X w' p s' ∧ ∀ k, X k → w'.heap[k]? = W.heap[k]? := by
  refine ⟨⟨F', hp, fun k hk => ?_, fun k hk => Nat.lt_of_lt_of_le (hX k hk) he.kept.size, hb.trans (he.kept.below hb.size fun k hk => (h k hk).1)⟩, fun k hk => he.kept.block k (hX k hk) fun hf => (h k hf).2 hk⟩
  rcases he.sub k hk with q | ⟨q, _⟩
  · exact h k q
  · exact ⟨Nat.le_trans hb.size q, fun hx => absurd (hX k hx) (by omega)⟩
theorem TwG.ext (HD : FootG QA) {F F' G : Nat → Prop} {w' : World} {s' : σ} (hG : QA W q t G) (h1 : ∀ k, F k → w.heap.size ≤ k ∧ ¬ X k ∧ ¬ G k) (h2 : ∀ k, G k → w.heap.size ≤ k ∧ ¬ X k) (hX : ∀ k, X k → k < W.heap.size) (hb : Below w.heap.size w W) (hp : PA w' p s' F') (he : ExtG F F' W w') :
    TwG PA QA w X w' p q s' t ∧ ∀ k, X k → w'.heap[k]? = W.heap[k]? := by
  refine ⟨⟨F', G, hp, HD.keep hG he.kept fun k g f => (h1 k f).2.2 g, fun k hk => ?_, h2, fun k hk => Nat.lt_of_lt_of_le (hX k hk) he.kept.size, hb.trans (he.kept.below hb.size fun k hk => (h1 k hk).1)⟩, fun k hk => he.kept.block k (hX k hk) fun hf => (h1 k hf).2.1 hk⟩
  rcases he.sub k hk with q | ⟨q, _⟩
  · exact h1 k q
  · exact ⟨Nat.le_trans hb.size q, fun hx => absurd (hX k hx) (by omega), fun hg => absurd (HD.old hG k hg) (by omega)⟩
/-- A call on it. -/
theorem StG.call {P : Program} {fn : FuncId} {args : Array Value} {K : Ending → Prop} {s' : σ} (h : StG PA w X W p s) (hc : ∀ F, PA W p s F → Calls P fn args W fun e w' => K e ∧ ∃ F', PA w' p s' F' ∧ ExtG F F' W w') :
    Calls P fn args W fun e w' => K e ∧ StG PA w X w' p s' ∧ ∀ k, X k → w'.heap[k]? = W.heap[k]? := by
  obtain ⟨F, hF, h1, h2, h3⟩ := h
  refine (hc F hF).mono ?_
  rintro e w' ⟨he, F', hp, hx⟩
  exact ⟨he, StG.ext h1 h2 h3 hp hx⟩
/-- A call on the first one; on the second one. -/
theorem TwG.callL {P : Program} {fn : FuncId} {args : Array Value} {K : Ending → Prop} {s' : σ} (h : TwG PA QA w X W p q s t) (HD : FootG QA) (hc : ∀ F, PA W p s F → Calls P fn args W fun e w' => K e ∧ ∃ F', PA w' p s' F' ∧ ExtG F F' W w') :
    Calls P fn args W fun e w' => K e ∧ TwG PA QA w X w' p q s' t ∧ ∀ k, X k → w'.heap[k]? = W.heap[k]? := by
  obtain ⟨F, G, hF, hG, h1, h2, h3, h4⟩ := h
  refine (hc F hF).mono ?_
  rintro e w' ⟨he, F', hp, hx⟩
  exact ⟨he, TwG.ext HD hG h1 h2 h3 h4 hp hx⟩
theorem TwG.callR {P : Program} {fn : FuncId} {args : Array Value} {K : Ending → Prop} {t' : τ} (h : TwG PA QA w X W p q s t) (HC : FootG PA) (hc : ∀ G, QA W q t G → Calls P fn args W fun e w' => K e ∧ ∃ G', QA w' q t' G' ∧ ExtG G G' W w') :
    Calls P fn args W fun e w' => K e ∧ TwG PA QA w X w' p q s t' ∧ ∀ k, X k → w'.heap[k]? = W.heap[k]? :=
  (h.symm.callL HC hc).mono fun _ _ h => ⟨h.1, h.2.1.symm, h.2.2⟩
theorem StG.step (h : StG PA w X W p s) (HC : FootG PA) {w' : World} (hb : Below W.heap.size W w') : StG PA w X w' p s := by
  obtain ⟨F, hF, h1, h3, h4⟩ := h
  exact ⟨F, HC.keep hF (Kept.of_below hb fun _ => False) (fun _ _ q => q), h1, fun k hk => Nat.lt_of_lt_of_le (h3 k hk) hb.size, h4.trans (hb.mono h4.size)⟩
theorem TwG.step (h : TwG PA QA w X W p q s t) (HC : FootG PA) (HD : FootG QA) {w' : World} (hb : Below W.heap.size W w') : TwG PA QA w X w' p q s t := by
  obtain ⟨F, G, hF, hG, h1, h2, h3, h4⟩ := h
  exact ⟨F, G, HC.keep hF (Kept.of_below hb fun _ => False) (fun _ _ q => q), HD.keep hG (Kept.of_below hb fun _ => False) (fun _ _ q => q), h1, h2, fun k hk => Nat.lt_of_lt_of_le (h3 k hk) hb.size, h4.trans (hb.mono h4.size)⟩
/-- What turns blocks of X alone. -/
theorem StG.turn (h : StG PA w X W p s) (HC : FootG PA) {w' : World} {R : Nat → Prop} (hk : Kept R W w') (hR : ∀ k, R k → X k ∧ w.heap.size ≤ k) : StG PA w X w' p s := by
  obtain ⟨F, hF, h1, h3, h4⟩ := h
  exact ⟨F, HC.keep hF hk (fun k f r => (h1 k f).2 (hR k r).1), h1, fun k hk' => Nat.lt_of_lt_of_le (h3 k hk') hk.size, h4.trans (hk.below h4.size fun k r => (hR k r).2)⟩
theorem TwG.turn (h : TwG PA QA w X W p q s t) (HC : FootG PA) (HD : FootG QA) {w' : World} {R : Nat → Prop} (hk : Kept R W w') (hR : ∀ k, R k → X k ∧ w.heap.size ≤ k) : TwG PA QA w X w' p q s t := by
  obtain ⟨F, G, hF, hG, h1, h2, h3, h4⟩ := h
  exact ⟨F, G, HC.keep hF hk (fun k f r => (h1 k f).2.1 (hR k r).1), HD.keep hG hk (fun k g r => (h2 k g).2 (hR k r).1), h1, h2, fun k hk' => Nat.lt_of_lt_of_le (h3 k hk') hk.size, h4.trans (hk.below h4.size fun k r => (hR k r).2)⟩
/-- More blocks are looked after: old ones that are none of its own. -/
theorem StG.box (h : StG PA w X W p s) (HC : FootG PA) (o : Obj) : StG PA w (fun k => X k ∨ k = W.heap.size) (W.alloc o) p s := by
  obtain ⟨F, hF, h1, h2, h3⟩ := h
  have hz : (W.alloc o).heap.size = W.heap.size + 1 := by simp
  refine ⟨F, HC.keep hF (Kept.of_below (below_alloc W o) fun _ => False) (fun _ _ q => q), fun k hk => ⟨(h1 k hk).1, ?_⟩, fun k hk => ?_, h3.alloc h3.size o⟩
  · rintro (q | q)
    · exact (h1 k hk).2 q
    · have := HC.old hF k hk
      omega
  · rcases hk with q | q
    · have := h2 k q
      omega
    · omega
theorem TwG.box (h : TwG PA QA w X W p q s t) (HC : FootG PA) (HD : FootG QA) (o : Obj) : TwG PA QA w (fun k => X k ∨ k = W.heap.size) (W.alloc o) p q s t := by
  obtain ⟨F, G, hF, hG, h1, h2, h3, h4⟩ := h
  have hz : (W.alloc o).heap.size = W.heap.size + 1 := by simp
  refine ⟨F, G, HC.keep hF (Kept.of_below (below_alloc W o) fun _ => False) (fun _ _ q => q), HD.keep hG (Kept.of_below (below_alloc W o) fun _ => False) (fun _ _ q => q), fun k hk => ⟨(h1 k hk).1, ?_, (h1 k hk).2.2⟩, fun k hk => ⟨(h2 k hk).1, ?_⟩, fun k hk => ?_, h4.alloc h4.size o⟩
  · rintro (q | q)
    · exact (h1 k hk).2.1 q
    · have := HC.old hF k hk
      omega
  · rintro (q | q)
    · exact (h2 k hk).2 q
    · have := HD.old hG k hk
      omega
  · rcases hk with q | q
    · have := h3 k q
      omega
    · omega
/-- Old blocks below w may be looked after, whatever stands there. -/
theorem StG.below_w (h : StG PA w X W p s) : StG PA w (fun k => X k ∨ k < w.heap.size) W p s := by
  obtain ⟨F, hF, h1, h2, h3⟩ := h
  refine ⟨F, hF, fun k f => ⟨(h1 k f).1, ?_⟩, fun k hk => ?_, h3⟩
  · rintro (q | q)
    · exact (h1 k f).2 q
    · exact absurd (h1 k f).1 (by omega)
  · rcases hk with q | q
    · exact h2 k q
    · exact Nat.lt_of_lt_of_le q h3.size
theorem StG.less (h : StG PA w X W p s) {Y : Nat → Prop} (hY : ∀ k, Y k → X k) : StG PA w Y W p s := by
  obtain ⟨F, hF, h1, h2, h3⟩ := h
  exact ⟨F, hF, fun k hk => ⟨(h1 k hk).1, fun y => (h1 k hk).2 (hY k y)⟩, fun k hk => h2 k (hY k hk), h3⟩
theorem TwG.less (h : TwG PA QA w X W p q s t) {Y : Nat → Prop} (hY : ∀ k, Y k → X k) : TwG PA QA w Y W p q s t := by
  obtain ⟨F, G, hF, hG, h1, h2, h3, h4⟩ := h
  exact ⟨F, G, hF, hG, fun k hk => ⟨(h1 k hk).1, fun y => (h1 k hk).2.1 (hY k y), (h1 k hk).2.2⟩, fun k hk => ⟨(h2 k hk).1, fun y => (h2 k hk).2 (hY k y)⟩, fun k hk => h3 k (hY k hk), h4⟩
/-- A second object made beside the first one, of new blocks. -/
theorem StG.beside (h : StG PA w X W p s) (HC : FootG PA) {w' : World} (hb : Below W.heap.size W w') {G : Nat → Prop} (hG : QA w' q t G) (hn : ∀ k, G k → W.heap.size ≤ k) : TwG PA QA w X w' p q s t := by
  obtain ⟨F, hF, h1, h2, h3⟩ := h
  refine ⟨F, G, HC.keep hF (Kept.of_below hb fun _ => False) (fun _ _ q => q), hG, fun k hk => ⟨(h1 k hk).1, (h1 k hk).2, fun g => ?_⟩, fun k hk => ⟨Nat.le_trans h3.size (hn k hk), fun x => ?_⟩, fun k hk => Nat.lt_of_lt_of_le (h2 k hk) hb.size, h3.trans (hb.mono h3.size)⟩
  · have e1 := HC.old hF k hk
    have e2 := hn k g
    omega
  · have e1 := h2 k x
    have e2 := hn k hk
    omega
/-- A third one, of new blocks: it is walked alone, the two are looked after. -/
theorem TwG.third {υ : Type} {TA : World → Nat → υ → (Nat → Prop) → Prop} {b : Nat} {u : υ} (h : TwG PA QA w X W p q s t) (HC : FootG PA) (HD : FootG QA) {w' : World} (hb : Below W.heap.size W w') {C : Nat → Prop} (hT : TA w' b u C) (hn : ∀ k, C k → W.heap.size ≤ k) :
    ∃ Y, (∀ k, X k → Y k) ∧ StG TA w Y w' b u ∧ ∀ w2 : World, (∀ k, Y k → w2.heap[k]? = w'.heap[k]?) → Below w.heap.size w w2 → w'.heap.size ≤ w2.heap.size → TwG PA QA w X w2 p q s t := by
  obtain ⟨F, G, hF, hG, h1, h2, h3, h4⟩ := h
  have hF' := HC.keep hF (Kept.of_below hb fun _ => False) (fun _ _ q => q)
  have hG' := HD.keep hG (Kept.of_below hb fun _ => False) (fun _ _ q => q)
  refine ⟨fun k => X k ∨ F k ∨ G k, fun k hk => .inl hk, ⟨C, hT, fun k hk => ⟨Nat.le_trans h4.size (hn k hk), ?_⟩, fun k hk => ?_, h4.trans (hb.mono h4.size)⟩, fun w2 hY hb2 hs2 => ?_⟩
  · have e2 := hn k hk
    rintro (x | f | g)
    · have := h3 k x
      omega
    · have := HC.old hF k f
      omega
    · have := HD.old hG k g
      omega
  · rcases hk with x | f | g
    · exact Nat.lt_of_lt_of_le (h3 k x) hb.size
    · exact HC.old hF' k f
    · exact HD.old hG' k g
  · have h5 := h4.trans (hb.mono h4.size)
    have hK : Kept (fun k => ¬ (X k ∨ F k ∨ G k)) w' w2 := ⟨hb2.os.trans h5.os.symm, hb2.tape.trans h5.tape.symm, hb2.output.trans h5.output.symm, hs2, fun k _ hn => hY k (Classical.not_not.1 hn)⟩
    exact ⟨F, G, HC.keep hF' hK fun k f n => n (.inr (.inl f)), HD.keep hG' hK fun k g n => n (.inr (.inr g)), h1, h2, fun k hk => Nat.lt_of_lt_of_le (h3 k hk) (Nat.le_trans hb.size hs2), hb2⟩
/-- Likewise, but the first one is walked alone, the third one and the second one are gone on with. -/
theorem TwG.three {υ : Type} {TA : World → Nat → υ → (Nat → Prop) → Prop} {b : Nat} {u : υ} (h : TwG PA QA w X W p q s t) (HC : FootG PA) (HD : FootG QA) (HT : FootG TA) {w' : World} (hb : Below W.heap.size W w') {C : Nat → Prop} (hT : TA w' b u C) (hn : ∀ k, C k → W.heap.size ≤ k) :
    ∃ Y, (∀ k, X k → Y k) ∧ StG PA w Y w' p s ∧ ∀ w2 : World, (∀ k, Y k → w2.heap[k]? = w'.heap[k]?) → Below w.heap.size w w2 → w'.heap.size ≤ w2.heap.size → TwG TA QA w X w2 b q u t := by
  obtain ⟨F, G, hF, hG, h1, h2, h3, h4⟩ := h
  have hF' := HC.keep hF (Kept.of_below hb fun _ => False) (fun _ _ q => q)
  have hG' := HD.keep hG (Kept.of_below hb fun _ => False) (fun _ _ q => q)
  refine ⟨fun k => X k ∨ C k ∨ G k, fun k hk => .inl hk, ⟨F, hF', fun k hk => ⟨(h1 k hk).1, ?_⟩, fun k hk => ?_, h4.trans (hb.mono h4.size)⟩, fun w2 hY hb2 hs2 => ?_⟩
  · rintro (x | c | g)
    · exact (h1 k hk).2.1 x
    · have e1 := hn k c
      have := HC.old hF k hk
      omega
    · exact (h1 k hk).2.2 g
  · rcases hk with x | c | g
    · exact Nat.lt_of_lt_of_le (h3 k x) hb.size
    · exact HT.old hT k c
    · exact HD.old hG' k g
  · have h5 := h4.trans (hb.mono h4.size)
    have hK : Kept (fun k => ¬ (X k ∨ C k ∨ G k)) w' w2 := ⟨hb2.os.trans h5.os.symm, hb2.tape.trans h5.tape.symm, hb2.output.trans h5.output.symm, hs2, fun k _ hn => hY k (Classical.not_not.1 hn)⟩
    refine ⟨C, G, HT.keep hT hK fun k c n => n (.inr (.inl c)), HD.keep hG' hK fun k g n => n (.inr (.inr g)), fun k c => ⟨Nat.le_trans h4.size (hn k c), fun x => ?_, fun g => ?_⟩, h2, fun k hk => Nat.lt_of_lt_of_le (h3 k hk) (Nat.le_trans hb.size hs2), hb2⟩
    · have e1 := h3 k x
      have e2 := hn k c
      omega
    · have e1 := HD.old hG k g
      have e2 := hn k c
      omega
end
end Go.Proofs.Ythjghofjdcepmaa
/- Stage 13: what is asked of the program's table (also by the layers above). -/
namespace Go.Proofs.Ythjghofjdcepmaa
set_option maxRecDepth 100000
open Go.RowKit Go.Shelf
/-- A function that is handed in and asked about numbers: what it answers, what it turns (R), what is known as it is asked (J of the numbers asked so far, of T), whatever is laid from b0 on. -/
structure AsksG (fid : FuncId) (cap : Array Value) (ans : Nat → Bool) (R : Nat → Prop) (b0 : Nat) (T : List Nat) (J : List Nat → World → Prop) : Prop where
  eg : ∀ args w, (callFunc fid args).run Try.prog w = .ok (.enter fid args) w
  stay : ∀ l W W', J l W → Kept (fun k => b0 ≤ k) W W' → J l W'
  call : ∀ l (x : Nat) W, J l W → x < 4294967296 → l ++ [x] <+: T → b0 ≤ W.heap.size → Calls Try.prog fid (#[.int .u32 (x : Int)] ++ cap) W fun e W' => e = .returned (.bool (ans x)) ∧ J (l ++ [x]) W' ∧ Kept R W W'
/-- The numbers that are asked, up to the first one of which it is said. -/
def askL (ans : Nat → Bool) : List Nat → List Nat
  | [] => []
  | x :: r => if ans x then [x] else x :: askL ans r
theorem askL_len (ans : Nat → Bool) : ∀ l, (askL ans l).length ≤ l.length
  | [] => Nat.le_refl _
  | x :: r => by
    unfold askL
    have := askL_len ans r
    split
    · simp only [List.length_cons, List.length_nil]; omega
    · simp only [List.length_cons]; omega
theorem askL_pre (ans : Nat → Bool) : ∀ l, askL ans l <+: l
  | [] => List.prefix_rfl
  | x :: r => by
    unfold askL
    split
    · exact ⟨r, rfl⟩
    · exact (List.prefix_cons_inj x).2 (askL_pre ans r)
namespace Tb
def fn (s : Tb) (h : Nat) (ans : Nat → Bool) : Option Nat := (s.way h).find? (fun k => ans (s.ew k))
def fnV (s : Tb) (h : Nat) (ans : Nat → Bool) : Array Value := match s.fn h ans with
  | none => #[.int .i64 0, .bool false]
  | some k => #[.int .i64 (k : Int), .bool true]
def fnL (s : Tb) (h : Nat) (ans : Nat → Bool) : List Nat := askL ans ((s.way h).map s.ew)
theorem fn_find (s : Tb) (h x : Nat) : s.fn h (fun y => y == x) = s.find h x := rfl
theorem fnV_find (s : Tb) (h x : Nat) : s.fnV h (fun y => y == x) = s.fdV h x := rfl
end Tb
/-- An entry of a place, as All hands it on. -/
def tEnc (x : Nat × Nat × Nat) : Array Value := #[.int .i64 (x.1 : Int), .agg #[.int .u64 (x.2.1 : Int), .int .u32 (x.2.2 : Int)]]
/-- A function that tells l, one by one, as far as it is asked, as long as its blocks are kept. -/
def ItG {α : Type} (enc : α → Array Value) (g : Nat) (lb : Array Value) (l : List α) (Fi : Nat → Prop) (w : World) : Prop := ∀ R : Nat → Prop, (∀ k, Fi k → ¬ R k) → SeqStopsK Fence.wide 12 Try.prog g lb enc (Kept R) (fun xs => xs = l) (fun pre => pre <+: l) l.length w
/-- What the laws ask of the program's table: PT w p s F: at p stands what is s, in the blocks of F; g tells what All tells. -/
structure TabP (PT : World → Nat → Tb → (Nat → Prop) → Prop) (g : Nat) : Prop where
  foot : FootG PT
  eg : ∀ args w, (callFunc g args).run Try.prog w = .ok (.enter g args) w
  new_no : ∀ (n : Int) (w : World), mayI n = false → Calls Try.prog 26 #[.int .i64 n] w (ret (.tuple #[.pointer none, .int .i64 2]) w)
  new : ∀ (n : Nat) (w : World), mayI (n : Int) = true → Calls Try.prog 26 #[.int .i64 (n : Int)] w fun e w' => ∃ p F, e = .returned (.tuple #[.pointer (some ⟨p, 0, none⟩), .int .i64 0]) ∧ PT w' p (Tb.new n) F ∧ (∀ k, F k → w.heap.size ≤ k) ∧ Below w.heap.size w w'
  put : ∀ {w : World} {p : Nat} {s : Tb} {F : Nat → Prop}, PT w p s F → s.Ok → ∀ h x : Nat, h < 18446744073709551616 → x < 4294967296 → Calls Try.prog 33 #[.pointer (some ⟨p, 0, none⟩), .agg #[.int .u64 (h : Int), .int .u32 (x : Int)]] w fun e w' => e = .returned (.tuple #[.int .i64 (s.ptI h : Int), .int .i64 (s.ptE h)]) ∧ ∃ F', PT w' p (s.pt h x) F' ∧ ExtG F F' w w'
  drop : ∀ {w : World} {p : Nat} {s : Tb} {F : Nat → Prop}, PT w p s F → s.Ok → ∀ q : Int, Calls Try.prog 41 #[.pointer (some ⟨p, 0, none⟩), .int .i64 q] w fun e w' => e = .returned (.int .i64 (s.drE q)) ∧ ∃ F', PT w' p (s.dr q) F' ∧ ExtG F F' w w'
  find : ∀ {w : World} {p : Nat} {s : Tb} {F R : Nat → Prop}, PT w p s F → s.Ok → ∀ h : Nat, h < 18446744073709551616 → ∀ (fid : FuncId) (cap : Array Value) (ans : Nat → Bool) (J : List Nat → World → Prop), AsksG fid cap ans R w.heap.size ((s.way h).map s.ew) J → (∀ k, R k → k < w.heap.size ∧ ¬ F k) → J [] w →
    Calls Try.prog 66 #[.pointer (some ⟨p, 0, none⟩), .int .u64 (h : Int), .func (.func fid) #[] cap] w fun e w' => e = .returned (.tuple (s.fnV h ans)) ∧ J (s.fnL h ans) w' ∧ Kept R w w'
  get : ∀ {w : World} {p : Nat} {s : Tb} {F : Nat → Prop}, PT w p s F → s.Ok → ∀ q : Int, Calls Try.prog 44 #[.pointer (some ⟨p, 0, none⟩), .int .i64 q] w (ret (.tuple #[.agg (s.gtV q), .bool (s.isF q)]) w)
  places : ∀ {w : World} {p : Nat} {s : Tb} {F : Nat → Prop}, PT w p s F → s.Ok → Calls Try.prog 45 #[.pointer (some ⟨p, 0, none⟩)] w (ret (.int .i64 (s.n : Int)) w)
  entries : ∀ {w : World} {p : Nat} {s : Tb} {F : Nat → Prop}, PT w p s F → s.Ok → Calls Try.prog 56 #[.pointer (some ⟨p, 0, none⟩)] w (ret (.int .i64 (s.entries : Int)) w)
  marks : ∀ {w : World} {p : Nat} {s : Tb} {F : Nat → Prop}, PT w p s F → s.Ok → Calls Try.prog 57 #[.pointer (some ⟨p, 0, none⟩)] w (ret (.int .i64 (s.marks : Int)) w)
  copy : ∀ {w : World} {p : Nat} {s : Tb} {F : Nat → Prop}, PT w p s F → s.Ok → Calls Try.prog 47 #[.pointer (some ⟨p, 0, none⟩)] w fun e w' => ∃ b F', e = .returned (.pointer (some ⟨b, 0, none⟩)) ∧ PT w' b s F' ∧ (∀ k, F' k → w.heap.size ≤ k) ∧ Below w.heap.size w w'
  all : ∀ {w : World} {p : Nat} {s : Tb} {F : Nat → Prop}, PT w p s F → s.Ok → Calls Try.prog 59 #[.pointer (some ⟨p, 0, none⟩)] w fun e w' => ∃ lb Fi, e = .returned (.func (.func g) #[] lb) ∧ Below w.heap.size w w' ∧ (∀ k, Fi k → k < w'.heap.size ∧ (F k ∨ w.heap.size ≤ k)) ∧ ItG tEnc g lb s.all Fi w'
end Go.Proofs.Ythjghofjdcepmaa
/- Stage 13: the landed table in memory. -/
namespace Go.Proofs.Ythjghofjdcepmaa
set_option maxRecDepth 100000
open Go.RowKit Go.Shelf
/-- The state of a place, as the landed table has it. -/
def stc (s : Tb) (k : Nat) : Nat := if s.ful k then 1 else if s.mrk k then 2 else 0
theorem stc_lt (s : Tb) (k : Nat) : stc s k < 3 := by
  unfold stc
  split
  · decide
  · split <;> decide
theorem stc_ful {s : Tb} {k : Nat} (h : s.ful k = true) : stc s k = 1 := by
  unfold stc
  rw [if_pos h]
theorem stc_not {s : Tb} {k : Nat} (h : s.ful k = false) : stc s k ≠ 1 := by
  unfold stc
  rw [if_neg (by rw [h]; exact Bool.false_ne_true)]
  split <;> decide
theorem stc_mrk {s : Tb} {k : Nat} (h : s.ful k = false) (h' : s.mrk k = true) : stc s k = 2 := by
  unfold stc
  rw [if_neg (by rw [h]; exact Bool.false_ne_true), if_pos h']
theorem stc_no {s : Tb} {k : Nat} (h : s.ful k = false) (h' : s.mrk k = false) : stc s k = 0 := by
  unfold stc
  rw [if_neg (by rw [h]; exact Bool.false_ne_true), if_neg (by rw [h']; exact Bool.false_ne_true)]
def tcl (s : Tb) (k : Nat) : Value := if k % 3 = 0 then .int .u8 (stc s (k / 3) : Int) else if k % 3 = 1 then .int .u64 (s.eh (k / 3) : Int) else .int .u32 (s.ew (k / 3) : Int)
theorem tcl_one (s : Tb) (k : Nat) : (tcl s k).oneCell' = true := by
  unfold tcl
  split
  · rfl
  · split <;> rfl
theorem tcl_0 (s : Tb) (j : Nat) : tcl s (j * 3) = .int .u8 (stc s j : Int) := by
  unfold tcl
  rw [if_pos (by omega), show j * 3 / 3 = j by omega]
theorem tcl_1 (s : Tb) (j : Nat) : tcl s (j * 3 + 1) = .int .u64 (s.eh j : Int) := by
  unfold tcl
  rw [if_neg (by omega), if_pos (by omega), show (j * 3 + 1) / 3 = j by omega]
theorem tcl_2 (s : Tb) (j : Nat) : tcl s (j * 3 + 2) = .int .u32 (s.ew j : Int) := by
  unfold tcl
  rw [if_neg (by omega), if_neg (by omega), show (j * 3 + 2) / 3 = j by omega]
theorem tcl_put (s : Tb) (p h x k : Nat) : tcl (s.put p h x) k = updV (updV (updV (tcl s) (p * 3) (.int .u8 1)) (p * 3 + 1) (.int .u64 (h : Int))) (p * 3 + 2) (.int .u32 (x : Int)) k := by
  unfold updV
  by_cases e2 : k = p * 3 + 2
  · rw [if_pos e2, e2, tcl_2]
    show Value.int .u32 (updN s.ew p x p : Int) = _
    rw [updN_at]
  · rw [if_neg e2]
    by_cases e1 : k = p * 3 + 1
    · rw [if_pos e1, e1, tcl_1]
      show Value.int .u64 (updN s.eh p h p : Int) = _
      rw [updN_at]
    · rw [if_neg e1]
      by_cases e0 : k = p * 3
      · rw [if_pos e0, e0, tcl_0, stc_ful (s := s.put p h x) (updB_at _ _ _)]
        rfl
      · rw [if_neg e0]
        unfold tcl stc
        show (if k % 3 = 0 then Value.int .u8 ((if updB s.ful p true (k / 3) then 1 else if updB s.mrk p false (k / 3) then 2 else 0 : Nat) : Int) else if k % 3 = 1 then .int .u64 (updN s.eh p h (k / 3) : Int) else .int .u32 (updN s.ew p x (k / 3) : Int)) = _
        by_cases q : k / 3 = p
        · omega
        · rw [updB_ne q, updB_ne q, updN_ne q, updN_ne q]
theorem tcl_gone (s : Tb) (p k : Nat) : tcl (s.gone p) k = updV (updV (updV (tcl s) (p * 3) (.int .u8 2)) (p * 3 + 1) (.int .u64 0)) (p * 3 + 2) (.int .u32 0) k := by
  unfold updV
  by_cases e2 : k = p * 3 + 2
  · rw [if_pos e2, e2, tcl_2]
    show Value.int .u32 (updN s.ew p 0 p : Int) = _
    rw [updN_at]
    rfl
  · rw [if_neg e2]
    by_cases e1 : k = p * 3 + 1
    · rw [if_pos e1, e1, tcl_1]
      show Value.int .u64 (updN s.eh p 0 p : Int) = _
      rw [updN_at]
      rfl
    · rw [if_neg e1]
      by_cases e0 : k = p * 3
      · rw [if_pos e0, e0, tcl_0, stc_mrk (s := s.gone p) (updB_at _ _ _) (updB_at _ _ _)]
        rfl
      · rw [if_neg e0]
        unfold tcl stc
        show (if k % 3 = 0 then Value.int .u8 ((if updB s.ful p false (k / 3) then 1 else if updB s.mrk p true (k / 3) then 2 else 0 : Nat) : Int) else if k % 3 = 1 then .int .u64 (updN s.eh p 0 (k / 3) : Int) else .int .u32 (updN s.ew p 0 (k / 3) : Int)) = _
        by_cases q : k / 3 = p
        · omega
        · rw [updB_ne q, updB_ne q, updN_ne q, updN_ne q]
/-- A number of places divides 2 to the 64th: a sum that wraps round is still right. -/
theorem powJ_dvd {j : Nat} (hj : j ≤ 15) : ∃ m, 18446744073709551616 = powJ j * m := by
  match j, hj with
  | 0, _ => exact ⟨2305843009213693952, by decide⟩
  | 1, _ => exact ⟨1152921504606846976, by decide⟩
  | 2, _ => exact ⟨576460752303423488, by decide⟩
  | 3, _ => exact ⟨288230376151711744, by decide⟩
  | 4, _ => exact ⟨144115188075855872, by decide⟩
  | 5, _ => exact ⟨72057594037927936, by decide⟩
  | 6, _ => exact ⟨36028797018963968, by decide⟩
  | 7, _ => exact ⟨18014398509481984, by decide⟩
  | 8, _ => exact ⟨9007199254740992, by decide⟩
  | 9, _ => exact ⟨4503599627370496, by decide⟩
  | 10, _ => exact ⟨2251799813685248, by decide⟩
  | 11, _ => exact ⟨1125899906842624, by decide⟩
  | 12, _ => exact ⟨562949953421312, by decide⟩
  | 13, _ => exact ⟨281474976710656, by decide⟩
  | 14, _ => exact ⟨140737488355328, by decide⟩
  | 15, _ => exact ⟨70368744177664, by decide⟩
  | j + 16, h => exact absurd h (by omega)
theorem st_wrap {s : Tb} (hm : mayI (s.n : Int) = true) (h i : Nat) : (h + i) % 18446744073709551616 % s.n = s.st h i := by
  obtain ⟨j, hj, e⟩ := mayI_pow hm
  obtain ⟨m, hm⟩ := powJ_dvd hj
  have e' : s.n = powJ j := by omega
  unfold Tb.st
  rw [hm, e', Nat.mod_mul_right_mod, Nat.mod_add_mod]
/-- The landed table at a block, as fields: its row's cells f, of n places; how many are empty, have an entry, have a mark. -/
structure PTY (w : World) (p g n c : Nat) (e en mk : Int) (f : Nat → Value) (F : Nat → Prop) : Prop where
  blk : w.heap[p]? = some (.cells #[.slice (some ⟨g, 0, none⟩) n c, .int .i64 e, .int .i64 en, .int .i64 mk] 91 (0, 0))
  row : OwnC w 0 97 3 (some ⟨g, 0, none⟩) n c f
  mp : F p
  mg : F g
  old : ∀ k, F k → k < w.heap.size
  may : mayI (n : Int) = true
section
variable {w w' : World} {p g n c : Nat} {e en mk : Int} {f : Nat → Value} {F : Nat → Prop}
theorem PTY.ne (h : PTY w p g n c e en mk f F) : p ≠ g := OwnC.ne h.row h.blk (by decide)
theorem PTY.keep {R : Nat → Prop} (h : PTY w p g n c e en mk f F) (hk : Kept R w w') (hd : ∀ k, F k → ¬ R k) : PTY w' p g n c e en mk f F :=
  ⟨(hk.block p (h.old p h.mp) (hd p h.mp)).trans h.blk, h.row.block (hk.block g (h.old g h.mg) (hd g h.mg)), h.mp, h.mg, fun k hF => Nat.lt_of_lt_of_le (h.old k hF) hk.size, h.may⟩
theorem PTY.step (h : PTY w p g n c e en mk f F) (hb : Below w.heap.size w w') : PTY w' p g n c e en mk f F := h.keep (Kept.of_below hb fun _ => False) fun _ _ q => q
theorem PTY.pos (h : PTY w p g n c e en mk f F) : 8 ≤ n ∧ n ≤ 262144 := by
  obtain ⟨n, e, h1, h2⟩ := mayI_pos h.may
  omega
theorem PTY.cap (h : PTY w p g n c e en mk f F) : n ≤ c := h.row.cap
theorem PTY.cap9 (h : PTY w p g n c e en mk f F) : c ≤ 9223372036854775807 := by
  have := h.row.cap_le
  unfold maxLen at this
  omega
theorem PTY.cell (h : PTY w p g n c e en mk f F) {k : Nat} (hk : k < n * 3) : w.cell? ⟨g, k, none⟩ = some (f k) := by
  obtain ⟨g', e, _, _, hc, _⟩ := h.row.lies (by have := h.pos; omega)
  injection e with e
  injection e with e
  subst e
  exact hc _ hk
theorem PTY.fz (h : PTY w p g n c e en mk f F) (k : Nat) : w.frozen? ⟨g, k, none⟩ = false := by
  obtain ⟨g', e, _, _, _, hf⟩ := h.row.lies (by have := h.pos; omega)
  injection e with e
  injection e with e
  subst e
  exact hf k
theorem PTY.drew (h : PTY w p g n c e en mk f F) : PTY w.drew p g n c e en mk f F := h.step (Below.refl _ w).drew
theorem PTY.set1 (h : PTY w p g n c e en mk f F) (v : Int) : PTY (w.setCell ⟨p, 1, none⟩ (.int .i64 v)) p g n c v en mk f F :=
  ⟨blk_set h.blk 1 _, h.row.block (Below.heap_setCell w ⟨p, 1, none⟩ _ g (Ne.symm h.ne)), h.mp, h.mg, fun k hF => by simpa using h.old k hF, h.may⟩
theorem PTY.set2 (h : PTY w p g n c e en mk f F) (v : Int) : PTY (w.setCell ⟨p, 2, none⟩ (.int .i64 v)) p g n c e v mk f F :=
  ⟨blk_set h.blk 2 _, h.row.block (Below.heap_setCell w ⟨p, 2, none⟩ _ g (Ne.symm h.ne)), h.mp, h.mg, fun k hF => by simpa using h.old k hF, h.may⟩
theorem PTY.set3 (h : PTY w p g n c e en mk f F) (v : Int) : PTY (w.setCell ⟨p, 3, none⟩ (.int .i64 v)) p g n c e en v f F :=
  ⟨blk_set h.blk 3 _, h.row.block (Below.heap_setCell w ⟨p, 3, none⟩ _ g (Ne.symm h.ne)), h.mp, h.mg, fun k hF => by simpa using h.old k hF, h.may⟩
theorem PTY.put (h : PTY w p g n c e en mk f F) (j : Nat) (a b d : Value) : PTY (w.setCells g (j * 3) [a, b, d]) p g n c e en mk (updV (updV (updV f (j * 3) a) (j * 3 + 1) b) (j * 3 + 2) d) F := by
  refine ⟨(other_setCells h.ne _ _ _).trans h.blk, ((h.row.set_ (j * 3) a).set_ (j * 3 + 1) b).set_ (j * 3 + 2) d, h.mp, h.mg, fun k hF => ?_, h.may⟩
  have := h.old k hF
  have e := (below_setCells (b := g) (Nat.zero_le _) [a, b, d] (j * 3) w (Below.refl 0 w)).size
  omega
theorem PTY.there (h : PTY w p g n c e en mk f F) {j : Nat} (hj : j < n) : w.there g (j * 3) 3 := fun k hk => by
  refine ⟨?_, h.fz _⟩
  rw [h.cell (by omega)]
  rfl
theorem PTY.same (h : PTY w p g n c e en mk f F) {f' : Nat → Value} (hf : ∀ k, f' k = f k) : PTY w p g n c e en mk f' F :=
  ⟨h.blk, h.row.same fun k _ => hf k, h.mp, h.mg, h.old, h.may⟩
end
/-- .. as what it stands for. -/
def PTX (w : World) (p g c : Nat) (e : Int) (s : Tb) (F : Nat → Prop) : Prop := PTY w p g s.n c e (s.entries : Int) (s.marks : Int) (tcl s) F
def PT0 (w : World) (p : Nat) (s : Tb) (F : Nat → Prop) : Prop := ∃ g c e, PTX w p g c e s F
section
variable {w w' : World} {p g c : Nat} {e : Int} {s : Tb} {F : Nat → Prop}
theorem PTX.c0 (h : PTX w p g c e s F) {j : Nat} (hj : j < s.n) : w.cell? ⟨g, j * 3, none⟩ = some (.int .u8 (stc s j : Int)) := by
  rw [← tcl_0 s j]
  exact PTY.cell h (by omega)
theorem PTX.c1 (h : PTX w p g c e s F) {j : Nat} (hj : j < s.n) : w.cell? ⟨g, j * 3 + 1, none⟩ = some (.int .u64 (s.eh j : Int)) := by
  rw [← tcl_1 s j]
  exact PTY.cell h (by omega)
theorem PTX.c2 (h : PTX w p g c e s F) {j : Nat} (hj : j < s.n) : w.cell? ⟨g, j * 3 + 2, none⟩ = some (.int .u32 (s.ew j : Int)) := by
  rw [← tcl_2 s j]
  exact PTY.cell h (by omega)
theorem footPT0 : FootG PT0 :=
  ⟨fun h hk hd => by
    obtain ⟨g, c, e, h⟩ := h
    exact ⟨g, c, e, PTY.keep h hk hd⟩, fun h => by
    obtain ⟨g, c, e, h⟩ := h
    exact PTY.old h⟩
end
theorem put_entries (s : Tb) {k h x : Nat} (hk : k < s.n) (hf : s.ful k = false) : (s.put k h x).entries = s.entries + 1 := by
  have := cntI_upd s.ful k true hk
  rw [hf] at this
  show cntI (updB s.ful k true) s.n = cntI s.ful s.n + 1
  simpa using this
theorem put_marks0 (s : Tb) {k h x : Nat} (hk : k < s.n) (hf : s.mrk k = false) : (s.put k h x).marks = s.marks := by
  have := cntI_upd s.mrk k false hk
  rw [hf] at this
  show cntI (updB s.mrk k false) s.n = cntI s.mrk s.n
  simpa using this
theorem put_marks1 (s : Tb) {k h x : Nat} (hk : k < s.n) (hf : s.mrk k = true) : (s.put k h x).marks + 1 = s.marks := by
  have := cntI_upd s.mrk k false hk
  rw [hf] at this
  show cntI (updB s.mrk k false) s.n + 1 = cntI s.mrk s.n
  simpa using this
theorem gone_entries (s : Tb) {k : Nat} (hk : k < s.n) (hf : s.ful k = true) : (s.gone k).entries + 1 = s.entries := by
  have := cntI_upd s.ful k false hk
  rw [hf] at this
  show cntI (updB s.ful k false) s.n + 1 = cntI s.ful s.n
  simpa using this
theorem gone_marks (s : Tb) {k : Nat} (hk : k < s.n) (hf : s.mrk k = false) : (s.gone k).marks = s.marks + 1 := by
  have := cntI_upd s.mrk k true hk
  rw [hf] at this
  show cntI (updB s.mrk k true) s.n = cntI s.mrk s.n + 1
  simpa using this
end Go.Proofs.Ythjghofjdcepmaa
/- Stage 13: the landed table: has, made, count, Places, Entries, Marks. -/
namespace Go.Proofs.Ythjghofjdcepmaa
set_option maxRecDepth 100000
open Go.RowKit Go.Shelf
def hasB (n : Nat) (q : Int) : Bool := decide (0 ≤ q) && decide (q < (n : Int))
theorem thas_0 (w : World) (q : Int) : Calls Try.prog 67 #[.pointer none, .int .i64 q] w (ret (.bool false) w) := by
  go_enter Try.func67, Try.ntmps67
  go_wp2_with fail
  go_ret
  exact ⟨rfl, Below.refl _ _⟩
theorem thas_c (w : World) (p : Nat) (A : Option Addr) (n c : Nat) (h : w.cell? ⟨p, 0, none⟩ = some (.slice A n c)) (q : Int) : Calls Try.prog 67 #[.pointer (some ⟨p, 0, none⟩), .int .i64 q] w (ret (.bool (hasB n q)) w) := by
  by_cases h0 : (0 : Int) ≤ q
  · by_cases h1 : q < (n : Int)
    · have hR : hasB n q = true := by unfold hasB; simp [h0, h1]
      rw [hR]
      clear hR
      go_enter Try.func67, Try.ntmps67
      go_wp2_with fail
      go_ret
      exact ⟨rfl, Below.refl _ _⟩
    · have hR : hasB n q = false := by unfold hasB; simp [h1]
      rw [hR]
      clear hR
      go_enter Try.func67, Try.ntmps67
      go_wp2_with fail
      go_ret
      exact ⟨rfl, Below.refl _ _⟩
  · have hR : hasB n q = false := by unfold hasB; simp [h0]
    rw [hR]
    clear hR
    go_enter Try.func67, Try.ntmps67
    go_wp2_with fail
    go_ret
    exact ⟨rfl, Below.refl _ _⟩
theorem tmade_0 (w : World) : Calls Try.prog 60 #[.pointer none] w (ret (.bool false) w) := by
  go_enter Try.func60, Try.ntmps60
  go_wp2_with (first
    | (go_at_call 67
       refine (thas_0 w 0).mono ?_
       rintro e u1 ⟨rfl, hb⟩
       have HB := Lib.hid hb
       clear hb))
  go_ret
  exact ⟨rfl, HB.out⟩
theorem tmade_c (w : World) (p : Nat) (A : Option Addr) (n c : Nat) (h : w.cell? ⟨p, 0, none⟩ = some (.slice A n c)) : Calls Try.prog 60 #[.pointer (some ⟨p, 0, none⟩)] w (ret (.bool (decide (0 < n))) w) := by
  have HC := Lib.hid (thas_c w p A n c h 0)
  have hR : hasB n 0 = decide (0 < n) := by unfold hasB; simp
  rw [hR] at HC
  clear h hR
  go_enter Try.func60, Try.ntmps60
  go_wp2_with (first
    | (go_at_call 67
       refine HC.out.mono ?_
       rintro e u1 ⟨rfl, hb⟩
       have HB := Lib.hid hb
       clear hb))
  go_ret
  exact ⟨rfl, HB.out⟩
theorem tmade_yes {w : World} {p : Nat} {A : Option Addr} {n c : Nat} (h : w.cell? ⟨p, 0, none⟩ = some (.slice A n c)) (hn : 8 ≤ n) : Calls Try.prog 60 #[.pointer (some ⟨p, 0, none⟩)] w (ret (.bool true) w) := by
  have := tmade_c w p A n c h
  rwa [show decide (0 < n) = true from by simp; omega] at this
theorem tmade_no {w : World} {p : Nat} (h : w.cell? ⟨p, 0, none⟩ = some (.slice none 0 0)) : Calls Try.prog 60 #[.pointer (some ⟨p, 0, none⟩)] w (ret (.bool false) w) := tmade_c w p none 0 0 h
/-- A table that is not there, or was not made. -/
def Unm (pa : Option Addr) (w : World) : Prop := pa = none ∨ ∃ p, pa = some ⟨p, 0, none⟩ ∧ w.cell? ⟨p, 0, none⟩ = some (.slice none 0 0)
theorem tmade_un {pa : Option Addr} {w : World} (h : Unm pa w) : Calls Try.prog 60 #[.pointer pa] w (ret (.bool false) w) := by
  rcases h with rfl | ⟨p, rfl, h⟩
  · exact tmade_0 w
  · exact tmade_no h
theorem thas_un {pa : Option Addr} {w : World} (h : Unm pa w) (q : Int) : Calls Try.prog 67 #[.pointer pa, .int .i64 q] w (ret (.bool false) w) := by
  rcases h with rfl | ⟨p, rfl, h⟩
  · exact thas_0 w q
  · have := thas_c w p none 0 0 h q
    rwa [show hasB 0 q = false from by
      unfold hasB
      by_cases h : (0 : Int) ≤ q
      · rw [show decide (q < ((0 : Nat) : Int)) = false from by simp; omega, Bool.and_false]
      · rw [show decide (0 ≤ q) = false from by simp; omega, Bool.false_and]] at this
theorem tcount_1 {w : World} {p g n c : Nat} {e en mk : Int} {f : Nat → Value} {F : Nat → Prop} (h : PTY w p g n c e en mk f F) : Calls Try.prog 71 #[.pointer (some ⟨p, 0, none⟩), .int .u8 1] w (ret (.int .i64 en) w) := by
  have x0 : w.cell? ⟨p, 0, none⟩ = some (.slice (some ⟨g, 0, none⟩) n c) := blk_cell h.blk 0
  have HM := Lib.hid (tmade_yes x0 h.pos.1)
  have HX := Lib.hid h
  clear x0 h
  go_enter Try.func71, Try.ntmps71
  go_wp2_with (first
    | (go_at_call 60
       refine HM.out.mono ?_
       rintro e u1 ⟨rfl, hb⟩
       have HB := Lib.hid hb
       have x1 : u1.cell? ⟨p, 2, none⟩ = some (.int .i64 en) := blk_cell (HX.out.step hb).blk 2
       clear hb))
  go_ret
  exact ⟨rfl, HB.out⟩
theorem tcountu_1 {pa : Option Addr} {w : World} (h : Unm pa w) : Calls Try.prog 71 #[.pointer pa, .int .u8 1] w (ret (.int .i64 0) w) := by
  have HM := Lib.hid (tmade_un h)
  clear h
  go_enter Try.func71, Try.ntmps71
  go_wp2_with (first
    | (go_at_call 60
       refine HM.out.mono ?_
       rintro e u1 ⟨rfl, hb⟩
       have HB := Lib.hid hb
       clear hb))
  go_ret
  exact ⟨rfl, HB.out⟩
theorem tentries_c {pa : Option Addr} {w : World} {v : Int} (h : Calls Try.prog 71 #[.pointer pa, .int .u8 1] w (ret (.int .i64 v) w)) : Calls Try.prog 56 #[.pointer pa] w (ret (.int .i64 v) w) := by
  have HM := Lib.hid h
  clear h
  go_enter Try.func56, Try.ntmps56
  go_wp2_with (first
    | (go_at_call 71
       refine HM.out.mono ?_
       rintro e u1 ⟨rfl, hb⟩
       have HB := Lib.hid hb
       clear hb))
  go_ret
  exact ⟨rfl, HB.out⟩
theorem tcount_2 {w : World} {p g n c : Nat} {e en mk : Int} {f : Nat → Value} {F : Nat → Prop} (h : PTY w p g n c e en mk f F) : Calls Try.prog 71 #[.pointer (some ⟨p, 0, none⟩), .int .u8 2] w (ret (.int .i64 mk) w) := by
  have x0 : w.cell? ⟨p, 0, none⟩ = some (.slice (some ⟨g, 0, none⟩) n c) := blk_cell h.blk 0
  have HM := Lib.hid (tmade_yes x0 h.pos.1)
  have HX := Lib.hid h
  clear x0 h
  go_enter Try.func71, Try.ntmps71
  go_wp2_with (first
    | (go_at_call 60
       refine HM.out.mono ?_
       rintro e u1 ⟨rfl, hb⟩
       have HB := Lib.hid hb
       have x2 : u1.cell? ⟨p, 3, none⟩ = some (.int .i64 mk) := blk_cell (HX.out.step hb).blk 3
       clear hb))
  go_ret
  exact ⟨rfl, HB.out⟩
theorem tcountu_2 {pa : Option Addr} {w : World} (h : Unm pa w) : Calls Try.prog 71 #[.pointer pa, .int .u8 2] w (ret (.int .i64 0) w) := by
  have HM := Lib.hid (tmade_un h)
  clear h
  go_enter Try.func71, Try.ntmps71
  go_wp2_with (first
    | (go_at_call 60
       refine HM.out.mono ?_
       rintro e u1 ⟨rfl, hb⟩
       have HB := Lib.hid hb
       clear hb))
  go_ret
  exact ⟨rfl, HB.out⟩
theorem tmarks_c {pa : Option Addr} {w : World} {v : Int} (h : Calls Try.prog 71 #[.pointer pa, .int .u8 2] w (ret (.int .i64 v) w)) : Calls Try.prog 57 #[.pointer pa] w (ret (.int .i64 v) w) := by
  have HM := Lib.hid h
  clear h
  go_enter Try.func57, Try.ntmps57
  go_wp2_with (first
    | (go_at_call 71
       refine HM.out.mono ?_
       rintro e u1 ⟨rfl, hb⟩
       have HB := Lib.hid hb
       clear hb))
  go_ret
  exact ⟨rfl, HB.out⟩
theorem tplaces {w : World} {p g n c : Nat} {e en mk : Int} {f : Nat → Value} {F : Nat → Prop} (h : PTY w p g n c e en mk f F) : Calls Try.prog 45 #[.pointer (some ⟨p, 0, none⟩)] w (ret (.int .i64 (n : Int)) w) := by
  have x0 : w.cell? ⟨p, 0, none⟩ = some (.slice (some ⟨g, 0, none⟩) n c) := blk_cell h.blk 0
  have HM := Lib.hid (tmade_yes x0 h.pos.1)
  have HX := Lib.hid h
  clear x0 h
  go_enter Try.func45, Try.ntmps45
  go_wp2_with (first
    | (go_at_call 60
       refine HM.out.mono ?_
       rintro e u1 ⟨rfl, hb⟩
       have HB := Lib.hid hb
       have x0 : u1.cell? ⟨p, 0, none⟩ = some (.slice (some ⟨g, 0, none⟩) n c) := blk_cell (HX.out.step hb).blk 0
       clear hb))
  go_ret
  exact ⟨rfl, HB.out⟩
theorem tplacesu {pa : Option Addr} {w : World} (h : Unm pa w) : Calls Try.prog 45 #[.pointer pa] w (ret (.int .i64 0) w) := by
  have HM := Lib.hid (tmade_un h)
  clear h
  go_enter Try.func45, Try.ntmps45
  go_wp2_with (first
    | (go_at_call 60
       refine HM.out.mono ?_
       rintro e u1 ⟨rfl, hb⟩
       have HB := Lib.hid hb
       clear hb))
  go_ret
  exact ⟨rfl, HB.out⟩
end Go.Proofs.Ythjghofjdcepmaa
