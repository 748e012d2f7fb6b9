/- Objects with a footprint, whatever they stand for: one, or two side by side, beside blocks that are looked after; over any program. -/
import Derived.Test.YthbjkchgbjopfaaFoot
import Derived.Test.YthbjkchgbjopfaaQg
namespace Go.Proofs.Ythbjkchgbjopfaa
set_option maxRecDepth 100000
open Go.RowKit Go.Shelf
/-- What an object's words must know: it stays as long as its blocks do, and its blocks are there. -/
structure FootG {σ : Type} (PA : World → Nat → σ → (Nat → Prop) → Prop) : Prop where
  keep : ∀ {w w' : World} {p : Nat} {s : σ} {F R : Nat → Prop}, PA w p s F → Kept R w w' → (∀ k, F k → ¬ R k) → PA w' p s F
  old : ∀ {w : World} {p : Nat} {s : σ} {F : Nat → Prop}, PA w p s F → ∀ k, F k → k < w.heap.size
/-- A footprint that has grown by new blocks alone; nothing old was turned but it. -/
structure ExtG (F F' : Nat → Prop) (w w' : World) : Prop where
  sub : ∀ k, F' k → F k ∨ w.heap.size ≤ k ∧ k < w'.heap.size
  kept : Kept F w w'
theorem ExtG.of_below {F : Nat → Prop} {w w' : World} (h : Below w.heap.size w w') : ExtG F F w w' := ⟨fun _ h => .inl h, Kept.of_below h _⟩
theorem ExtG.refl (F : Nat → Prop) (w : World) : ExtG F F w w := .of_below (Below.refl _ _)
theorem ExtG.trans {F F' F'' : Nat → Prop} {a b c : World} (h : ExtG F F' a b) (k : ExtG F' F'' b c) : ExtG F F'' a c := by
  refine ⟨fun j hj => ?_, h.kept.trans k.kept fun j hj hF => ?_⟩
  · have h1 := h.kept.size
    have h2 := k.kept.size
    rcases k.sub j hj with q | q
    · rcases h.sub j q with r | r
      · exact .inl r
      · exact .inr ⟨r.1, by omega⟩
    · exact .inr ⟨by omega, q.2⟩
  · rcases h.sub j hF with r | r
    · exact r
    · omega
section
variable {σ τ : Type} {PA : World → Nat → σ → (Nat → Prop) → Prop} {QA : World → Nat → τ → (Nat → Prop) → Prop} {w W : World} {X : Nat → Prop} {p q : Nat} {s : σ} {t : τ}
/-- At p stands s, in blocks of the call's own (from w on), none of X. -/
def StG (PA : World → Nat → σ → (Nat → Prop) → Prop) (w : World) (X : Nat → Prop) (W : World) (p : Nat) (s : σ) : Prop :=
  ∃ F, PA W p s F ∧ (∀ k, F k → w.heap.size ≤ k ∧ ¬ X k) ∧ (∀ k, X k → k < W.heap.size) ∧ Below w.heap.size w W
/-- At p stands s, at q stands t, in blocks from w on that have nothing in common with each other, nor with X. -/
def TwG (PA : World → Nat → σ → (Nat → Prop) → Prop) (QA : World → Nat → τ → (Nat → Prop) → Prop) (w : World) (X : Nat → Prop) (W : World) (p q : Nat) (s : σ) (t : τ) : Prop :=
  ∃ F G, PA W p s F ∧ QA W q t G ∧ (∀ k, F k → w.heap.size ≤ k ∧ ¬ X k ∧ ¬ G k) ∧ (∀ k, G k → w.heap.size ≤ k ∧ ¬ X k) ∧ (∀ k, X k → k < W.heap.size) ∧ Below w.heap.size w W
theorem StG.below (h : StG PA w X W p s) : Below w.heap.size w W := by
  obtain ⟨_, _, _, _, h⟩ := h
  exact h
theorem StG.xold (h : StG PA w X W p s) : ∀ k, X k → k < W.heap.size := by
  obtain ⟨_, _, _, h, _⟩ := h
  exact h
theorem TwG.below (h : TwG PA QA w X W p q s t) : Below w.heap.size w W := by
  obtain ⟨_, _, _, _, _, _, _, h⟩ := h
  exact h
theorem TwG.xold (h : TwG PA QA w X W p q s t) : ∀ k, X k → k < W.heap.size := by
  obtain ⟨_, _, _, _, _, _, h, _⟩ := h
  exact h
theorem TwG.symm (h : TwG PA QA w X W p q s t) : TwG QA PA w X W q p t s := by
  obtain ⟨F, G, hF, hG, h1, h2, h3, h4⟩ := h
  exact ⟨G, F, hG, hF, fun k g => ⟨(h2 k g).1, (h2 k g).2, fun f => (h1 k f).2.2 g⟩, fun k f => ⟨(h1 k f).1, (h1 k f).2.1⟩, h3, h4⟩
theorem TwG.left (h : TwG PA QA w X W p q s t) : StG PA w X W p s := by
  obtain ⟨F, G, hF, hG, h1, h2, h3, h4⟩ := h
  exact ⟨F, hF, fun k f => ⟨(h1 k f).1, (h1 k f).2.1⟩, h3, h4⟩
theorem StG.start (h : ∃ F, PA W p s F ∧ ∀ k, F k → w.heap.size ≤ k) (hb : Below w.heap.size w W) : StG PA w (fun _ => False) W p s := by
  obtain ⟨F, hF, h1⟩ := h
  exact ⟨F, hF, fun k f => ⟨h1 k f, fun e => e⟩, fun _ e => e.elim, hb⟩
theorem StG.ext {F F' : Nat → Prop} {w' : World} {s' : σ} (h : ∀ k, F k → w.heap.size ≤ k ∧ ¬ X k) (hX : ∀ k, X k → k < W.heap.size) (hb : Below w.heap.size w W) (hp : PA w' p s' F') (he : ExtG F F' W w') : StG PA w X w' p s' ∧ ∀ k, X k → w'.heap[k]? = W.heap[k]? := by
  refine ⟨⟨F', hp, fun k hk => ?_, fun k hk => Nat.lt_of_lt_of_le (hX k hk) he.kept.size, hb.trans (he.kept.below hb.size fun k hk => (h k hk).1)⟩, fun k hk => he.kept.block k (hX k hk) fun hf => (h k hf).2 hk⟩
  rcases he.sub k hk with q | ⟨q, _⟩
  · exact h k q
  · exact ⟨Nat.le_trans hb.size q, fun hx => absurd (hX k hx) (by omega)⟩
theorem TwG.ext (HD : FootG QA) {F F' G : Nat → Prop} {w' : World} {s' : σ} (hG : QA W q t G) (h1 : ∀ k, F k → w.heap.size ≤ k ∧ ¬ X k ∧ ¬ G k) (h2 : ∀ k, G k → w.heap.size ≤ k ∧ ¬ X k) (hX : ∀ k, X k → k < W.heap.size) (hb : Below w.heap.size w W) (hp : PA w' p s' F') (he : ExtG F F' W w') :
    TwG PA QA w X w' p q s' t ∧ ∀ k, X k → w'.heap[k]? = W.heap[k]? := by
  refine ⟨⟨F', G, hp, HD.keep hG he.kept fun k g f => (h1 k f).2.2 g, fun k hk => ?_, h2, fun k hk => Nat.lt_of_lt_of_le (hX k hk) he.kept.size, hb.trans (he.kept.below hb.size fun k hk => (h1 k hk).1)⟩, fun k hk => he.kept.block k (hX k hk) fun hf => (h1 k hf).2.1 hk⟩
  rcases he.sub k hk with q | ⟨q, _⟩
  · exact h1 k q
  · exact ⟨Nat.le_trans hb.size q, fun hx => absurd (hX k hx) (by omega), fun hg => absurd (HD.old hG k hg) (by omega)⟩
/-- A call on it. -/
theorem StG.call {P : Program} {fn : FuncId} {args : Array Value} {K : Ending → Prop} {s' : σ} (h : StG PA w X W p s) (hc : ∀ F, PA W p s F → Calls P fn args W fun e w' => K e ∧ ∃ F', PA w' p s' F' ∧ ExtG F F' W w') :
    Calls P fn args W fun e w' => K e ∧ StG PA w X w' p s' ∧ ∀ k, X k → w'.heap[k]? = W.heap[k]? := by
  obtain ⟨F, hF, h1, h2, h3⟩ := h
  refine (hc F hF).mono ?_
  rintro e w' ⟨he, F', hp, hx⟩
  exact ⟨he, StG.ext h1 h2 h3 hp hx⟩
/-- A call on the first one; on the second one. -/
theorem TwG.callL {P : Program} {fn : FuncId} {args : Array Value} {K : Ending → Prop} {s' : σ} (h : TwG PA QA w X W p q s t) (HD : FootG QA) (hc : ∀ F, PA W p s F → Calls P fn args W fun e w' => K e ∧ ∃ F', PA w' p s' F' ∧ ExtG F F' W w') :
    Calls P fn args W fun e w' => K e ∧ TwG PA QA w X w' p q s' t ∧ ∀ k, X k → w'.heap[k]? = W.heap[k]? := by
  obtain ⟨F, G, hF, hG, h1, h2, h3, h4⟩ := h
  refine (hc F hF).mono ?_
  rintro e w' ⟨he, F', hp, hx⟩
  exact ⟨he, TwG.ext HD hG h1 h2 h3 h4 hp hx⟩
theorem TwG.callR {P : Program} {fn : FuncId} {args : Array Value} {K : Ending → Prop} {t' : τ} (h : TwG PA QA w X W p q s t) (HC : FootG PA) (hc : ∀ G, QA W q t G → Calls P fn args W fun e w' => K e ∧ ∃ G', QA w' q t' G' ∧ ExtG G G' W w') :
    Calls P fn args W fun e w' => K e ∧ TwG PA QA w X w' p q s t' ∧ ∀ k, X k → w'.heap[k]? = W.heap[k]? :=
  (h.symm.callL HC hc).mono fun _ _ h => ⟨h.1, h.2.1.symm, h.2.2⟩
theorem StG.step (h : StG PA w X W p s) (HC : FootG PA) {w' : World} (hb : Below W.heap.size W w') : StG PA w X w' p s := by
  obtain ⟨F, hF, h1, h3, h4⟩ := h
  exact ⟨F, HC.keep hF (Kept.of_below hb fun _ => False) (fun _ _ q => q), h1, fun k hk => Nat.lt_of_lt_of_le (h3 k hk) hb.size, h4.trans (hb.mono h4.size)⟩
theorem TwG.step (h : TwG PA QA w X W p q s t) (HC : FootG PA) (HD : FootG QA) {w' : World} (hb : Below W.heap.size W w') : TwG PA QA w X w' p q s t := by
  obtain ⟨F, G, hF, hG, h1, h2, h3, h4⟩ := h
  exact ⟨F, G, HC.keep hF (Kept.of_below hb fun _ => False) (fun _ _ q => q), HD.keep hG (Kept.of_below hb fun _ => False) (fun _ _ q => q), h1, h2, fun k hk => Nat.lt_of_lt_of_le (h3 k hk) hb.size, h4.trans (hb.mono h4.size)⟩
/-- What turns blocks of X alone. -/
theorem StG.turn (h : StG PA w X W p s) (HC : FootG PA) {w' : World} {R : Nat → Prop} (hk : Kept R W w') (hR : ∀ k, R k → X k ∧ w.heap.size ≤ k) : StG PA w X w' p s := by
  obtain ⟨F, hF, h1, h3, h4⟩ := h
  exact ⟨F, HC.keep hF hk (fun k f r => (h1 k f).2 (hR k r).1), h1, fun k hk' => Nat.lt_of_lt_of_le (h3 k hk') hk.size, h4.trans (hk.below h4.size fun k r => (hR k r).2)⟩
theorem TwG.turn (h : TwG PA QA w X W p q s t) (HC : FootG PA) (HD : FootG QA) {w' : World} {R : Nat → Prop} (hk : Kept R W w') (hR : ∀ k, R k → X k ∧ w.heap.size ≤ k) : TwG PA QA w X w' p q s t := by
  obtain ⟨F, G, hF, hG, h1, h2, h3, h4⟩ := h
  exact ⟨F, G, HC.keep hF hk (fun k f r => (h1 k f).2.1 (hR k r).1), HD.keep hG hk (fun k g r => (h2 k g).2 (hR k r).1), h1, h2, fun k hk' => Nat.lt_of_lt_of_le (h3 k hk') hk.size, h4.trans (hk.below h4.size fun k r => (hR k r).2)⟩
/-- More blocks are looked after: old ones that are none of its own. -/
theorem StG.box (h : StG PA w X W p s) (HC : FootG PA) (o : Obj) : StG PA w (fun k => X k ∨ k = W.heap.size) (W.alloc o) p s := by
  obtain ⟨F, hF, h1, h2, h3⟩ := h
  have hz : (W.alloc o).heap.size = W.heap.size + 1 := by simp
  refine ⟨F, HC.keep hF (Kept.of_below (below_alloc W o) fun _ => False) (fun _ _ q => q), fun k hk => ⟨(h1 k hk).1, ?_⟩, fun k hk => ?_, h3.alloc h3.size o⟩
  · rintro (q | q)
    · exact (h1 k hk).2 q
    · have := HC.old hF k hk
      omega
  · rcases hk with q | q
    · have := h2 k q
      omega
    · omega
theorem TwG.box (h : TwG PA QA w X W p q s t) (HC : FootG PA) (HD : FootG QA) (o : Obj) : TwG PA QA w (fun k => X k ∨ k = W.heap.size) (W.alloc o) p q s t := by
  obtain ⟨F, G, hF, hG, h1, h2, h3, h4⟩ := h
  have hz : (W.alloc o).heap.size = W.heap.size + 1 := by simp
  refine ⟨F, G, HC.keep hF (Kept.of_below (below_alloc W o) fun _ => False) (fun _ _ q => q), HD.keep hG (Kept.of_below (below_alloc W o) fun _ => False) (fun _ _ q => q), fun k hk => ⟨(h1 k hk).1, ?_, (h1 k hk).2.2⟩, fun k hk => ⟨(h2 k hk).1, ?_⟩, fun k hk => ?_, h4.alloc h4.size o⟩
  · rintro (q | q)
    · exact (h1 k hk).2.1 q
    · have := HC.old hF k hk
      omega
  · rintro (q | q)
    · exact (h2 k hk).2 q
    · have := HD.old hG k hk
      omega
  · rcases hk with q | q
    · have := h3 k q
      omega
    · omega
/-- Old blocks below w may be looked after, whatever stands there. -/
theorem StG.below_w (h : StG PA w X W p s) : StG PA w (fun k => X k ∨ k < w.heap.size) W p s := by
  obtain ⟨F, hF, h1, h2, h3⟩ := h
  refine ⟨F, hF, fun k f => ⟨(h1 k f).1, ?_⟩, fun k hk => ?_, h3⟩
  · rintro (q | q)
    · exact (h1 k f).2 q
    · exact absurd (h1 k f).1 (by omega)
  · rcases hk with q | q
    · exact h2 k q
    · exact Nat.lt_of_lt_of_le q h3.size
theorem StG.less (h : StG PA w X W p s) {Y : Nat → Prop} (hY : ∀ k, Y k → X k) : StG PA w Y W p s := by
  obtain ⟨F, hF, h1, h2, h3⟩ := h
  exact ⟨F, hF, fun k hk => ⟨(h1 k hk).1, fun y => (h1 k hk).2 (hY k y)⟩, fun k hk => h2 k (hY k hk), h3⟩
theorem TwG.less (h : TwG PA QA w X W p q s t) {Y : Nat → Prop} (hY : ∀ k, Y k → X k) : TwG PA QA w Y W p q s t := by
  obtain ⟨F, G, hF, hG, h1, h2, h3, h4⟩ := h
  exact ⟨F, G, hF, hG, fun k hk => ⟨(h1 k hk).1, fun y => (h1 k hk).2.1 (hY k y), (h1 k hk).2.2⟩, fun k hk => ⟨(h2 k hk).1, fun y => (h2 k hk).2 (hY k y)⟩, fun k hk => h3 k (hY k hk), h4⟩
/-- A second object made beside the first one, of new blocks. -/
theorem StG.beside (h : StG PA w X W p s) (HC : FootG PA) {w' : World} (hb : Below W.heap.size W w') {G : Nat → Prop} (hG : QA w' q t G) (hn : ∀ k, G k → W.heap.size ≤ k) : TwG PA QA w X w' p q s t := by
  obtain ⟨F, hF, h1, h2, h3⟩ := h
  refine ⟨F, G, HC.keep hF (Kept.of_below hb fun _ => False) (fun _ _ q => q), hG, fun k hk => ⟨(h1 k hk).1, (h1 k hk).2, fun g => ?_⟩, fun k hk => ⟨Nat.le_trans h3.size (hn k hk), fun x => ?_⟩, fun k hk => Nat.lt_of_lt_of_le (h2 k hk) hb.size, h3.trans (hb.mono h3.size)⟩
  · have e1 := HC.old hF k hk
    have e2 := hn k g
    omega
  · have e1 := h2 k x
    have e2 := hn k hk
    omega
/-- A third one, of new blocks: it is walked alone, the two are looked after. -/
theorem TwG.third {υ : Type} {TA : World → Nat → υ → (Nat → Prop) → Prop} {b : Nat} {u : υ} (h : TwG PA QA w X W p q s t) (HC : FootG PA) (HD : FootG QA) {w' : World} (hb : Below W.heap.size W w') {C : Nat → Prop} (hT : TA w' b u C) (hn : ∀ k, C k → W.heap.size ≤ k) :
    ∃ Y, (∀ k, X k → Y k) ∧ StG TA w Y w' b u ∧ ∀ w2 : World, (∀ k, Y k → w2.heap[k]? = w'.heap[k]?) → Below w.heap.size w w2 → w'.heap.size ≤ w2.heap.size → TwG PA QA w X w2 p q s t := by
  obtain ⟨F, G, hF, hG, h1, h2, h3, h4⟩ := h
  have hF' := HC.keep hF (Kept.of_below hb fun _ => False) (fun _ _ q => q)
  have hG' := HD.keep hG (Kept.of_below hb fun _ => False) (fun _ _ q => q)
  refine ⟨fun k => X k ∨ F k ∨ G k, fun k hk => .inl hk, ⟨C, hT, fun k hk => ⟨Nat.le_trans h4.size (hn k hk), ?_⟩, fun k hk => ?_, h4.trans (hb.mono h4.size)⟩, fun w2 hY hb2 hs2 => ?_⟩
  · have e2 := hn k hk
    rintro (x | f | g)
    · have := h3 k x
      omega
    · have := HC.old hF k f
      omega
    · have := HD.old hG k g
      omega
  · rcases hk with x | f | g
    · exact Nat.lt_of_lt_of_le (h3 k x) hb.size
    · exact HC.old hF' k f
    · exact HD.old hG' k g
  · have h5 := h4.trans (hb.mono h4.size)
    have hK : Kept (fun k => ¬ (X k ∨ F k ∨ G k)) w' w2 := ⟨hb2.os.trans h5.os.symm, hb2.tape.trans h5.tape.symm, hb2.output.trans h5.output.symm, hs2, fun k _ hn => hY k (Classical.not_not.1 hn)⟩
    exact ⟨F, G, HC.keep hF' hK fun k f n => n (.inr (.inl f)), HD.keep hG' hK fun k g n => n (.inr (.inr g)), h1, h2, fun k hk => Nat.lt_of_lt_of_le (h3 k hk) (Nat.le_trans hb.size hs2), hb2⟩
/-- Likewise, but the first one is walked alone, the third one and the second one are gone on with. -/
theorem TwG.three {υ : Type} {TA : World → Nat → υ → (Nat → Prop) → Prop} {b : Nat} {u : υ} (h : TwG PA QA w X W p q s t) (HC : FootG PA) (HD : FootG QA) (HT : FootG TA) {w' : World} (hb : Below W.heap.size W w') {C : Nat → Prop} (hT : TA w' b u C) (hn : ∀ k, C k → W.heap.size ≤ k) :
    ∃ Y, (∀ k, X k → Y k) ∧ StG PA w Y w' p s ∧ ∀ w2 : World, (∀ k, Y k → w2.heap[k]? = w'.heap[k]?) → Below w.heap.size w w2 → w'.heap.size ≤ w2.heap.size → TwG TA QA w X w2 b q u t := by
  obtain ⟨F, G, hF, hG, h1, h2, h3, h4⟩ := h
  have hF' := HC.keep hF (Kept.of_below hb fun _ => False) (fun _ _ q => q)
  have hG' := HD.keep hG (Kept.of_below hb fun _ => False) (fun _ _ q => q)
  refine ⟨fun k => X k ∨ C k ∨ G k, fun k hk => .inl hk, ⟨F, hF', fun k hk => ⟨(h1 k hk).1, ?_⟩, fun k hk => ?_, h4.trans (hb.mono h4.size)⟩, fun w2 hY hb2 hs2 => ?_⟩
  · rintro (x | c | g)
    · exact (h1 k hk).2.1 x
    · have e1 := hn k c
      have := HC.old hF k hk
      omega
    · exact (h1 k hk).2.2 g
  · rcases hk with x | c | g
    · exact Nat.lt_of_lt_of_le (h3 k x) hb.size
    · exact HT.old hT k c
    · exact HD.old hG' k g
  · have h5 := h4.trans (hb.mono h4.size)
    have hK : Kept (fun k => ¬ (X k ∨ C k ∨ G k)) w' w2 := ⟨hb2.os.trans h5.os.symm, hb2.tape.trans h5.tape.symm, hb2.output.trans h5.output.symm, hs2, fun k _ hn => hY k (Classical.not_not.1 hn)⟩
    refine ⟨C, G, HT.keep hT hK fun k c n => n (.inr (.inl c)), HD.keep hG' hK fun k g n => n (.inr (.inr g)), fun k c => ⟨Nat.le_trans h4.size (hn k c), fun x => ?_, fun g => ?_⟩, h2, fun k hk => Nat.lt_of_lt_of_le (h3 k hk) (Nat.le_trans hb.size hs2), hb2⟩
    · have e1 := h3 k x
      have e2 := hn k c
      omega
    · have e1 := HD.old hG k g
      have e2 := hn k c
      omega
end
end Go.Proofs.Ythbjkchgbjopfaa
