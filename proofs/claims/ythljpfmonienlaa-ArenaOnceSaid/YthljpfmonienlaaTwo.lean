/- Stage 9: two arenas, whosever, side by side. -/
import Derived.Test.YthljpfmonienlaaRk
namespace Go.Proofs.Ythljpfmonienlaa
set_option maxRecDepth 100000
open Go.RowKit Go.Shelf
/-- At p stands s, at q stands t, in blocks from w on that have nothing in common with each other, nor with X. -/
def Two (PA QA : World → Nat → Ar → (Nat → Prop) → Prop) (w : World) (X : Nat → Prop) (W : World) (p q : Nat) (s t : Ar) : Prop :=
  ∃ F G, PA W p s F ∧ QA W q t G ∧ (∀ k, F k → w.heap.size ≤ k ∧ ¬ X k ∧ ¬ G k) ∧ (∀ k, G k → w.heap.size ≤ k ∧ ¬ X k) ∧ (∀ k, X k → k < W.heap.size) ∧ Below w.heap.size w W
section
variable {PA QA : World → Nat → Ar → (Nat → Prop) → Prop} {ft ff fc gt gf gc : FuncId} {w W : World} {X : Nat → Prop} {p q : Nat} {s t : Ar}
theorem Two.symm (h : Two PA QA w X W p q s t) : Two QA PA w X W q p t s := by
  obtain ⟨F, G, hF, hG, h1, h2, h3, h4⟩ := h
  exact ⟨G, F, hG, hF, fun k g => ⟨(h2 k g).1, (h2 k g).2, fun f => (h1 k f).2.2 g⟩, fun k f => ⟨(h1 k f).1, (h1 k f).2.1⟩, h3, h4⟩
theorem Two.below (h : Two PA QA w X W p q s t) : Below w.heap.size w W := by
  obtain ⟨_, _, _, _, _, _, _, h⟩ := h
  exact h
theorem Two.left (h : Two PA QA w X W p q s t) : St PA w X W p s := by
  obtain ⟨F, G, hF, hG, h1, h2, h3, h4⟩ := h
  exact ⟨F, hF, fun k f => ⟨(h1 k f).1, (h1 k f).2.1⟩, h3, h4⟩
theorem Two.ext (_HC : ArC PA ft ff fc) (HD : ArC QA gt gf gc) {F F' G : Nat → Prop} {w' : World} {s' : Ar} (hG : QA W q t G) (h1 : ∀ k, F k → w.heap.size ≤ k ∧ ¬ X k ∧ ¬ G k) (h2 : ∀ k, G k → w.heap.size ≤ k ∧ ¬ X k) (hX : ∀ k, X k → k < W.heap.size) (hb : Below w.heap.size w W) (hp : PA w' p s' F') (he : Ext F F' W w') :
    Two PA QA w X w' p q s' t ∧ ∀ k, X k → w'.heap[k]? = W.heap[k]? := by
  refine ⟨⟨F', G, hp, HD.keep hG he.kept fun k g f => (h1 k f).2.2 g, fun k hk => ?_, h2, fun k hk => Nat.lt_of_lt_of_le (hX k hk) he.kept.size, hb.trans (he.kept.below hb.size fun k hk => (h1 k hk).1)⟩, fun k hk => he.kept.block k (hX k hk) fun hf => (h1 k hf).2.1 hk⟩
  rcases he.sub k hk with q | ⟨q, _⟩
  · exact h1 k q
  · exact ⟨Nat.le_trans hb.size q, fun hx => absurd (hX k hx) (by omega), fun hg => absurd (HD.old hG k hg) (by omega)⟩
theorem Two.take (h : Two PA QA w X W p q s t) (HC : ArC PA ft ff fc) (HD : ArC QA gt gf gc) (hs : s.Ok) (hn : s.has.length ≤ 65536) (hS : s.serial ≤ 4611686018427387904) :
    Calls Try.prog ft #[.pointer (some ⟨p, 0, none⟩)] W fun e w' => e = .returned (.tuple #[.agg s.tkH, .int .i64 s.tkE]) ∧ Two PA QA w X w' p q s.tk t ∧ ∀ k, X k → w'.heap[k]? = W.heap[k]? := by
  obtain ⟨F, G, hF, hG, h1, h2, h3, h4⟩ := h
  refine (HC.take hF hs hn hS).mono ?_
  rintro e w' ⟨rfl, F', hp, he⟩
  exact ⟨rfl, Two.ext HC HD hG h1 h2 h3 h4 hp he⟩
theorem Two.free (h : Two PA QA w X W p q s t) (HC : ArC PA ft ff fc) (HD : ArC QA gt gf gc) (hs : s.Ok) (hn : s.has.length ≤ 65536) (i : Int) (k : Nat) :
    Calls Try.prog ff #[.pointer (some ⟨p, 0, none⟩), .agg #[.int .i64 i, .int .u64 (k : Int)]] W fun e w' => e = .returned (.int .i64 (s.frE i k)) ∧ Two PA QA w X w' p q (s.fr i k) t ∧ ∀ k, X k → w'.heap[k]? = W.heap[k]? := by
  obtain ⟨F, G, hF, hG, h1, h2, h3, h4⟩ := h
  refine (HC.free hF hs hn i k).mono ?_
  rintro e w' ⟨rfl, F', hp, he⟩
  exact ⟨rfl, Two.ext HC HD hG h1 h2 h3 h4 hp he⟩
/-- Behind what turns nothing old. -/
theorem Two.step (h : Two PA QA w X W p q s t) (HC : ArC PA ft ff fc) (HD : ArC QA gt gf gc) {w' : World} (hb : Below W.heap.size W w') : Two PA QA w X w' p q s t := by
  obtain ⟨F, G, hF, hG, h1, h2, h3, h4⟩ := h
  exact ⟨F, G, HC.keep hF (Kept.of_below hb fun _ => False) (fun _ _ q => q), HD.keep hG (Kept.of_below hb fun _ => False) (fun _ _ q => q), h1, h2, fun k hk => Nat.lt_of_lt_of_le (h3 k hk) hb.size, h4.trans (hb.mono h4.size)⟩
/-- A new block of the call's own is looked after. -/
theorem Two.box (h : Two PA QA w X W p q s t) (HC : ArC PA ft ff fc) (HD : ArC QA gt gf gc) (o : Obj) : Two PA QA w (fun k => X k ∨ k = W.heap.size) (W.alloc o) p q s t := by
  obtain ⟨F, G, hF, hG, h1, h2, h3, h4⟩ := h
  have hz : (W.alloc o).heap.size = W.heap.size + 1 := by simp
  refine ⟨F, G, HC.keep hF (Kept.of_below (below_alloc W o) fun _ => False) (fun _ _ q => q), HD.keep hG (Kept.of_below (below_alloc W o) fun _ => False) (fun _ _ q => q), fun k hk => ⟨(h1 k hk).1, ?_, (h1 k hk).2.2⟩, fun k hk => ⟨(h2 k hk).1, ?_⟩, fun k hk => ?_, h4.alloc h4.size o⟩
  · rintro (q | q)
    · exact (h1 k hk).2.1 q
    · have := HC.old hF k hk
      omega
  · rintro (q | q)
    · exact (h2 k hk).2 q
    · have := HD.old hG k hk
      omega
  · rcases hk with q | q
    · have := h3 k q
      omega
    · omega
/-- Fewer blocks are looked after. -/
theorem Two.less (h : Two PA QA w X W p q s t) {Y : Nat → Prop} (hY : ∀ k, Y k → X k) : Two PA QA w Y W p q s t := by
  obtain ⟨F, G, hF, hG, h1, h2, h3, h4⟩ := h
  exact ⟨F, G, hF, hG, fun k hk => ⟨(h1 k hk).1, fun y => (h1 k hk).2.1 (hY k y), (h1 k hk).2.2⟩, fun k hk => ⟨(h2 k hk).1, fun y => (h2 k hk).2 (hY k y)⟩, fun k hk => h3 k (hY k hk), h4⟩
/-- Of the first one a copy is made that has nothing in common with it: the two that are gone on with. -/
theorem Two.copy (h : Two PA QA w X W p q s t) (HD : ArC QA gt gf gc) (hcopy : ∀ {w : World} {p : Nat} {s : Ar} {F : Nat → Prop}, PA w p s F → Calls Try.prog fc #[.pointer (some ⟨p, 0, none⟩)] w fun e w' => ∃ b F', e = .returned (.pointer (some ⟨b, 0, none⟩)) ∧ PA w' b s F' ∧ (∀ k, F' k → w.heap.size ≤ k ∧ k < w'.heap.size) ∧ Below w.heap.size w w')
    (hkeep : ∀ {w w' : World} {p : Nat} {s : Ar} {F R : Nat → Prop}, PA w p s F → Kept R w w' → (∀ k, F k → ¬ R k) → PA w' p s F) (hold : ∀ {w : World} {p : Nat} {s : Ar} {F : Nat → Prop}, PA w p s F → ∀ k, F k → k < w.heap.size) :
    Calls Try.prog fc #[.pointer (some ⟨p, 0, none⟩)] W fun e w' => ∃ b, e = .returned (.pointer (some ⟨b, 0, none⟩)) ∧ Below W.heap.size W w' ∧
      ∃ F G C, PA w' p s F ∧ QA w' q t G ∧ PA w' b s C ∧ (∀ k, F k → w.heap.size ≤ k ∧ ¬ X k ∧ ¬ G k) ∧ (∀ k, G k → w.heap.size ≤ k ∧ ¬ X k) ∧ (∀ k, C k → w.heap.size ≤ k ∧ ¬ X k ∧ ¬ G k ∧ ¬ F k) ∧ (∀ k, X k → k < w'.heap.size) ∧ Below w.heap.size w w' := by
  obtain ⟨F, G, hF, hG, h1, h2, h3, h4⟩ := h
  refine (hcopy hF).mono ?_
  rintro e w' ⟨b, C, rfl, hc, hC, hb⟩
  refine ⟨b, rfl, hb, F, G, C, hkeep hF (Kept.of_below hb fun _ => False) (fun _ _ q => q), HD.keep hG (Kept.of_below hb fun _ => False) (fun _ _ q => q), hc, h1, h2, fun k hk => ?_, fun k hk => Nat.lt_of_lt_of_le (h3 k hk) hb.size, h4.trans (hb.mono h4.size)⟩
  have hk1 := (hC k hk).1
  exact ⟨Nat.le_trans h4.size hk1, fun x => absurd (h3 k x) (by omega), fun g => absurd (HD.old hG k g) (by omega), fun f => absurd (hold hF k f) (by omega)⟩
end
end Go.Proofs.Ythljpfmonienlaa
