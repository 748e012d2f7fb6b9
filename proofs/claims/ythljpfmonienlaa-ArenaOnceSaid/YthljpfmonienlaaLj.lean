/- Stage 9: three arenas side by side: one, another one, and a copy. -/
import Derived.Test.YthljpfmonienlaaTwo
import Derived.Test.YthljpfmonienlaaLi
namespace Go.Proofs.Ythljpfmonienlaa
set_option maxRecDepth 100000
open Go.RowKit Go.Shelf
/-- At p stands s, at q stands t, at b stands r, in blocks from w on that have nothing in common with one another, nor with X. -/
def Tri (PA QA : World → Nat → Ar → (Nat → Prop) → Prop) (w : World) (X : Nat → Prop) (W : World) (p q b : Nat) (s t r : Ar) : Prop :=
  ∃ F G C, PA W p s F ∧ QA W q t G ∧ PA W b r C ∧ (∀ k, F k → w.heap.size ≤ k ∧ ¬ X k ∧ ¬ G k) ∧ (∀ k, G k → w.heap.size ≤ k ∧ ¬ X k) ∧ (∀ k, C k → w.heap.size ≤ k ∧ ¬ X k ∧ ¬ G k ∧ ¬ F k) ∧ (∀ k, X k → k < W.heap.size) ∧ Below w.heap.size w W
section
variable {PA QA : World → Nat → Ar → (Nat → Prop) → Prop} {ft ff fc gt gf gc : FuncId} {w W : World} {X : Nat → Prop} {p q b : Nat} {s t r : Ar}
theorem Tri.swap (h : Tri PA QA w X W p q b s t r) : Tri PA QA w X W b q p r t s := by
  obtain ⟨F, G, C, hF, hG, hC, h1, h2, h3, h4, h5⟩ := h
  exact ⟨C, G, F, hC, hG, hF, fun k c => ⟨(h3 k c).1, (h3 k c).2.1, (h3 k c).2.2.1⟩, h2, fun k f => ⟨(h1 k f).1, (h1 k f).2.1, (h1 k f).2.2, fun c => (h3 k c).2.2.2 f⟩, h4, h5⟩
theorem Tri.two (h : Tri PA QA w X W p q b s t r) : Two PA QA w X W p q s t := by
  obtain ⟨F, G, C, hF, hG, hC, h1, h2, h3, h4, h5⟩ := h
  exact ⟨F, G, hF, hG, h1, h2, h4, h5⟩
theorem Tri.ext (HC : ArC PA ft ff fc) (HD : ArC QA gt gf gc) {F F' G C : Nat → Prop} {w' : World} {s' : Ar} (hG : QA W q t G) (hC : PA W b r C) (h1 : ∀ k, F k → w.heap.size ≤ k ∧ ¬ X k ∧ ¬ G k) (h2 : ∀ k, G k → w.heap.size ≤ k ∧ ¬ X k) (h3 : ∀ k, C k → w.heap.size ≤ k ∧ ¬ X k ∧ ¬ G k ∧ ¬ F k) (hX : ∀ k, X k → k < W.heap.size) (hb : Below w.heap.size w W) (hp : PA w' p s' F') (he : Ext F F' W w') :
    Tri PA QA w X w' p q b s' t r ∧ ∀ k, X k → w'.heap[k]? = W.heap[k]? := by
  refine ⟨⟨F', G, C, hp, HD.keep hG he.kept fun k g f => (h1 k f).2.2 g, HC.keep hC he.kept fun k c f => (h3 k c).2.2.2 f, fun k hk => ?_, h2, fun k c => ⟨(h3 k c).1, (h3 k c).2.1, (h3 k c).2.2.1, fun hk => ?_⟩, fun k hk => Nat.lt_of_lt_of_le (hX k hk) he.kept.size, hb.trans (he.kept.below hb.size fun k hk => (h1 k hk).1)⟩, fun k hk => he.kept.block k (hX k hk) fun hf => (h1 k hf).2.1 hk⟩
  · rcases he.sub k hk with q | ⟨q, _⟩
    · exact h1 k q
    · exact ⟨Nat.le_trans hb.size q, fun hx => absurd (hX k hx) (by omega), fun hg => absurd (HD.old hG k hg) (by omega)⟩
  · rcases he.sub k hk with q | ⟨q, _⟩
    · exact (h3 k c).2.2.2 q
    · exact absurd (HC.old hC k c) (by omega)
theorem Tri.take (h : Tri PA QA w X W p q b s t r) (HC : ArC PA ft ff fc) (HD : ArC QA gt gf gc) (hs : s.Ok) (hn : s.has.length ≤ 65536) (hS : s.serial ≤ 4611686018427387904) :
    Calls Try.prog ft #[.pointer (some ⟨p, 0, none⟩)] W fun e w' => e = .returned (.tuple #[.agg s.tkH, .int .i64 s.tkE]) ∧ Tri PA QA w X w' p q b s.tk t r ∧ ∀ k, X k → w'.heap[k]? = W.heap[k]? := by
  obtain ⟨F, G, C, hF, hG, hC, h1, h2, h3, h4, h5⟩ := h
  refine (HC.take hF hs hn hS).mono ?_
  rintro e w' ⟨rfl, F', hp, he⟩
  exact ⟨rfl, Tri.ext HC HD hG hC h1 h2 h3 h4 h5 hp he⟩
theorem Tri.free (h : Tri PA QA w X W p q b s t r) (HC : ArC PA ft ff fc) (HD : ArC QA gt gf gc) (hs : s.Ok) (hn : s.has.length ≤ 65536) (i : Int) (k : Nat) :
    Calls Try.prog ff #[.pointer (some ⟨p, 0, none⟩), .agg #[.int .i64 i, .int .u64 (k : Int)]] W fun e w' => e = .returned (.int .i64 (s.frE i k)) ∧ Tri PA QA w X w' p q b (s.fr i k) t r ∧ ∀ k, X k → w'.heap[k]? = W.heap[k]? := by
  obtain ⟨F, G, C, hF, hG, hC, h1, h2, h3, h4, h5⟩ := h
  refine (HC.free hF hs hn i k).mono ?_
  rintro e w' ⟨rfl, F', hp, he⟩
  exact ⟨rfl, Tri.ext HC HD hG hC h1 h2 h3 h4 h5 hp he⟩
/-- A copy of the first one, of new blocks. -/
theorem Two.tri (h : Two PA QA w X W p q s t) (HC : ArC PA ft ff fc) (HD : ArC QA gt gf gc) (hcopy : ∀ {w : World} {p : Nat} {F : Nat → Prop}, PA w p s F → Calls Try.prog fc #[.pointer (some ⟨p, 0, none⟩)] w fun e w' => ∃ b F', e = .returned (.pointer (some ⟨b, 0, none⟩)) ∧ PA w' b s F' ∧ (∀ k, F' k → w.heap.size ≤ k ∧ k < w'.heap.size) ∧ Below w.heap.size w w') :
    Calls Try.prog fc #[.pointer (some ⟨p, 0, none⟩)] W fun e w' => ∃ b, e = .returned (.pointer (some ⟨b, 0, none⟩)) ∧ Tri PA QA w X w' p q b s t s ∧ Below W.heap.size W w' := by
  obtain ⟨F, G, hF, hG, h1, h2, h3, h4⟩ := h
  refine (hcopy hF).mono ?_
  rintro e w' ⟨b, C, rfl, hc, hC, hb⟩
  refine ⟨b, rfl, ⟨F, G, C, HC.keep hF (Kept.of_below hb fun _ => False) (fun _ _ q => q), HD.keep hG (Kept.of_below hb fun _ => False) (fun _ _ q => q), hc, h1, h2, fun k hk => ?_, fun k hk => Nat.lt_of_lt_of_le (h3 k hk) hb.size, h4.trans (hb.mono h4.size)⟩, hb⟩
  have hk1 := (hC k hk).1
  exact ⟨Nat.le_trans h4.size hk1, fun x => absurd (h3 k x) (by omega), fun g => absurd (HD.old hG k g) (by omega), fun f => absurd (HC.old hF k f) (by omega)⟩
/-- The second one is gone on with by a copy, that may have what it has. -/
theorem Two.copyR (h : Two PA QA w X W p q s t) (HC : ArC PA ft ff fc) (HD : ArC QA gt gf gc) (ht : t.Ok) (hn : t.has.length ≤ 65536) :
    Calls Try.prog gc #[.pointer (some ⟨q, 0, none⟩)] W fun e w' => ∃ b, e = .returned (.pointer (some ⟨b, 0, none⟩)) ∧ Two PA QA w X w' p b s t ∧ Below W.heap.size W w' := by
  obtain ⟨F, G, hF, hG, h1, h2, h3, h4⟩ := h
  refine (HD.copy hG ht hn).mono ?_
  rintro e w' ⟨b, G', rfl, hg, hsub, hb⟩
  refine ⟨b, rfl, ⟨F, G', HC.keep hF (Kept.of_below hb fun _ => False) (fun _ _ q => q), hg, fun k f => ⟨(h1 k f).1, (h1 k f).2.1, fun hk => ?_⟩, fun k hk => ?_, fun k hk => Nat.lt_of_lt_of_le (h3 k hk) hb.size, h4.trans (hb.mono h4.size)⟩, hb⟩
  · rcases hsub k hk with q | ⟨q, _⟩
    · exact (h1 k f).2.2 q
    · exact absurd (HC.old hF k f) (by omega)
  · rcases hsub k hk with q | ⟨q, _⟩
    · exact h2 k q
    · exact ⟨Nat.le_trans h4.size q, fun hx => absurd (h3 k hx) (by omega)⟩
end
theorem getD_no {l : Array Bool} {i : Nat} (h : l.getD i true = false) : l.getD i false = false := by
  rw [Array.getD_eq_getD_getElem?] at h ⊢
  cases e : l[i]? with
  | none => rfl
  | some b => rw [e] at h; exact h
/-- Freed, if so. -/
def Ar.frIf (b : Bool) (s : Ar) (i : Int) (k : Nat) : Ar := if b = true then s.fr i k else s
theorem Ar.hat_eq (s : Ar) (i : Int) : ∃ (x : Int) (y : Nat), s.hat i = #[.int .i64 x, .int .u64 (y : Int)] := by
  unfold Ar.hat
  split
  · exact ⟨_, _, rfl⟩
  · exact ⟨0, 0, rfl⟩
theorem Ar.tkH_eq (s : Ar) : ∃ (x y : Int), s.tkH = #[.int .i64 x, .int .u64 y] := by
  unfold Ar.tkH
  split
  · exact ⟨_, _, rfl⟩
  · exact ⟨_, _, rfl⟩
end Go.Proofs.Ythljpfmonienlaa
