/- What is kept of a heap but for some blocks; cells that lie in some blocks: words for objects with a footprint, over any program. -/
import Derived.Test.YtdeghjhlbhpopaaMo
import Derived.Test.YtdeghjhlbhpopaaVals
namespace Go.Proofs.Ytdeghjhlbhpopaa
set_option maxRecDepth 100000
open Go.RowKit
/-- All old blocks are kept, but those of R. -/
structure Kept (R : Nat → Prop) (w w' : World) : Prop where
  os : w'.os = w.os
  tape : w'.tape = w.tape
  output : w'.output = w.output
  size : w.heap.size ≤ w'.heap.size
  block : ∀ k, k < w.heap.size → ¬ R k → w'.heap[k]? = w.heap[k]?
theorem Kept.refl (R : Nat → Prop) (w : World) : Kept R w w := ⟨rfl, rfl, rfl, Nat.le_refl _, fun _ _ _ => rfl⟩
theorem Kept.of_below {w w' : World} (h : Below w.heap.size w w') (R : Nat → Prop) : Kept R w w' := ⟨h.os, h.tape, h.output, h.size, fun k hk _ => h.block k hk⟩
theorem Kept.below {R : Nat → Prop} {w w' : World} (h : Kept R w w') {B : Nat} (hB : B ≤ w.heap.size) (hR : ∀ k, R k → B ≤ k) : Below B w w' :=
  ⟨h.os, h.tape, h.output, h.size, fun k hk => h.block k (Nat.lt_of_lt_of_le hk hB) fun hr => Nat.not_lt.2 (hR k hr) hk⟩
theorem Kept.mono {R R' : Nat → Prop} {w w' : World} (h : Kept R w w') (hR : ∀ k, k < w.heap.size → R k → R' k) : Kept R' w w' := ⟨h.os, h.tape, h.output, h.size, fun k hk hn => h.block k hk fun hr => hn (hR k hk hr)⟩
theorem Kept.trans {R R' : Nat → Prop} {a b c : World} (h : Kept R a b) (k : Kept R' b c) (hR : ∀ j, j < a.heap.size → R' j → R j) : Kept R a c :=
  ⟨k.os.trans h.os, k.tape.trans h.tape, k.output.trans h.output, Nat.le_trans h.size k.size, fun i hi hn => (k.block i (Nat.lt_of_lt_of_le hi h.size) fun hr => hn (hR i hi hr)).trans (h.block i hi hn)⟩
theorem Kept.step {R : Nat → Prop} {a b c : World} (h : Kept R a b) (k : Below b.heap.size b c) : Kept R a c := h.trans (Kept.of_below k (fun _ => False)) fun _ _ q => q.elim
theorem kept_cell_block {w w' : World} {p : Addr} (h : w'.heap[p.block]? = w.heap[p.block]?) : w'.cell? p = w.cell? p := by
  simp only [World.cell?, h]
theorem Kept.cell {R : Nat → Prop} {w w' : World} (h : Kept R w w') {p : Addr} (hp : p.block < w.heap.size) (hn : ¬ R p.block) : w'.cell? p = w.cell? p := kept_cell_block (h.block _ hp hn)
/-- A store into a block of R. -/
theorem Kept.setCell {R : Nat → Prop} {w w' : World} (h : Kept R w w') {p : Addr} (hp : R p.block ∨ w.heap.size ≤ p.block) (v : Value) : Kept R w (w'.setCell p v) := by
  have b : Below 0 w' (w'.setCell p v) := (Below.refl 0 w').setCell (Nat.zero_le _) v
  refine ⟨b.os.trans h.os, b.tape.trans h.tape, b.output.trans h.output, Nat.le_trans h.size b.size, fun k hk hn => ?_⟩
  have hne : k ≠ p.block := fun e => by
    subst e
    rcases hp with q | q
    · exact hn q
    · omega
  exact (Below.heap_setCell w' p v k hne).trans (h.block k hk hn)
theorem Kept.alloc {R : Nat → Prop} {w w' : World} (h : Kept R w w') (o : Obj) : Kept R w (w'.alloc o) := h.step (below_alloc w' o)
theorem Kept.drew {R : Nat → Prop} {w w' : World} (h : Kept R w w') : Kept R w w'.drew :=
  let b : Below 0 w' w'.drew := (Below.refl 0 w').drew
  ⟨b.os.trans h.os, b.tape.trans h.tape, b.output.trans h.output, h.size, h.block⟩
theorem Kept.setRow {R : Nat → Prop} {w w' : World} (h : Kept R w w') {g : Nat} (hg : R g ∨ w.heap.size ≤ g) (new : Array Value) : Kept R w (w'.setRow g new) := by
  have b : Below 0 w' (w'.setRow g new) := below_setRow (Below.refl 0 w') (Nat.zero_le _) new
  refine ⟨b.os.trans h.os, b.tape.trans h.tape, b.output.trans h.output, Nat.le_trans h.size b.size, fun k hk hn => ?_⟩
  have hne : k ≠ g := fun e => by
    subst e
    rcases hg with q | q
    · exact hn q
    · omega
  exact (setRow_other w' g k new hne).trans (h.block k hk hn)
/-- Cells that read as f, in a block of G; of nothing the address is not asked. -/
def RdG (w : World) (G : Nat → Prop) (A : Option Addr) (m : Nat) (f : Nat → Value) : Prop :=
  m = 0 ∨ ∃ b off, A = some ⟨b, off, none⟩ ∧ G b ∧ b < w.heap.size ∧ ∀ k, k < m → w.cell? ⟨b, off + k, none⟩ = some (f k)
theorem RdG.keep {R G : Nat → Prop} {w w' : World} {A : Option Addr} {m : Nat} {f : Nat → Value} (h : RdG w G A m f) (hk : Kept R w w') (hd : ∀ k, G k → ¬ R k) : RdG w' G A m f := by
  rcases h with h | ⟨b, off, e, h1, h2, h3⟩
  · exact .inl h
  · exact .inr ⟨b, off, e, h1, Nat.lt_of_lt_of_le h2 hk.size, fun k q => (hk.cell (p := ⟨b, off + k, none⟩) h2 (hd b h1)).trans (h3 k q)⟩
theorem RdG.mono {G G' : Nat → Prop} {w : World} {A : Option Addr} {m : Nat} {f : Nat → Value} (h : RdG w G A m f) (hG : ∀ k, G k → G' k) : RdG w G' A m f := by
  rcases h with h | ⟨b, off, e, h1, h2, h3⟩
  · exact .inl h
  · exact .inr ⟨b, off, e, hG b h1, h2, h3⟩
theorem RdG.same {G : Nat → Prop} {w : World} {A : Option Addr} {m : Nat} {f g : Nat → Value} (h : RdG w G A m f) (hg : ∀ k, k < m → g k = f k) : RdG w G A m g := by
  rcases h with h | ⟨b, off, e, h1, h2, h3⟩
  · exact .inl h
  · exact .inr ⟨b, off, e, h1, h2, fun k hk => by rw [hg k hk]; exact h3 k hk⟩
theorem RdG.less {G : Nat → Prop} {w : World} {A : Option Addr} {m m' : Nat} {f : Nat → Value} (h : RdG w G A m f) (hm : m' ≤ m) : RdG w G A m' f := by
  rcases h with h | ⟨b, off, e, h1, h2, h3⟩
  · exact .inl (by omega)
  · exact .inr ⟨b, off, e, h1, h2, fun k hk => h3 k (by omega)⟩
theorem RdG.rdc {G : Nat → Prop} {w : World} {A : Option Addr} {m : Nat} {f : Nat → Value} (h : RdG w G A m f) : RdC w w.heap.size A m f := by
  rcases h with h | ⟨b, off, e, _, h2, h3⟩
  · exact .inl h
  · exact .inr ⟨b, off, e, h2, h3⟩
theorem OwnC.rdg {w : World} {base : Nat} {e : TypeId} {A : Option Addr} {n c : Nat} {f : Nat → Value} (h : OwnC w base e 1 A n c f) {G : Nat → Prop} (hG : ∀ k, base ≤ k → k < w.heap.size → G k) : RdG w G A n f := by
  rcases Nat.eq_zero_or_pos n with h0 | h0
  · exact .inl h0
  · obtain ⟨g, rfl, hb, hlt, hc, _⟩ := h.lies h0
    exact .inr ⟨g, 0, rfl, hG g hb hlt, hlt, fun k hk => by rw [Nat.zero_add]; exact hc k (by omega)⟩
/-- A struct in a cell and a value, as results. -/
theorem results_rowa {P : Program} {fn : Func} {p a : Tmp} {ty : TypeId} (h : fn.results = #[.cell p ty, .tmp a]) (tmps : Array Value) (w : World) (g : Nat) (t : TypeId) (cs : Array Value) (fr : Nat × Nat) (d : TypeDesc)
    (hp : tmps.getD p undef = .pointer (some ⟨g, 0, none⟩)) (hg : w.heap[g]? = some (.cells cs t fr))
    (hu : P.underlying ty = some d) (hd : (match d with | .struct _ | .array _ _ => true | _ => false) = true) (hi : (P.info? ty).map (·.size) = some cs.size) :
    (results fn tmps).run P w = .ok (.tuple #[.agg cs, tmps.getD a undef]) w := by
  have hp' : tmps[p]?.getD undef = .pointer (some ⟨g, 0, none⟩) := by simpa using hp
  simp [results, h, hp', asAddr, run_loadVar_row w g t ty cs fr d hg hu hd hi]
end Go.Proofs.Ytdeghjhlbhpopaa
