/- Stage 10: the landed slots as what they stand for, beside kept blocks; going over a list: behind. -/
import Derived.Test.YthlnhkkjpjbmeaaVh
namespace Go.Proofs.Ythlnhkkjpjbmeaa
set_option maxRecDepth 100000
open Go.RowKit Go.Shelf
attribute [local go_sem] Oper.semAt_some
/-- The landed slots at p stand for s; their links lie at A. -/
def PS (w : World) (p : Nat) (s : Sl) (A : Nat) (wk : Option (Nat × Nat)) (F : Nat → Prop) : Prop := ∃ cA B cB V cV fl pv nx sz, SX w p A cA B cB s.cells s.ls.length V cV fl pv nx sz wk F ∧ SRep s fl pv nx sz
theorem PS.keep {w w' : World} {p : Nat} {s : Sl} {A : Nat} {wk : Option (Nat × Nat)} {F R : Nat → Prop} (h : PS w p s A wk F) (hk : Kept R w w') (hd : ∀ k, F k → ¬ R k) : PS w' p s A wk F := by
  obtain ⟨cA, B, cB, V, cV, fl, pv, nx, sz, hx, hr⟩ := h
  exact ⟨cA, B, cB, V, cV, fl, pv, nx, sz, hx.keep hk hd, hr⟩
theorem PS.old {w : World} {p : Nat} {s : Sl} {A : Nat} {wk : Option (Nat × Nat)} {F : Nat → Prop} (h : PS w p s A wk F) : ∀ k, F k → k < w.heap.size := by
  obtain ⟨cA, B, cB, V, cV, fl, pv, nx, sz, hx, hr⟩ := h
  exact hx.old
/-- .. beside blocks X that are looked after, in blocks from wb on. -/
def SSt (wb : World) (X : Nat → Prop) (W : World) (p : Nat) (s : Sl) (A : Nat) (wk : Option (Nat × Nat)) : Prop :=
  ∃ F, PS W p s A wk F ∧ (∀ k, F k → wb.heap.size ≤ k ∧ ¬ X k) ∧ (∀ k, X k → k < W.heap.size) ∧ Below wb.heap.size wb W
section
variable {wb W W' : World} {X : Nat → Prop} {p : Nat} {s : Sl} {A : Nat} {wk : Option (Nat × Nat)}
theorem SSt.below (h : SSt wb X W p s A wk) : Below wb.heap.size wb W := by
  obtain ⟨_, _, _, _, h⟩ := h
  exact h
theorem SSt.lt (h : SSt wb X W p s A wk) : ∀ k, X k → k < W.heap.size := by
  obtain ⟨_, _, _, h, _⟩ := h
  exact h
/-- Blocks of X, from wb on, and new ones turned. -/
theorem SSt.kept (h : SSt wb X W p s A wk) {R : Nat → Prop} (hk : Kept R W W') (hR : ∀ k, R k → k < W.heap.size → X k ∧ wb.heap.size ≤ k) : SSt wb X W' p s A wk := by
  obtain ⟨F, hp, h1, h2, h3⟩ := h
  refine ⟨F, hp.keep hk fun k hF hr => (h1 k hF).2 (hR k hr (hp.old k hF)).1, h1, fun k hx => Nat.lt_of_lt_of_le (h2 k hx) hk.size, h3.trans ((hk.mono (R' := fun k => R k ∧ k < W.heap.size) fun k hl hr => ⟨hr, hl⟩).below h3.size fun k hr => (hR k hr.1 hr.2).2)⟩
theorem SSt.step (h : SSt wb X W p s A wk) (hb : Below W.heap.size W W') : SSt wb X W' p s A wk := h.kept (Kept.of_below hb fun _ => False) fun _ q => q.elim
theorem SSt.less (h : SSt wb X W p s A wk) {Y : Nat → Prop} (hY : ∀ k, Y k → X k) : SSt wb Y W p s A wk := by
  obtain ⟨F, hp, h1, h2, h3⟩ := h
  exact ⟨F, hp, fun k hF => ⟨(h1 k hF).1, fun y => (h1 k hF).2 (hY k y)⟩, fun k hy => h2 k (hY k hy), h3⟩
/-- New blocks are looked after too. -/
theorem SSt.more (h : SSt wb X W p s A wk) (hb : Below W.heap.size W W') {Y : Nat → Prop} (hY : ∀ k, Y k → W.heap.size ≤ k ∧ k < W'.heap.size) : SSt wb (Or2 X Y) W' p s A wk := by
  obtain ⟨F, hp, h1, h2, h3⟩ := h
  refine ⟨F, hp.keep (Kept.of_below hb fun _ => False) (fun _ _ q => q), fun k hF => ⟨(h1 k hF).1, fun hx => ?_⟩, fun k hx => ?_, h3.trans (hb.mono h3.size)⟩
  · rcases hx with hx | hx
    · exact (h1 k hF).2 hx
    · have := (hY k hx).1
      have := hp.old k hF
      omega
  · rcases hx with hx | hx
    · exact Nat.lt_of_lt_of_le (h2 k hx) hb.size
    · exact (hY k hx).2
theorem SSt.put (h : SSt wb X W p s A wk) {l : Nat} (hl : wb.heap.size ≤ l) (hx : X l) (o : Obj) : SSt wb X (W.putObj l o) p s A wk :=
  h.kept (R := fun k => k = l) (Kept.grownBy (grownBy_putObj' W l o) fun k e => by
    injection e with e
    exact e.symm) fun k e _ => by
    subst e
    exact ⟨hx, hl⟩
/-- The slots themselves turned. -/
theorem SSt.turned {w' : World} {s' : Sl} {A' : Nat} {wk' : Option (Nat × Nat)} {F F' : Nat → Prop} (_hp : PS W p s A wk F) (h1 : ∀ k, F k → wb.heap.size ≤ k ∧ ¬ X k) (h2 : ∀ k, X k → k < W.heap.size) (h3 : Below wb.heap.size wb W) (hp' : PS w' p s' A' wk' F') (hk : Kept F W w') (hF : ∀ k, F' k → F k ∨ (W.heap.size ≤ k ∧ k < w'.heap.size)) :
    SSt wb X w' p s' A' wk' ∧ ∀ k, X k → w'.heap[k]? = W.heap[k]? := by
  refine ⟨⟨F', hp', fun k hf => ?_, fun k hx => Nat.lt_of_lt_of_le (h2 k hx) hk.size, h3.trans (hk.below h3.size fun k hf => (h1 k hf).1)⟩, fun k hx => hk.block k (h2 k hx) fun hf => (h1 k hf).2 hx⟩
  rcases hF k hf with q | ⟨q, _⟩
  · exact h1 k q
  · exact ⟨Nat.le_trans h3.size q, fun hx => by have := h2 k hx; omega⟩
end
/-- How a list is gone over: what is told, the slots ahead of each, the walk's place. -/
structure Walk (L : List Nat) (S : Nat → Sl) (pl : Nat → Nat) (m n o : Nat) : Prop where
  cells : ∀ i, (S i).cells = m
  len : ∀ i, (S i).ls.length = n
  ok : ∀ i, (S i).Ok
  at0 : pl 0 = o
  lt : ∀ i, pl i < m + n
  own : o < m + n
  next : ∀ i x, L[i]? = some x → ∀ fl pv nx sz, SRep (S i) fl pv nx sz → nx (pl i) = x
  last : ∀ fl pv nx sz, SRep (S L.length) fl pv nx sz → nx (pl L.length) = o
  ne : ∀ x, x ∈ L → x < m
  mo : m ≤ o
def nEnc (x : Nat) : Array Value := #[.int .i64 (x : Int)]
section
variable (wb : World) (p : Nat) (L : List Nat) (S : Nat → Sl) (pl : Nat → Nat) (o : Nat)
def WkY (g : Nat × Nat) (X : Nat → Prop) (pre : List Nat) (x : Nat) (W : World) : Prop := pre ++ [x] <+: L ∧ SSt wb X W p (S pre.length) g.1 (some (g.2, x))
def WkA (g : Nat × Nat) (X : Nat → Prop) (pre : List Nat) (W : World) : Prop := SSt wb X W p (S pre.length) g.1 (some (g.2, pl pre.length))
def BhZ (A b bp bw : Nat) (X : Nat → Prop) (W : World) : Prop := SSt wb (Or2 X (fun k => k = bp ∨ k = bw)) W p (S 0) A (some (b, o)) ∧ (∀ k, (k = bp ∨ k = bw) → ¬ X k) ∧
  W.heap[bp]? = some (.cells #[.pointer (some ⟨p, 0, none⟩)] 24 (0, 0)) ∧ W.heap[bw]? = some (.cells #[.pointer (some ⟨b, 0, none⟩)] 68 (0, 0))
def BhD (A b : Nat) (X : Nat → Prop) (xs : List Nat) (W : World) : Prop := xs = L ∧ SSt wb X W p (S L.length) A (some (b, o))
def BhS (A b : Nat) (X : Nat → Prop) (pre : List Nat) (W : World) : Prop := pre <+: L ∧ ∃ a, SSt wb X W p (S pre.length) A (some (b, a))
end
theorem pbehind_any (w : World) (pa qa : Option Addr) : Calls Try.prog 35 #[.pointer pa, .pointer qa] w fun e w' => e = .returned (.func (.func 38) #[] #[.pointer (some ⟨w.heap.size, 0, none⟩), .pointer (some ⟨w.heap.size + 1, 0, none⟩)]) ∧ w' = (w.alloc (.cells #[.pointer pa] 24)).alloc (.cells #[.pointer qa] 68) := by
  go_enter Try.func35, Try.ntmps35
  go_wp2_with fail
  go_ret
  exact ⟨by simp, rfl⟩
theorem pof_any (w : World) (pa : Option Addr) (l : Int) : Calls Try.prog 19 #[.pointer pa, .int .i64 l] w fun e w' => e = .returned (.func (.func 33) #[] #[.pointer (some ⟨w.heap.size, 0, none⟩), .pointer (some ⟨w.heap.size + 1, 0, none⟩)]) ∧ w' = (w.alloc (.cells #[.pointer pa] 24)).alloc (.cells #[.int .i64 l] 3) := by
  go_enter Try.func19, Try.ntmps19
  go_wp2_with fail
  go_ret
  exact ⟨by simp, rfl⟩
end Go.Proofs.Ythlnhkkjpjbmeaa
