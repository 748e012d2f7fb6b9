import Derived.LaidEqlPtr
import Derived.Test.YtkmakdhlaenaoaaGm20
/- Stage 10: the landed leave: a walk ends. -/
namespace Go.Proofs.Ytkmakdhlaenaoaa
set_option maxRecDepth 100000
open Go.RowKit Go.Shelf
/-- 'clear(s)' over one pointer. -/
theorem wpList_clearP {P : Program} {ops : Array Oper} {rest : List Oper} {op : Oper} {a : Act} {w : World} {Q : Exit → Act → World → Prop} (hw : Region.wanted op (yielded ops a.tmps) = true) (x : Operand) (t : TypeId)
    (hop : op.op = .call { callee := .builtin .clear, args := #[x], argTypes := #[t] }) (e : TypeId) (ht : P.underlying t = some (.slice e)) (hv : ∀ w, (zeroValue e).run P w = .ok (.pointer none) w) (b c : Nat)
    (hx : a.eval x = .slice (some ⟨b, 0, none⟩) 1 c) (hc : (w.cell? ⟨b, 0, none⟩).isSome = true) (hf : w.frozen? ⟨b, 0, none⟩ = false) (h : wpList P ops Q rest (a.put op.dst (.tuple #[])) (w.setCell ⟨b, 0, none⟩ (.pointer none))) : wpList P ops Q (op :: rest) a w := by
  have hrun := Lib.run_clear_slice (P := P) w t e op.type (.pointer none) ht hv rfl rfl b 0 1 c Nat.one_pos (fun j hj => by rw [show j = 0 by omega]; exact hc) (fun j hj => by rw [show j = 0 by omega]; exact hf)
  refine BigFrame.wpList_want hw fun K hK => ?_
  unfold Oper.wp execOp
  simp only [hop, resolve, invoke, builtin, Sem.run_bind, Sem.run_pure, Result.andThen_ok, List.map_toArray, List.map_cons, List.map_nil, hx, hrun]
  exact hK _ _ h
theorem Try.infoWK : (Try.prog.info? 135).map (fun i => (i.zero, i.size, i.bytes)) = some (some (.agg #[.int .i64 0]), 1, 8) := by kernel_rfl
theorem OwnC.zero {w : World} {base size : Nat} {e : TypeId} {g n c : Nat} {f : Nat → Value} (h : OwnC w base e size (some ⟨g, 0, none⟩) n c f) (f' : Nat → Value) : OwnC w base e size (some ⟨g, 0, none⟩) 0 c f' := by
  refine ⟨by simp [vals], ?_⟩
  rcases h.2 with ⟨hh, _⟩ | ⟨g', cap, cur, hv, hg, hh, h1, h2, h3, h4⟩
  · cases hh
  · injection hv with a b c'
    exact .inr ⟨g', cap, cur, by rw [a, c'], hg, hh, Nat.zero_le _, h2, h3, by simp [vals]⟩
section
variable {w : World} {p A cA B cB m n : Nat} {V : Option Addr} {cV : Nat} {fl : Nat → Int} {pv nx sz : Nat → Nat} {F : Nat → Prop}
theorem SX.v1 {w : World} {p A cA B cB m n C : Nat} {cV : Nat} {fl : Nat → Int} {pv nx sz : Nat → Nat} {F : Nat → Prop} {x : Nat × Nat} (h : SX w p A cA B cB m n (some ⟨C, 0, none⟩) cV fl pv nx sz (some x) F) : w.cell? ⟨C, 0, none⟩ = some (.pointer (some ⟨x.1, 0, none⟩)) ∧ w.frozen? ⟨C, 0, none⟩ = false := by
  obtain ⟨g, e, h1, _, _, _, h2⟩ := h.v0
  injection e with e
  injection e with e
  subst e
  exact ⟨h1, h2 0⟩
/-- The walks' slice in its field, and the block behind it, turned. -/
theorem SX.setV {wk wk' : Option (Nat × Nat)} {V' : Option Addr} {cV' : Nat} {w' : World} (h : SX w p A cA B cB m n V cV fl pv nx sz wk F) (hV : ∀ g, V' = some ⟨g, 0, none⟩ → F g) (hb : ∀ k, k ≠ p → (∀ g, V' = some ⟨g, 0, none⟩ → k ≠ g) → k < w.heap.size → w'.heap[k]? = w.heap[k]?) (hs : w.heap.size ≤ w'.heap.size)
    (hA : ∀ g, V' = some ⟨g, 0, none⟩ → A ≠ g ∧ B ≠ g)
    (hp : w'.heap[p]? = some (.cells #[.slice (some ⟨A, 0, none⟩) (m + n) cA, .slice (some ⟨B, 0, none⟩) n cB, .slice V' (wkn wk') cV'] 99 (0, 0)))
    (hr : OwnC w' 0 133 1 V' (wkn wk') cV' (wkf wk')) (hw : ∀ x, wk' = some x → w'.heap[x.1]? = some (.cells #[.int .i64 (x.2 : Int)] 135 (0, 0)) ∧ F x.1) : SX w' p A cA B cB m n V' cV' fl pv nx sz wk' F :=
  ⟨hp, h.rowA.block (hb A h.pA.symm (fun g e => (hA g e).1) (h.old A h.mA)), h.rowB.block (hb B h.pB.symm (fun g e => (hA g e).2) (h.old B h.mB)), hr, hw, h.mp, h.mA, h.mB, hV, fun k hk => Nat.lt_of_lt_of_le (h.old k hk) hs, h.pos, h.mpos⟩
end
end Go.Proofs.Ytkmakdhlaenaoaa
/- Stage 10: the landed slots as what they stand for, beside kept blocks; going over a list: behind. -/
namespace Go.Proofs.Ytkmakdhlaenaoaa
set_option maxRecDepth 100000
open Go.RowKit Go.Shelf
attribute [local go_sem] Oper.semAt_some
/-- The landed slots at p stand for s; their links lie at A. -/
def PS (w : World) (p : Nat) (s : Sl) (A : Nat) (wk : Option (Nat × Nat)) (F : Nat → Prop) : Prop := ∃ cA B cB V cV fl pv nx sz, SX w p A cA B cB s.cells s.ls.length V cV fl pv nx sz wk F ∧ SRep s fl pv nx sz
theorem PS.keep {w w' : World} {p : Nat} {s : Sl} {A : Nat} {wk : Option (Nat × Nat)} {F R : Nat → Prop} (h : PS w p s A wk F) (hk : Kept R w w') (hd : ∀ k, F k → ¬ R k) : PS w' p s A wk F := by
  obtain ⟨cA, B, cB, V, cV, fl, pv, nx, sz, hx, hr⟩ := h
  exact ⟨cA, B, cB, V, cV, fl, pv, nx, sz, hx.keep hk hd, hr⟩
theorem PS.old {w : World} {p : Nat} {s : Sl} {A : Nat} {wk : Option (Nat × Nat)} {F : Nat → Prop} (h : PS w p s A wk F) : ∀ k, F k → k < w.heap.size := by
  obtain ⟨cA, B, cB, V, cV, fl, pv, nx, sz, hx, hr⟩ := h
  exact hx.old
/-- .. beside blocks X that are looked after, in blocks from wb on. -/
def SSt (wb : World) (X : Nat → Prop) (W : World) (p : Nat) (s : Sl) (A : Nat) (wk : Option (Nat × Nat)) : Prop :=
  ∃ F, PS W p s A wk F ∧ (∀ k, F k → wb.heap.size ≤ k ∧ ¬ X k) ∧ (∀ k, X k → k < W.heap.size) ∧ Below wb.heap.size wb W
section
variable {wb W W' : World} {X : Nat → Prop} {p : Nat} {s : Sl} {A : Nat} {wk : Option (Nat × Nat)}
theorem SSt.below (h : SSt wb X W p s A wk) : Below wb.heap.size wb W := by
  obtain ⟨_, _, _, _, h⟩ := h
  exact h
theorem SSt.lt (h : SSt wb X W p s A wk) : ∀ k, X k → k < W.heap.size := by
  obtain ⟨_, _, _, h, _⟩ := h
  exact h
/-- Blocks of X, from wb on, and new ones turned. -/
theorem SSt.kept (h : SSt wb X W p s A wk) {R : Nat → Prop} (hk : Kept R W W') (hR : ∀ k, R k → k < W.heap.size → X k ∧ wb.heap.size ≤ k) : SSt wb X W' p s A wk := by
  obtain ⟨F, hp, h1, h2, h3⟩ := h
  refine ⟨F, hp.keep hk fun k hF hr => (h1 k hF).2 (hR k hr (hp.old k hF)).1, h1, fun k hx => Nat.lt_of_lt_of_le (h2 k hx) hk.size, h3.trans ((hk.mono (R' := fun k => R k ∧ k < W.heap.size) fun k hl hr => ⟨hr, hl⟩).below h3.size fun k hr => (hR k hr.1 hr.2).2)⟩
theorem SSt.step (h : SSt wb X W p s A wk) (hb : Below W.heap.size W W') : SSt wb X W' p s A wk := h.kept (Kept.of_below hb fun _ => False) fun _ q => q.elim
theorem SSt.less (h : SSt wb X W p s A wk) {Y : Nat → Prop} (hY : ∀ k, Y k → X k) : SSt wb Y W p s A wk := by
  obtain ⟨F, hp, h1, h2, h3⟩ := h
  exact ⟨F, hp, fun k hF => ⟨(h1 k hF).1, fun y => (h1 k hF).2 (hY k y)⟩, fun k hy => h2 k (hY k hy), h3⟩
/-- New blocks are looked after too. -/
theorem SSt.more (h : SSt wb X W p s A wk) (hb : Below W.heap.size W W') {Y : Nat → Prop} (hY : ∀ k, Y k → W.heap.size ≤ k ∧ k < W'.heap.size) : SSt wb (Or2 X Y) W' p s A wk := by
  obtain ⟨F, hp, h1, h2, h3⟩ := h
  refine ⟨F, hp.keep (Kept.of_below hb fun _ => False) (fun _ _ q => q), fun k hF => ⟨(h1 k hF).1, fun hx => ?_⟩, fun k hx => ?_, h3.trans (hb.mono h3.size)⟩
  · rcases hx with hx | hx
    · exact (h1 k hF).2 hx
    · have := (hY k hx).1
      have := hp.old k hF
      omega
  · rcases hx with hx | hx
    · exact Nat.lt_of_lt_of_le (h2 k hx) hb.size
    · exact (hY k hx).2
theorem SSt.put (h : SSt wb X W p s A wk) {l : Nat} (hl : wb.heap.size ≤ l) (hx : X l) (o : Obj) : SSt wb X (W.putObj l o) p s A wk :=
  h.kept (R := fun k => k = l) (Kept.grownBy (grownBy_putObj' W l o) fun k e => by
    injection e with e
    exact e.symm) fun k e _ => by
    subst e
    exact ⟨hx, hl⟩
/-- The slots themselves turned. -/
theorem SSt.turned {w' : World} {s' : Sl} {A' : Nat} {wk' : Option (Nat × Nat)} {F F' : Nat → Prop} (_hp : PS W p s A wk F) (h1 : ∀ k, F k → wb.heap.size ≤ k ∧ ¬ X k) (h2 : ∀ k, X k → k < W.heap.size) (h3 : Below wb.heap.size wb W) (hp' : PS w' p s' A' wk' F') (hk : Kept F W w') (hF : ∀ k, F' k → F k ∨ (W.heap.size ≤ k ∧ k < w'.heap.size)) :
    SSt wb X w' p s' A' wk' ∧ ∀ k, X k → w'.heap[k]? = W.heap[k]? := by
  refine ⟨⟨F', hp', fun k hf => ?_, fun k hx => Nat.lt_of_lt_of_le (h2 k hx) hk.size, h3.trans (hk.below h3.size fun k hf => (h1 k hf).1)⟩, fun k hx => hk.block k (h2 k hx) fun hf => (h1 k hf).2 hx⟩
  rcases hF k hf with q | ⟨q, _⟩
  · exact h1 k q
  · exact ⟨Nat.le_trans h3.size q, fun hx => by have := h2 k hx; omega⟩
end
/-- How a list is gone over: what is told, the slots ahead of each, the walk's place. -/
structure Walk (L : List Nat) (S : Nat → Sl) (pl : Nat → Nat) (m n o : Nat) : Prop where
  cells : ∀ i, (S i).cells = m
  len : ∀ i, (S i).ls.length = n
  ok : ∀ i, (S i).Ok
  at0 : pl 0 = o
  lt : ∀ i, pl i < m + n
  own : o < m + n
  next : ∀ i x, L[i]? = some x → ∀ fl pv nx sz, SRep (S i) fl pv nx sz → nx (pl i) = x
  last : ∀ fl pv nx sz, SRep (S L.length) fl pv nx sz → nx (pl L.length) = o
  ne : ∀ x, x ∈ L → x < m
  mo : m ≤ o
def nEnc (x : Nat) : Array Value := #[.int .i64 (x : Int)]
section
variable (wb : World) (p : Nat) (L : List Nat) (S : Nat → Sl) (pl : Nat → Nat) (o : Nat)
def WkY (g : Nat × Nat) (X : Nat → Prop) (pre : List Nat) (x : Nat) (W : World) : Prop := pre ++ [x] <+: L ∧ SSt wb X W p (S pre.length) g.1 (some (g.2, x))
def WkA (g : Nat × Nat) (X : Nat → Prop) (pre : List Nat) (W : World) : Prop := SSt wb X W p (S pre.length) g.1 (some (g.2, pl pre.length))
def BhZ (A b bp bw : Nat) (X : Nat → Prop) (W : World) : Prop := SSt wb (Or2 X (fun k => k = bp ∨ k = bw)) W p (S 0) A (some (b, o)) ∧ (∀ k, (k = bp ∨ k = bw) → ¬ X k) ∧
  W.heap[bp]? = some (.cells #[.pointer (some ⟨p, 0, none⟩)] 61 (0, 0)) ∧ W.heap[bw]? = some (.cells #[.pointer (some ⟨b, 0, none⟩)] 133 (0, 0))
def BhD (A b : Nat) (X : Nat → Prop) (xs : List Nat) (W : World) : Prop := xs = L ∧ SSt wb X W p (S L.length) A (some (b, o))
def BhS (A b : Nat) (X : Nat → Prop) (pre : List Nat) (W : World) : Prop := pre <+: L ∧ ∃ a, SSt wb X W p (S pre.length) A (some (b, a))
end
end Go.Proofs.Ytkmakdhlaenaoaa
