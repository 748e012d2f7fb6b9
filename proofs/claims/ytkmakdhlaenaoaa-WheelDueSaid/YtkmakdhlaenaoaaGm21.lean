import Derived.Test.YtkmakdhlaenaoaaGm2
import Derived.Test.YtkmakdhlaenaoaaGm20
import Derived.Test.YtkmakdhlaenaoaaGm9
import Derived.Test.YtkmakdhlaenaoaaGm15
import Derived.Test.YtkmakdhlaenaoaaGm6
import Derived.Test.YtkmakdhlaenaoaaGm3
/- Stage 10: the landed slots in memory, as fields; the functions that only read. -/
namespace Go.Proofs.Ytkmakdhlaenaoaa
set_option maxRecDepth 100000
open Go.RowKit
theorem OwnC.keepAny {w w' : World} {base size : Nat} {e : TypeId} {A : Option Addr} {n c : Nat} {f : Nat → Value} (h : OwnC w base e size A n c f) (hw : ∀ g, A = some ⟨g, 0, none⟩ → w'.heap[g]? = w.heap[g]?) : OwnC w' base e size A n c f := by
  refine ⟨h.1, ?_⟩
  rcases h.2 with hh | ⟨g, cap, cur, hv, hg, hh, r⟩
  · exact .inl hh
  · injection hv with h1 h2 h3
    exact .inr ⟨g, cap, cur, by rw [h1, h3], hg, (hw g h1).trans hh, r⟩
theorem OwnC.ltA {w : World} {base size : Nat} {e : TypeId} {g n c : Nat} {f : Nat → Value} (h : OwnC w base e size (some ⟨g, 0, none⟩) n c f) : g < w.heap.size := by
  rcases h.2 with ⟨hh, _⟩ | ⟨g', cap, cur, hv, _, hh, _⟩
  · cases hh
  · injection hv with h1 _ _
    injection h1 with h1
    injection h1 with h1
    subst h1
    exact lt_heap hh
/-- Rows of two types lie apart. -/
theorem OwnC.apart {w : World} {base base' size size' : Nat} {e e' : TypeId} {g g' n n' c c' : Nat} {f f' : Nat → Value} (h : OwnC w base e size (some ⟨g, 0, none⟩) n c f) (h' : OwnC w base' e' size' (some ⟨g', 0, none⟩) n' c' f') (hte : e' ≠ e) : g' ≠ g := by
  rcases h'.2 with ⟨hh, _⟩ | ⟨g2, cap, cur, hv, _, hh, _⟩
  · cases hh
  · injection hv with h1 _ _
    injection h1 with h1
    injection h1 with h1
    subst h1
    exact h.ne hh hte
def lcell (fl : Nat → Int) (pv nx : Nat → Nat) (j : Nat) : Value := if j % 3 = 0 then .int .i64 (fl (j / 3)) else if j % 3 = 1 then .int .i64 (pv (j / 3) : Int) else .int .i64 (nx (j / 3) : Int)
theorem lcell_one (fl : Nat → Int) (pv nx : Nat → Nat) (j : Nat) : (lcell fl pv nx j).oneCell' = true := by
  unfold lcell
  split
  · rfl
  · split <;> rfl
theorem lcell_0 (fl : Nat → Int) (pv nx : Nat → Nat) (j : Nat) : lcell fl pv nx (j * 3) = .int .i64 (fl j) := by
  unfold lcell
  rw [if_pos (by omega), show j * 3 / 3 = j by omega]
theorem lcell_1 (fl : Nat → Int) (pv nx : Nat → Nat) (j : Nat) : lcell fl pv nx (j * 3 + 1) = .int .i64 (pv j : Int) := by
  unfold lcell
  rw [if_neg (by omega), if_pos (by omega), show (j * 3 + 1) / 3 = j by omega]
theorem lcell_2 (fl : Nat → Int) (pv nx : Nat → Nat) (j : Nat) : lcell fl pv nx (j * 3 + 2) = .int .i64 (nx j : Int) := by
  unfold lcell
  rw [if_neg (by omega), if_neg (by omega), show (j * 3 + 2) / 3 = j by omega]
/-- The walks that go on: none, or one, at a block, at a place. -/
def wkn : Option (Nat × Nat) → Nat
  | none => 0
  | some _ => 1
def wkf : Option (Nat × Nat) → Nat → Value
  | none, _ => .pointer none
  | some x, _ => .pointer (some ⟨x.1, 0, none⟩)
/-- The landed slots at a block, as fields. -/
structure SX (w : World) (p A cA B cB m n : Nat) (V : Option Addr) (cV : Nat) (fl : Nat → Int) (pv nx sz : Nat → Nat) (wk : Option (Nat × Nat)) (F : Nat → Prop) : Prop where
  blk : w.heap[p]? = some (.cells #[.slice (some ⟨A, 0, none⟩) (m + n) cA, .slice (some ⟨B, 0, none⟩) n cB, .slice V (wkn wk) cV] 99 (0, 0))
  rowA : OwnC w 0 101 3 (some ⟨A, 0, none⟩) (m + n) cA (lcell fl pv nx)
  rowB : OwnC w 0 3 1 (some ⟨B, 0, none⟩) n cB (fun k => .int .i64 (sz k : Int))
  rowV : OwnC w 0 133 1 V (wkn wk) cV (wkf wk)
  wlk : ∀ x, wk = some x → w.heap[x.1]? = some (.cells #[.int .i64 (x.2 : Int)] 135 (0, 0)) ∧ F x.1
  mp : F p
  mA : F A
  mB : F B
  mV : ∀ g, V = some ⟨g, 0, none⟩ → F g
  old : ∀ k, F k → k < w.heap.size
  pos : 0 < n
  mpos : 0 < m
section
variable {w w' : World} {p A cA B cB m n : Nat} {V : Option Addr} {cV : Nat} {fl : Nat → Int} {pv nx sz : Nat → Nat} {wk : Option (Nat × Nat)} {F : Nat → Prop}
theorem SX.keep {R : Nat → Prop} (h : SX w p A cA B cB m n V cV fl pv nx sz wk F) (hk : Kept R w w') (hd : ∀ k, F k → ¬ R k) : SX w' p A cA B cB m n V cV fl pv nx sz wk F :=
  have hb : ∀ k, F k → w'.heap[k]? = w.heap[k]? := fun k hF => hk.block k (h.old k hF) (hd k hF)
  ⟨(hb p h.mp).trans h.blk, h.rowA.block (hb A h.mA), h.rowB.block (hb B h.mB), h.rowV.keepAny fun g e => hb g (h.mV g e), fun x e => ⟨(hb _ (h.wlk x e).2).trans (h.wlk x e).1, (h.wlk x e).2⟩, h.mp, h.mA, h.mB, h.mV, fun k hF => Nat.lt_of_lt_of_le (h.old k hF) hk.size, h.pos, h.mpos⟩
theorem SX.step (h : SX w p A cA B cB m n V cV fl pv nx sz wk F) (hb : Below w.heap.size w w') : SX w' p A cA B cB m n V cV fl pv nx sz wk F :=
  h.keep (Kept.of_below hb fun _ => False) fun _ _ q => q
theorem SX.more {G : Nat → Prop} (h : SX w p A cA B cB m n V cV fl pv nx sz wk F) (hG : ∀ k, F k → G k) (ho : ∀ k, G k → k < w.heap.size) : SX w p A cA B cB m n V cV fl pv nx sz wk G :=
  ⟨h.blk, h.rowA, h.rowB, h.rowV, fun x e => ⟨(h.wlk x e).1, hG _ (h.wlk x e).2⟩, hG _ h.mp, hG _ h.mA, hG _ h.mB, fun g e => hG _ (h.mV g e), ho, h.pos, h.mpos⟩
theorem SX.cA9 (h : SX w p A cA B cB m n V cV fl pv nx sz wk F) : m + n ≤ cA ∧ cA ≤ 9223372036854775807 := by
  have := h.rowA.cap
  have := h.rowA.cap_le
  unfold maxLen at this
  omega
theorem SX.cB9 (h : SX w p A cA B cB m n V cV fl pv nx sz wk F) : n ≤ cB ∧ cB ≤ 9223372036854775807 := by
  have := h.rowB.cap
  have := h.rowB.cap_le
  unfold maxLen at this
  omega
theorem SX.l0 (h : SX w p A cA B cB m n V cV fl pv nx sz wk F) {j : Nat} (hj : j < m + n) : w.cell? ⟨A, j * 3, none⟩ = some (.int .i64 (fl j)) := by
  obtain ⟨g', e, _, _, hc, _⟩ := h.rowA.lies (by omega)
  injection e with e
  injection e with e
  subst e
  rw [← lcell_0 fl pv nx j]
  exact hc _ (by omega)
theorem SX.l1 (h : SX w p A cA B cB m n V cV fl pv nx sz wk F) {j : Nat} (hj : j < m + n) : w.cell? ⟨A, j * 3 + 1, none⟩ = some (.int .i64 (pv j : Int)) := by
  obtain ⟨g', e, _, _, hc, _⟩ := h.rowA.lies (by omega)
  injection e with e
  injection e with e
  subst e
  rw [← lcell_1 fl pv nx j]
  exact hc _ (by omega)
theorem SX.l2 (h : SX w p A cA B cB m n V cV fl pv nx sz wk F) {j : Nat} (hj : j < m + n) : w.cell? ⟨A, j * 3 + 2, none⟩ = some (.int .i64 (nx j : Int)) := by
  obtain ⟨g', e, _, _, hc, _⟩ := h.rowA.lies (by omega)
  injection e with e
  injection e with e
  subst e
  rw [← lcell_2 fl pv nx j]
  exact hc _ (by omega)
theorem SX.fzA (h : SX w p A cA B cB m n V cV fl pv nx sz wk F) (k : Nat) : w.frozen? ⟨A, k, none⟩ = false := by
  obtain ⟨g', e, _, _, _, hf⟩ := h.rowA.lies (by have := h.pos; omega)
  injection e with e
  injection e with e
  subst e
  exact hf k
theorem SX.s0 (h : SX w p A cA B cB m n V cV fl pv nx sz wk F) {j : Nat} (hj : j < n) : w.cell? ⟨B, j, none⟩ = some (.int .i64 (sz j : Int)) := by
  obtain ⟨g', e, _, _, hc, _⟩ := h.rowB.lies (by omega)
  injection e with e
  injection e with e
  subst e
  exact hc _ (by omega)
theorem SX.fzB (h : SX w p A cA B cB m n V cV fl pv nx sz wk F) (k : Nat) : w.frozen? ⟨B, k, none⟩ = false := by
  obtain ⟨g', e, _, _, _, hf⟩ := h.rowB.lies h.pos
  injection e with e
  injection e with e
  subst e
  exact hf k
theorem SX.pA (h : SX w p A cA B cB m n V cV fl pv nx sz wk F) : p ≠ A := h.rowA.ne h.blk (by decide)
theorem SX.pB (h : SX w p A cA B cB m n V cV fl pv nx sz wk F) : p ≠ B := h.rowB.ne h.blk (by decide)
theorem SX.AB (h : SX w p A cA B cB m n V cV fl pv nx sz wk F) : A ≠ B := h.rowB.apart h.rowA (by decide)
theorem SX.pV (h : SX w p A cA B cB m n V cV fl pv nx sz wk F) {g : Nat} (e : V = some ⟨g, 0, none⟩) : p ≠ g := by
  subst e
  exact h.rowV.ne h.blk (by decide)
theorem SX.AV (h : SX w p A cA B cB m n V cV fl pv nx sz wk F) {g : Nat} (e : V = some ⟨g, 0, none⟩) : A ≠ g := by
  subst e
  exact h.rowV.apart h.rowA (by decide)
theorem SX.BV (h : SX w p A cA B cB m n V cV fl pv nx sz wk F) {g : Nat} (e : V = some ⟨g, 0, none⟩) : B ≠ g := by
  subst e
  exact h.rowV.apart h.rowB (by decide)
theorem SX.wA (h : SX w p A cA B cB m n V cV fl pv nx sz wk F) {x : Nat × Nat} (e : wk = some x) : x.1 ≠ A := h.rowA.ne (h.wlk x e).1 (by decide)
theorem SX.wB (h : SX w p A cA B cB m n V cV fl pv nx sz wk F) {x : Nat × Nat} (e : wk = some x) : x.1 ≠ B := h.rowB.ne (h.wlk x e).1 (by decide)
theorem SX.wV (h : SX w p A cA B cB m n V cV fl pv nx sz wk F) {x : Nat × Nat} (e : wk = some x) {g : Nat} (eg : V = some ⟨g, 0, none⟩) : x.1 ≠ g := by
  subst eg
  exact h.rowV.ne (h.wlk x e).1 (by decide)
theorem SX.wp (h : SX w p A cA B cB m n V cV fl pv nx sz wk F) {x : Nat × Nat} (e : wk = some x) : x.1 ≠ p := fun q => by
  have h1 := (h.wlk x e).1
  rw [q, h.blk] at h1
  injection h1 with h1
  injection h1 with _ h1 _
  exact absurd h1 (by decide)
/-- Cells of the links turned. -/
theorem SX.setA (h : SX w p A cA B cB m n V cV fl pv nx sz wk F) {fl' : Nat → Int} {pv' nx' : Nat → Nat} (hb : ∀ k, k ≠ A → w'.heap[k]? = w.heap[k]?) (hs : w.heap.size ≤ w'.heap.size) (hr : OwnC w' 0 101 3 (some ⟨A, 0, none⟩) (m + n) cA (lcell fl' pv' nx')) : SX w' p A cA B cB m n V cV fl' pv' nx' sz wk F :=
  ⟨(hb p h.pA).trans h.blk, hr, h.rowB.block (hb B h.AB.symm), h.rowV.keepAny fun g e => hb g (h.AV e).symm, fun x e => ⟨(hb _ (h.wA e)).trans (h.wlk x e).1, (h.wlk x e).2⟩, h.mp, h.mA, h.mB, h.mV, fun k hF => Nat.lt_of_lt_of_le (h.old k hF) hs, h.pos, h.mpos⟩
theorem SX.setN (h : SX w p A cA B cB m n V cV fl pv nx sz wk F) (k v : Nat) : SX (w.setCell ⟨A, k * 3 + 2, none⟩ (.int .i64 (v : Int))) p A cA B cB m n V cV fl pv (updN nx k v) sz wk F := by
  refine h.setA (fun j hj => Below.heap_setCell w ⟨A, k * 3 + 2, none⟩ _ j hj) (by simp) ((h.rowA.set_ (k * 3 + 2) _).same fun j _ => ?_)
  unfold updV lcell updN
  by_cases e : j = k * 3 + 2
  · subst e
    rw [if_pos rfl, if_neg (by omega), if_neg (by omega), if_pos (by omega)]
  · rw [if_neg e]
    by_cases e1 : j % 3 = 0
    · rw [if_pos e1, if_pos e1]
    · rw [if_neg e1, if_neg e1]
      by_cases e2 : j % 3 = 1
      · rw [if_pos e2, if_pos e2]
      · rw [if_neg e2, if_neg e2, if_neg (by omega)]
theorem SX.setP (h : SX w p A cA B cB m n V cV fl pv nx sz wk F) (k v : Nat) : SX (w.setCell ⟨A, k * 3 + 1, none⟩ (.int .i64 (v : Int))) p A cA B cB m n V cV fl (updN pv k v) nx sz wk F := by
  refine h.setA (fun j hj => Below.heap_setCell w ⟨A, k * 3 + 1, none⟩ _ j hj) (by simp) ((h.rowA.set_ (k * 3 + 1) _).same fun j _ => ?_)
  unfold updV lcell updN
  by_cases e : j = k * 3 + 1
  · subst e
    rw [if_pos rfl, if_neg (by omega), if_pos (by omega), if_pos (by omega)]
  · rw [if_neg e]
    by_cases e1 : j % 3 = 0
    · rw [if_pos e1, if_pos e1]
    · rw [if_neg e1, if_neg e1]
      by_cases e2 : j % 3 = 1
      · rw [if_pos e2, if_pos e2, if_neg (by omega)]
      · rw [if_neg e2, if_neg e2]
theorem SX.put (h : SX w p A cA B cB m n V cV fl pv nx sz wk F) (k : Nat) (a : Int) (b c : Nat) : SX (w.setCells A (k * 3) [.int .i64 a, .int .i64 (b : Int), .int .i64 (c : Int)]) p A cA B cB m n V cV (updI fl k a) (updN pv k b) (updN nx k c) sz wk F := by
  refine h.setA (fun j hj => other_setCells hj _ _ _) (below_setCells (b := A) (Nat.zero_le _) _ _ w (Below.refl 0 w)).size ((((h.rowA.set_ (k * 3) (.int .i64 a)).set_ (k * 3 + 1) (.int .i64 (b : Int))).set_ (k * 3 + 1 + 1) (.int .i64 (c : Int))).same fun j _ => ?_)
  unfold updV lcell updN updI
  by_cases e2 : j = k * 3 + 1 + 1
  · subst e2
    rw [if_pos rfl, if_neg (by omega), if_neg (by omega), if_pos (by omega)]
  · rw [if_neg e2]
    by_cases e1 : j = k * 3 + 1
    · subst e1
      rw [if_pos rfl, if_neg (by omega), if_pos (by omega), if_pos (by omega)]
    · rw [if_neg e1]
      by_cases e0 : j = k * 3
      · subst e0
        rw [if_pos rfl, if_pos (by omega), if_pos (by omega)]
      · rw [if_neg e0]
        by_cases q0 : j % 3 = 0
        · rw [if_pos q0, if_pos q0, if_neg (by omega)]
        · rw [if_neg q0, if_neg q0]
          by_cases q1 : j % 3 = 1
          · rw [if_pos q1, if_pos q1, if_neg (by omega)]
          · rw [if_neg q1, if_neg q1, if_neg (by omega)]
theorem SX.there (h : SX w p A cA B cB m n V cV fl pv nx sz wk F) {j : Nat} (hj : j < m + n) : w.there A (j * 3) 3 := fun k hk => by
  refine ⟨?_, h.fzA _⟩
  rcases (show k = 0 ∨ k = 1 ∨ k = 2 by omega) with rfl | rfl | rfl
  · rw [Nat.add_zero, h.l0 hj]
    rfl
  · rw [h.l1 hj]
    rfl
  · rw [h.l2 hj]
    rfl
theorem SX.rng (h : SX w p A cA B cB m n V cV fl pv nx sz wk F) {j : Nat} (hj : j < m + n) : w.rangeAt A (j * 3) [.int .i64 (fl j), .int .i64 (pv j : Int), .int .i64 (nx j : Int)] := fun k v hv => by
  match k, hv with
  | 0, hv => rw [← hv]; exact h.l0 hj
  | 1, hv => rw [← hv]; exact h.l1 hj
  | 2, hv => rw [← hv]; exact h.l2 hj
theorem SX.setS (h : SX w p A cA B cB m n V cV fl pv nx sz wk F) (k v : Nat) : SX (w.setCell ⟨B, k, none⟩ (.int .i64 (v : Int))) p A cA B cB m n V cV fl pv nx (updN sz k v) wk F := by
  have hb : ∀ j, j ≠ B → (w.setCell ⟨B, k, none⟩ (.int .i64 (v : Int))).heap[j]? = w.heap[j]? := fun j hj => Below.heap_setCell w ⟨B, k, none⟩ _ j hj
  refine ⟨(hb p h.pB).trans h.blk, h.rowA.block (hb A h.AB), (h.rowB.set_ k _).same fun j _ => ?_, h.rowV.keepAny fun g e => hb g (h.BV e).symm, fun x e => ⟨(hb _ (h.wB e)).trans (h.wlk x e).1, (h.wlk x e).2⟩, h.mp, h.mA, h.mB, h.mV, fun j hF => by simpa using h.old j hF, h.pos, h.mpos⟩
  unfold updV updN
  by_cases e : j = k
  · rw [if_pos e, if_pos e]
  · rw [if_neg e, if_neg e]
theorem SX.setW {x : Nat × Nat} (h : SX w p A cA B cB m n V cV fl pv nx sz (some x) F) (v : Nat) : SX (w.setCell ⟨x.1, 0, none⟩ (.int .i64 (v : Int))) p A cA B cB m n V cV fl pv nx sz (some (x.1, v)) F := by
  have hb : ∀ j, j ≠ x.1 → (w.setCell ⟨x.1, 0, none⟩ (.int .i64 (v : Int))).heap[j]? = w.heap[j]? := fun j hj => Below.heap_setCell w ⟨x.1, 0, none⟩ _ j hj
  refine ⟨(hb p (h.wp rfl).symm).trans h.blk, h.rowA.block (hb A (h.wA rfl).symm), h.rowB.block (hb B (h.wB rfl).symm), h.rowV.keepAny fun g e => hb g (h.wV rfl e).symm, fun y e => ?_, h.mp, h.mA, h.mB, h.mV, fun j hF => by simpa using h.old j hF, h.pos, h.mpos⟩
  injection e with e
  subst e
  exact ⟨blk_set (h.wlk x rfl).1 0 _, (h.wlk x rfl).2⟩
theorem SX.wcell {x : Nat × Nat} (h : SX w p A cA B cB m n V cV fl pv nx sz (some x) F) : w.cell? ⟨x.1, 0, none⟩ = some (.int .i64 (x.2 : Int)) ∧ w.frozen? ⟨x.1, 0, none⟩ = false := ⟨blk_cell (h.wlk x rfl).1 0, blk_free (h.wlk x rfl).1 0⟩
end
end Go.Proofs.Ytkmakdhlaenaoaa
/- Stage 10: the landed slots: the functions that only read. -/
namespace Go.Proofs.Ytkmakdhlaenaoaa
set_option maxRecDepth 100000
open Go.RowKit Go.Shelf
attribute [local go_sem] Oper.semAt_some
theorem phasL_c (w : World) (p : Nat) (B : Option Addr) (n c : Nat) (x1 : w.cell? ⟨p, 1, none⟩ = some (.slice B n c)) (i : Int) : Calls Try.prog 78 #[.pointer (some ⟨p, 0, none⟩), .int .i64 i] w (ret (.bool (decide (0 ≤ i) && decide (i < (n : Int)))) w) := by
  rcases Int.lt_or_le i 0 with h0 | h0
  · have e : (decide (0 ≤ i) && decide (i < (n : Int))) = false := by simp; omega
    rw [e]
    clear e
    go_enter Try.func78, Try.ntmps78
    go_wp2_with fail
    go_ret
    exact ⟨rfl, Below.refl _ _⟩
  · rcases Int.lt_or_le i (n : Int) with h1 | h1
    · have e : (decide (0 ≤ i) && decide (i < (n : Int))) = true := by simp; omega
      rw [e]
      clear e
      go_enter Try.func78, Try.ntmps78
      go_wp2_with fail
      go_ret
      exact ⟨rfl, Below.refl _ _⟩
    · have e : (decide (0 ≤ i) && decide (i < (n : Int))) = false := by simp; omega
      have h1' : ¬ i < (n : Int) := by omega
      rw [e]
      clear e
      go_enter Try.func78, Try.ntmps78
      go_wp2_with fail
      go_ret
      exact ⟨rfl, Below.refl _ _⟩
theorem phasL_0 (w : World) (i : Int) : Calls Try.prog 78 #[.pointer none, .int .i64 i] w (ret (.bool false) w) := by
  go_enter Try.func78, Try.ntmps78
  go_wp2_with fail
  go_ret
  exact ⟨rfl, Below.refl _ _⟩
theorem pown_c (w : World) (p : Nat) (A B : Option Addr) (m n cA cB : Nat) (x0 : w.cell? ⟨p, 0, none⟩ = some (.slice A (m + n) cA)) (x1 : w.cell? ⟨p, 1, none⟩ = some (.slice B n cB)) (hm : m ≤ 65536) (_hn : n ≤ 65536) (i : Nat) (hi : i ≤ 65536) :
    Calls Try.prog 43 #[.pointer (some ⟨p, 0, none⟩), .int .i64 (i : Int)] w (ret (.int .i64 ((m + i : Nat) : Int)) w) := by
  have z1 : IntKind.i64.wrap (((m + n : Nat) : Int) - (n : Int)) = (m : Int) := by rw [IntKind.wrap_i64]; omega
  have z2 : IntKind.i64.wrap ((m : Int) + (i : Int)) = ((m + i : Nat) : Int) := by rw [IntKind.wrap_i64]; omega
  have y0 : ∀ W : Stay w, W.w.cell? ⟨p, 0, none⟩ = some (.slice A (m + n) cA) := fun W => Stay.cell x0 W
  have y1 : ∀ W : Stay w, W.w.cell? ⟨p, 1, none⟩ = some (.slice B n cB) := fun W => Stay.cell x1 W
  clear x0 x1
  obtain ⟨N, hN⟩ : ∃ N, N = m + n := ⟨_, rfl⟩
  rw [← hN] at z1 y0
  clear hN
  go_enter Try.func43, Try.ntmps43
  go_upto_region 1 with fail
  refine wp_region_stay (by kernel_rfl) (by kernel_rfl) ?_
  repeat (go_big_quiet_step (fail))
  refine wpQuiet_nil ?_
  intro w' hw'
  obtain ⟨W, rfl⟩ := hw'
  go_wp2_with fail
  go_ret
  exact ⟨rfl, W.below⟩
theorem phasC_0 (w : World) (i : Int) : Calls Try.prog 64 #[.pointer none, .int .i64 i] w (ret (.bool false) w) := by
  go_enter Try.func64, Try.ntmps64
  go_wp2_with fail
  go_ret
  exact ⟨rfl, Below.refl _ _⟩
theorem phasC_c (w : World) (p m : Nat) (ho : ∀ W, Below w.heap.size w W → Calls Try.prog 43 #[.pointer (some ⟨p, 0, none⟩), .int .i64 0] W (ret (.int .i64 (m : Int)) W)) (i : Int) :
    Calls Try.prog 64 #[.pointer (some ⟨p, 0, none⟩), .int .i64 i] w (ret (.bool (decide (0 ≤ i) && decide (i < (m : Int)))) w) := by
  have HO := Lib.hid (ho w (Below.refl _ _))
  clear ho
  rcases Int.lt_or_le i 0 with h0 | h0
  · have e : (decide (0 ≤ i) && decide (i < (m : Int))) = false := by simp; omega
    rw [e]
    clear e
    go_enter Try.func64, Try.ntmps64
    go_wp2_with fail
    go_ret
    exact ⟨rfl, Below.refl _ _⟩
  · rcases Int.lt_or_le i (m : Int) with h1 | h1
    · have e : (decide (0 ≤ i) && decide (i < (m : Int))) = true := by simp; omega
      rw [e]
      clear e
      go_enter Try.func64, Try.ntmps64
      go_wp2_with (first
        | (go_at_call 43
           refine HO.out.mono ?_
           rintro e u ⟨rfl, hb⟩
           have HB := Lib.hid hb
           clear hb))
      go_ret
      exact ⟨rfl, HB.out⟩
    · have e : (decide (0 ≤ i) && decide (i < (m : Int))) = false := by simp; omega
      have h1' : ¬ i < (m : Int) := by omega
      rw [e]
      clear e
      go_enter Try.func64, Try.ntmps64
      go_wp2_with (first
        | (go_at_call 43
           refine HO.out.mono ?_
           rintro e u ⟨rfl, hb⟩
           have HB := Lib.hid hb
           clear hb))
      go_ret
      exact ⟨(by rw [show decide (i < (m : Int)) = false from by simpa using h1]; rfl), HB.out⟩
theorem pmade_c (w : World) (pa : Option Addr) (b : Bool) (hl : Calls Try.prog 78 #[.pointer pa, .int .i64 0] w (ret (.bool b) w)) : Calls Try.prog 63 #[.pointer pa] w (ret (.bool b) w) := by
  have HO := Lib.hid hl
  clear hl
  go_enter Try.func63, Try.ntmps63
  go_wp2_with (first
    | (go_at_call 78
       refine HO.out.mono ?_
       rintro e u ⟨rfl, hb⟩
       have HB := Lib.hid hb
       clear hb))
  go_ret
  exact ⟨rfl, HB.out⟩
theorem plen_no (w : World) (pa : Option Addr) (i : Int) (hl : Calls Try.prog 78 #[.pointer pa, .int .i64 i] w (ret (.bool false) w)) : Calls Try.prog 73 #[.pointer pa, .int .i64 i] w (ret (.int .i64 0) w) := by
  have HO := Lib.hid hl
  clear hl
  go_enter Try.func73, Try.ntmps73
  go_wp2_with (first
    | (go_at_call 78
       refine HO.out.mono ?_
       rintro e u ⟨rfl, hb⟩
       have HB := Lib.hid hb
       clear hb))
  go_ret
  exact ⟨rfl, HB.out⟩
section
variable {w : World} {p A cA B cB m n : Nat} {V : Option Addr} {cV : Nat} {fl : Nat → Int} {pv nx sz : Nat → Nat} {wk : Option (Nat × Nat)} {F : Nat → Prop}
theorem SX.hasL (h : SX w p A cA B cB m n V cV fl pv nx sz wk F) (i : Int) : Calls Try.prog 78 #[.pointer (some ⟨p, 0, none⟩), .int .i64 i] w (ret (.bool (decide (0 ≤ i) && decide (i < (n : Int)))) w) := phasL_c w p _ n cB (blk_cell h.blk 1) i
theorem SX.own (h : SX w p A cA B cB m n V cV fl pv nx sz wk F) (hm : m ≤ 65536) (hn : n ≤ 4096) (i : Nat) (hi : i ≤ 4096) : Calls Try.prog 43 #[.pointer (some ⟨p, 0, none⟩), .int .i64 (i : Int)] w (ret (.int .i64 ((m + i : Nat) : Int)) w) :=
  pown_c w p _ _ m n cA cB (blk_cell h.blk 0) (blk_cell h.blk 1) hm (by omega) i (by omega)
theorem SX.hasC (h : SX w p A cA B cB m n V cV fl pv nx sz wk F) (hm : m ≤ 65536) (hn : n ≤ 4096) (i : Int) : Calls Try.prog 64 #[.pointer (some ⟨p, 0, none⟩), .int .i64 i] w (ret (.bool (decide (0 ≤ i) && decide (i < (m : Int)))) w) :=
  phasC_c w p m (fun _ hW => (h.step hW).own hm hn 0 (by omega)) i
theorem SX.made (h : SX w p A cA B cB m n V cV fl pv nx sz wk F) : Calls Try.prog 63 #[.pointer (some ⟨p, 0, none⟩)] w (ret (.bool true) w) :=
  pmade_c w _ true (by
    have := h.hasL 0
    have hp := h.pos
    have e : (decide ((0 : Int) ≤ 0) && decide ((0 : Int) < (n : Int))) = true := by simp; omega
    rwa [e] at this)
theorem SX.len (h : SX w p A cA B cB m n V cV fl pv nx sz wk F) (i : Nat) (hi : i < n) : Calls Try.prog 73 #[.pointer (some ⟨p, 0, none⟩), .int .i64 (i : Int)] w (ret (.int .i64 (sz i : Int)) w) := by
  have HL : Hid (Calls Try.prog 78 #[.pointer (some ⟨p, 0, none⟩), .int .i64 (i : Int)] w (ret (.bool true) w)) := Lib.hid (by
    have := h.hasL i
    have e : (decide ((0 : Int) ≤ (i : Int)) && decide ((i : Int) < (n : Int))) = true := by simp; omega
    rwa [e] at this)
  have HX := Lib.hid h
  have i1 : (i : Int) < (n : Int) := by omega
  have i0 : (0 : Int) ≤ (i : Int) := by omega
  have cB9 := h.cB9
  clear h
  go_enter Try.func73, Try.ntmps73
  go_wp2_with (first
    | (go_at_call 78
       refine HL.out.mono ?_
       rintro e u ⟨rfl, hb⟩
       have HB := Lib.hid hb
       have HX2 := Lib.hid (HX.out.step hb)
       have x1 : u.cell? ⟨p, 1, none⟩ = some (.slice (some ⟨B, 0, none⟩) n cB) := blk_cell HX2.out.blk 1
       have xs : u.cell? ⟨B, i, none⟩ = some (.int .i64 (sz i : Int)) := HX2.out.s0 hi
       clear hb))
  go_ret
  exact ⟨rfl, HB.out⟩
end
end Go.Proofs.Ytkmakdhlaenaoaa
