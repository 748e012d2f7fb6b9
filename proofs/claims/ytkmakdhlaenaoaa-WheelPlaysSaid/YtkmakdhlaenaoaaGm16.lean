import Derived.Test.YtkmakdhlaenaoaaGm9
import Derived.Test.YtkmakdhlaenaoaaGm1
import Derived.Test.YtkmakdhlaenaoaaGm15
import Derived.Test.YtkmakdhlaenaoaaGm4
import Derived.Test.YtkmakdhlaenaoaaGm3
import Derived.Test.YtkmakdhlaenaoaaGm2
/- A region that draws its order, by what holds whatever has come up so far, with guards that are known, wanted or not. Over any program. -/
namespace Go.Proofs.Ytkmakdhlaenaoaa
open Go.RowKit
section
variable {P : Program} {ops : Array Oper} {Q : Exit → Act → World → Prop}
theorem wpAny_invW (I : Array Bool → Act → World → Prop) (hI : ∀ l a w, I l a w → l.size = ops.size) (hord : ∀ (i : Nat) (o : Oper), ops[i]? = some o → ∀ e, e ∈ o.after → Region.binds .any e = true → e.on < i)
    (hstep : ∀ l a w i o, I l a w → ops[i]? = some o → l.getD i true = false → (∀ e, e ∈ o.after → Region.binds .any e = true → l.getD e.on false = true) → (Region.wanted o (yielded ops a.tmps) = true ∧ o.wp P a w (fun a' w' => I (l.setIfInBounds i true) a' w') Q) ∨ (Region.wanted o (yielded ops a.tmps) = false ∧ I (l.setIfInBounds i true) (a.put o.dst undef) w))
    (hend : ∀ l a w, I l a w → (∀ i, i < ops.size → l.getD i false = true) → Q .normal a w) :
    ∀ fuel l a w, I l a w → unl l ≤ fuel → wpAny P .any ops Q fuel l a w
  | 0, l, a, w, h, hf => by
    have hr : Region.ready .any ops l = [] := by
      cases hc : Region.ready .any ops l with
      | nil => rfl
      | cons i r =>
        have hm : i ∈ Region.ready .any ops l := by rw [hc]; exact .head _
        exact absurd (Nat.le_zero.1 hf) (unl_none (rdy_spec hm).2.1)
    exact ⟨hr, hend l a w h (all_come hord (hI l a w h) hr)⟩
  | fuel + 1, l, a, w, h, hf => by
    refine ⟨fun hr => hend l a w h (all_come hord (hI l a w h) hr), fun i hi => ?_⟩
    obtain ⟨h1, h2, h3⟩ := rdy_spec hi
    have ho : ops[i]? = some ops[i] := Array.getElem?_eq_getElem h1
    unfold wpOp
    rw [ho]
    show if Region.wanted ops[i] (yielded ops a.tmps) = true then _ else _
    rcases hstep l a w i _ h ho h2 (h3 _ ho) with ⟨hw, hs⟩ | ⟨hw, hs⟩
    · rw [if_pos hw]
      refine .inl (Oper.wp_mono (fun a' w' h' => ?_) hs)
      exact wpAny_invW I hI hord hstep hend fuel _ a' w' h' (by have := unl_set h2; omega)
    · rw [if_neg (by rw [hw]; decide)]
      exact wpAny_invW I hI hord hstep hend fuel _ _ w hs (by have := unl_set h2; omega)
theorem wp_region_invW {id : Nat} {a : Act} {w : World} (I : Act → Array Bool → Act → World → Prop) (hm : P.follows .mixedOrders = true) (hI : ∀ l a' w, I a l a' w → l.size = ops.size)
    (hB : ordG ops = true) (h0 : I a (Array.replicate ops.size false) a w.drew)
    (hstep : ∀ l a' w i o, I a l a' w → ops[i]? = some o → l.getD i true = false → (∀ e, e ∈ o.after → Region.binds .any e = true → l.getD e.on false = true) → (Region.wanted o (yielded ops a'.tmps) = true ∧ o.wp P a' w (fun a'' w' => I a (l.setIfInBounds i true) a'' w') Q) ∨ (Region.wanted o (yielded ops a'.tmps) = false ∧ I a (l.setIfInBounds i true) (a'.put o.dst undef) w))
    (hend : ∀ l a' w, I a l a' w → (∀ i, i < ops.size → l.getD i false = true) → Q .normal a' w) : (Code.region id ops true).wp P Q a w :=
  wp_region_any hm (wpAny_invW (I a) hI (ordG_spec hB) hstep hend ops.size _ _ _ h0 (by
    unfold unl
    have := List.countP_le_length (p := fun b => !b) (l := (Array.replicate ops.size false).toList)
    simpa using this))
theorem unwanted_of {o : Oper} {j s : Nat} {b b' : Bool} {oj : Oper} {t : Array Value} (hg : o.guard = some (j, b')) (h : ops[j]? = some oj) (hd : oj.dst = some s) (ht : t[s]?.getD undef = .bool b) (hne : (b == b') = false) : Region.wanted o (yielded ops t) = false := by
  unfold Region.wanted
  rw [hg]
  simp [yld h hd ht, hne]
end
end Go.Proofs.Ytkmakdhlaenaoaa
/- Stage 10: the landed slots in memory, as fields; the functions that only read. -/
namespace Go.Proofs.Ytkmakdhlaenaoaa
set_option maxRecDepth 100000
open Go.RowKit
theorem OwnC.keepAny {w w' : World} {base size : Nat} {e : TypeId} {A : Option Addr} {n c : Nat} {f : Nat → Value} (h : OwnC w base e size A n c f) (hw : ∀ g, A = some ⟨g, 0, none⟩ → w'.heap[g]? = w.heap[g]?) : OwnC w' base e size A n c f := by
  refine ⟨h.1, ?_⟩
  rcases h.2 with hh | ⟨g, cap, cur, hv, hg, hh, r⟩
  · exact .inl hh
  · injection hv with h1 h2 h3
    exact .inr ⟨g, cap, cur, by rw [h1, h3], hg, (hw g h1).trans hh, r⟩
theorem OwnC.ltA {w : World} {base size : Nat} {e : TypeId} {g n c : Nat} {f : Nat → Value} (h : OwnC w base e size (some ⟨g, 0, none⟩) n c f) : g < w.heap.size := by
  rcases h.2 with ⟨hh, _⟩ | ⟨g', cap, cur, hv, _, hh, _⟩
  · cases hh
  · injection hv with h1 _ _
    injection h1 with h1
    injection h1 with h1
    subst h1
    exact lt_heap hh
/-- Rows of two types lie apart. -/
theorem OwnC.apart {w : World} {base base' size size' : Nat} {e e' : TypeId} {g g' n n' c c' : Nat} {f f' : Nat → Value} (h : OwnC w base e size (some ⟨g, 0, none⟩) n c f) (h' : OwnC w base' e' size' (some ⟨g', 0, none⟩) n' c' f') (hte : e' ≠ e) : g' ≠ g := by
  rcases h'.2 with ⟨hh, _⟩ | ⟨g2, cap, cur, hv, _, hh, _⟩
  · cases hh
  · injection hv with h1 _ _
    injection h1 with h1
    injection h1 with h1
    subst h1
    exact h.ne hh hte
def lcell (fl : Nat → Int) (pv nx : Nat → Nat) (j : Nat) : Value := if j % 3 = 0 then .int .i64 (fl (j / 3)) else if j % 3 = 1 then .int .i64 (pv (j / 3) : Int) else .int .i64 (nx (j / 3) : Int)
theorem lcell_one (fl : Nat → Int) (pv nx : Nat → Nat) (j : Nat) : (lcell fl pv nx j).oneCell' = true := by
  unfold lcell
  split
  · rfl
  · split <;> rfl
theorem lcell_0 (fl : Nat → Int) (pv nx : Nat → Nat) (j : Nat) : lcell fl pv nx (j * 3) = .int .i64 (fl j) := by
  unfold lcell
  rw [if_pos (by omega), show j * 3 / 3 = j by omega]
theorem lcell_1 (fl : Nat → Int) (pv nx : Nat → Nat) (j : Nat) : lcell fl pv nx (j * 3 + 1) = .int .i64 (pv j : Int) := by
  unfold lcell
  rw [if_neg (by omega), if_pos (by omega), show (j * 3 + 1) / 3 = j by omega]
theorem lcell_2 (fl : Nat → Int) (pv nx : Nat → Nat) (j : Nat) : lcell fl pv nx (j * 3 + 2) = .int .i64 (nx j : Int) := by
  unfold lcell
  rw [if_neg (by omega), if_neg (by omega), show (j * 3 + 2) / 3 = j by omega]
/-- The walks that go on: none, or one, at a block, at a place. -/
def wkn : Option (Nat × Nat) → Nat
  | none => 0
  | some _ => 1
def wkf : Option (Nat × Nat) → Nat → Value
  | none, _ => .pointer none
  | some x, _ => .pointer (some ⟨x.1, 0, none⟩)
/-- The landed slots at a block, as fields. -/
structure SX (w : World) (p A cA B cB m n : Nat) (V : Option Addr) (cV : Nat) (fl : Nat → Int) (pv nx sz : Nat → Nat) (wk : Option (Nat × Nat)) (F : Nat → Prop) : Prop where
  blk : w.heap[p]? = some (.cells #[.slice (some ⟨A, 0, none⟩) (m + n) cA, .slice (some ⟨B, 0, none⟩) n cB, .slice V (wkn wk) cV] 99 (0, 0))
  rowA : OwnC w 0 101 3 (some ⟨A, 0, none⟩) (m + n) cA (lcell fl pv nx)
  rowB : OwnC w 0 3 1 (some ⟨B, 0, none⟩) n cB (fun k => .int .i64 (sz k : Int))
  rowV : OwnC w 0 133 1 V (wkn wk) cV (wkf wk)
  wlk : ∀ x, wk = some x → w.heap[x.1]? = some (.cells #[.int .i64 (x.2 : Int)] 135 (0, 0)) ∧ F x.1
  mp : F p
  mA : F A
  mB : F B
  mV : ∀ g, V = some ⟨g, 0, none⟩ → F g
  old : ∀ k, F k → k < w.heap.size
  pos : 0 < n
  mpos : 0 < m
section
variable {w w' : World} {p A cA B cB m n : Nat} {V : Option Addr} {cV : Nat} {fl : Nat → Int} {pv nx sz : Nat → Nat} {wk : Option (Nat × Nat)} {F : Nat → Prop}
theorem SX.keep {R : Nat → Prop} (h : SX w p A cA B cB m n V cV fl pv nx sz wk F) (hk : Kept R w w') (hd : ∀ k, F k → ¬ R k) : SX w' p A cA B cB m n V cV fl pv nx sz wk F :=
  have hb : ∀ k, F k → w'.heap[k]? = w.heap[k]? := fun k hF => hk.block k (h.old k hF) (hd k hF)
  ⟨(hb p h.mp).trans h.blk, h.rowA.block (hb A h.mA), h.rowB.block (hb B h.mB), h.rowV.keepAny fun g e => hb g (h.mV g e), fun x e => ⟨(hb _ (h.wlk x e).2).trans (h.wlk x e).1, (h.wlk x e).2⟩, h.mp, h.mA, h.mB, h.mV, fun k hF => Nat.lt_of_lt_of_le (h.old k hF) hk.size, h.pos, h.mpos⟩
theorem SX.step (h : SX w p A cA B cB m n V cV fl pv nx sz wk F) (hb : Below w.heap.size w w') : SX w' p A cA B cB m n V cV fl pv nx sz wk F :=
  h.keep (Kept.of_below hb fun _ => False) fun _ _ q => q
theorem SX.more {G : Nat → Prop} (h : SX w p A cA B cB m n V cV fl pv nx sz wk F) (hG : ∀ k, F k → G k) (ho : ∀ k, G k → k < w.heap.size) : SX w p A cA B cB m n V cV fl pv nx sz wk G :=
  ⟨h.blk, h.rowA, h.rowB, h.rowV, fun x e => ⟨(h.wlk x e).1, hG _ (h.wlk x e).2⟩, hG _ h.mp, hG _ h.mA, hG _ h.mB, fun g e => hG _ (h.mV g e), ho, h.pos, h.mpos⟩
theorem SX.cA9 (h : SX w p A cA B cB m n V cV fl pv nx sz wk F) : m + n ≤ cA ∧ cA ≤ 9223372036854775807 := by
  have := h.rowA.cap
  have := h.rowA.cap_le
  unfold maxLen at this
  omega
theorem SX.cB9 (h : SX w p A cA B cB m n V cV fl pv nx sz wk F) : n ≤ cB ∧ cB ≤ 9223372036854775807 := by
  have := h.rowB.cap
  have := h.rowB.cap_le
  unfold maxLen at this
  omega
theorem SX.l0 (h : SX w p A cA B cB m n V cV fl pv nx sz wk F) {j : Nat} (hj : j < m + n) : w.cell? ⟨A, j * 3, none⟩ = some (.int .i64 (fl j)) := by
  obtain ⟨g', e, _, _, hc, _⟩ := h.rowA.lies (by omega)
  injection e with e
  injection e with e
  subst e
  rw [← lcell_0 fl pv nx j]
  exact hc _ (by omega)
theorem SX.l1 (h : SX w p A cA B cB m n V cV fl pv nx sz wk F) {j : Nat} (hj : j < m + n) : w.cell? ⟨A, j * 3 + 1, none⟩ = some (.int .i64 (pv j : Int)) := by
  obtain ⟨g', e, _, _, hc, _⟩ := h.rowA.lies (by omega)
  injection e with e
  injection e with e
  subst e
  rw [← lcell_1 fl pv nx j]
  exact hc _ (by omega)
theorem SX.l2 (h : SX w p A cA B cB m n V cV fl pv nx sz wk F) {j : Nat} (hj : j < m + n) : w.cell? ⟨A, j * 3 + 2, none⟩ = some (.int .i64 (nx j : Int)) := by
  obtain ⟨g', e, _, _, hc, _⟩ := h.rowA.lies (by omega)
  injection e with e
  injection e with e
  subst e
  rw [← lcell_2 fl pv nx j]
  exact hc _ (by omega)
theorem SX.fzA (h : SX w p A cA B cB m n V cV fl pv nx sz wk F) (k : Nat) : w.frozen? ⟨A, k, none⟩ = false := by
  obtain ⟨g', e, _, _, _, hf⟩ := h.rowA.lies (by have := h.pos; omega)
  injection e with e
  injection e with e
  subst e
  exact hf k
theorem SX.s0 (h : SX w p A cA B cB m n V cV fl pv nx sz wk F) {j : Nat} (hj : j < n) : w.cell? ⟨B, j, none⟩ = some (.int .i64 (sz j : Int)) := by
  obtain ⟨g', e, _, _, hc, _⟩ := h.rowB.lies (by omega)
  injection e with e
  injection e with e
  subst e
  exact hc _ (by omega)
theorem SX.fzB (h : SX w p A cA B cB m n V cV fl pv nx sz wk F) (k : Nat) : w.frozen? ⟨B, k, none⟩ = false := by
  obtain ⟨g', e, _, _, _, hf⟩ := h.rowB.lies h.pos
  injection e with e
  injection e with e
  subst e
  exact hf k
theorem SX.pA (h : SX w p A cA B cB m n V cV fl pv nx sz wk F) : p ≠ A := h.rowA.ne h.blk (by decide)
theorem SX.pB (h : SX w p A cA B cB m n V cV fl pv nx sz wk F) : p ≠ B := h.rowB.ne h.blk (by decide)
theorem SX.AB (h : SX w p A cA B cB m n V cV fl pv nx sz wk F) : A ≠ B := h.rowB.apart h.rowA (by decide)
theorem SX.pV (h : SX w p A cA B cB m n V cV fl pv nx sz wk F) {g : Nat} (e : V = some ⟨g, 0, none⟩) : p ≠ g := by
  subst e
  exact h.rowV.ne h.blk (by decide)
theorem SX.AV (h : SX w p A cA B cB m n V cV fl pv nx sz wk F) {g : Nat} (e : V = some ⟨g, 0, none⟩) : A ≠ g := by
  subst e
  exact h.rowV.apart h.rowA (by decide)
theorem SX.BV (h : SX w p A cA B cB m n V cV fl pv nx sz wk F) {g : Nat} (e : V = some ⟨g, 0, none⟩) : B ≠ g := by
  subst e
  exact h.rowV.apart h.rowB (by decide)
theorem SX.wA (h : SX w p A cA B cB m n V cV fl pv nx sz wk F) {x : Nat × Nat} (e : wk = some x) : x.1 ≠ A := h.rowA.ne (h.wlk x e).1 (by decide)
theorem SX.wB (h : SX w p A cA B cB m n V cV fl pv nx sz wk F) {x : Nat × Nat} (e : wk = some x) : x.1 ≠ B := h.rowB.ne (h.wlk x e).1 (by decide)
theorem SX.wV (h : SX w p A cA B cB m n V cV fl pv nx sz wk F) {x : Nat × Nat} (e : wk = some x) {g : Nat} (eg : V = some ⟨g, 0, none⟩) : x.1 ≠ g := by
  subst eg
  exact h.rowV.ne (h.wlk x e).1 (by decide)
theorem SX.wp (h : SX w p A cA B cB m n V cV fl pv nx sz wk F) {x : Nat × Nat} (e : wk = some x) : x.1 ≠ p := fun q => by
  have h1 := (h.wlk x e).1
  rw [q, h.blk] at h1
  injection h1 with h1
  injection h1 with _ h1 _
  exact absurd h1 (by decide)
/-- Cells of the links turned. -/
theorem SX.setA (h : SX w p A cA B cB m n V cV fl pv nx sz wk F) {fl' : Nat → Int} {pv' nx' : Nat → Nat} (hb : ∀ k, k ≠ A → w'.heap[k]? = w.heap[k]?) (hs : w.heap.size ≤ w'.heap.size) (hr : OwnC w' 0 101 3 (some ⟨A, 0, none⟩) (m + n) cA (lcell fl' pv' nx')) : SX w' p A cA B cB m n V cV fl' pv' nx' sz wk F :=
  ⟨(hb p h.pA).trans h.blk, hr, h.rowB.block (hb B h.AB.symm), h.rowV.keepAny fun g e => hb g (h.AV e).symm, fun x e => ⟨(hb _ (h.wA e)).trans (h.wlk x e).1, (h.wlk x e).2⟩, h.mp, h.mA, h.mB, h.mV, fun k hF => Nat.lt_of_lt_of_le (h.old k hF) hs, h.pos, h.mpos⟩
theorem SX.setN (h : SX w p A cA B cB m n V cV fl pv nx sz wk F) (k v : Nat) : SX (w.setCell ⟨A, k * 3 + 2, none⟩ (.int .i64 (v : Int))) p A cA B cB m n V cV fl pv (updN nx k v) sz wk F := by
  refine h.setA (fun j hj => Below.heap_setCell w ⟨A, k * 3 + 2, none⟩ _ j hj) (by simp) ((h.rowA.set_ (k * 3 + 2) _).same fun j _ => ?_)
  unfold updV lcell updN
  by_cases e : j = k * 3 + 2
  · subst e
    rw [if_pos rfl, if_neg (by omega), if_neg (by omega), if_pos (by omega)]
  · rw [if_neg e]
    by_cases e1 : j % 3 = 0
    · rw [if_pos e1, if_pos e1]
    · rw [if_neg e1, if_neg e1]
      by_cases e2 : j % 3 = 1
      · rw [if_pos e2, if_pos e2]
      · rw [if_neg e2, if_neg e2, if_neg (by omega)]
theorem SX.setP (h : SX w p A cA B cB m n V cV fl pv nx sz wk F) (k v : Nat) : SX (w.setCell ⟨A, k * 3 + 1, none⟩ (.int .i64 (v : Int))) p A cA B cB m n V cV fl (updN pv k v) nx sz wk F := by
  refine h.setA (fun j hj => Below.heap_setCell w ⟨A, k * 3 + 1, none⟩ _ j hj) (by simp) ((h.rowA.set_ (k * 3 + 1) _).same fun j _ => ?_)
  unfold updV lcell updN
  by_cases e : j = k * 3 + 1
  · subst e
    rw [if_pos rfl, if_neg (by omega), if_pos (by omega), if_pos (by omega)]
  · rw [if_neg e]
    by_cases e1 : j % 3 = 0
    · rw [if_pos e1, if_pos e1]
    · rw [if_neg e1, if_neg e1]
      by_cases e2 : j % 3 = 1
      · rw [if_pos e2, if_pos e2, if_neg (by omega)]
      · rw [if_neg e2, if_neg e2]
theorem SX.put (h : SX w p A cA B cB m n V cV fl pv nx sz wk F) (k : Nat) (a : Int) (b c : Nat) : SX (w.setCells A (k * 3) [.int .i64 a, .int .i64 (b : Int), .int .i64 (c : Int)]) p A cA B cB m n V cV (updI fl k a) (updN pv k b) (updN nx k c) sz wk F := by
  refine h.setA (fun j hj => other_setCells hj _ _ _) (below_setCells (b := A) (Nat.zero_le _) _ _ w (Below.refl 0 w)).size ((((h.rowA.set_ (k * 3) (.int .i64 a)).set_ (k * 3 + 1) (.int .i64 (b : Int))).set_ (k * 3 + 1 + 1) (.int .i64 (c : Int))).same fun j _ => ?_)
  unfold updV lcell updN updI
  by_cases e2 : j = k * 3 + 1 + 1
  · subst e2
    rw [if_pos rfl, if_neg (by omega), if_neg (by omega), if_pos (by omega)]
  · rw [if_neg e2]
    by_cases e1 : j = k * 3 + 1
    · subst e1
      rw [if_pos rfl, if_neg (by omega), if_pos (by omega), if_pos (by omega)]
    · rw [if_neg e1]
      by_cases e0 : j = k * 3
      · subst e0
        rw [if_pos rfl, if_pos (by omega), if_pos (by omega)]
      · rw [if_neg e0]
        by_cases q0 : j % 3 = 0
        · rw [if_pos q0, if_pos q0, if_neg (by omega)]
        · rw [if_neg q0, if_neg q0]
          by_cases q1 : j % 3 = 1
          · rw [if_pos q1, if_pos q1, if_neg (by omega)]
          · rw [if_neg q1, if_neg q1, if_neg (by omega)]
theorem SX.there (h : SX w p A cA B cB m n V cV fl pv nx sz wk F) {j : Nat} (hj : j < m + n) : w.there A (j * 3) 3 := fun k hk => by
  refine ⟨?_, h.fzA _⟩
  rcases (show k = 0 ∨ k = 1 ∨ k = 2 by omega) with rfl | rfl | rfl
  · rw [Nat.add_zero, h.l0 hj]
    rfl
  · rw [h.l1 hj]
    rfl
  · rw [h.l2 hj]
    rfl
theorem SX.rng (h : SX w p A cA B cB m n V cV fl pv nx sz wk F) {j : Nat} (hj : j < m + n) : w.rangeAt A (j * 3) [.int .i64 (fl j), .int .i64 (pv j : Int), .int .i64 (nx j : Int)] := fun k v hv => by
  match k, hv with
  | 0, hv => rw [← hv]; exact h.l0 hj
  | 1, hv => rw [← hv]; exact h.l1 hj
  | 2, hv => rw [← hv]; exact h.l2 hj
theorem SX.setS (h : SX w p A cA B cB m n V cV fl pv nx sz wk F) (k v : Nat) : SX (w.setCell ⟨B, k, none⟩ (.int .i64 (v : Int))) p A cA B cB m n V cV fl pv nx (updN sz k v) wk F := by
  have hb : ∀ j, j ≠ B → (w.setCell ⟨B, k, none⟩ (.int .i64 (v : Int))).heap[j]? = w.heap[j]? := fun j hj => Below.heap_setCell w ⟨B, k, none⟩ _ j hj
  refine ⟨(hb p h.pB).trans h.blk, h.rowA.block (hb A h.AB), (h.rowB.set_ k _).same fun j _ => ?_, h.rowV.keepAny fun g e => hb g (h.BV e).symm, fun x e => ⟨(hb _ (h.wB e)).trans (h.wlk x e).1, (h.wlk x e).2⟩, h.mp, h.mA, h.mB, h.mV, fun j hF => by simpa using h.old j hF, h.pos, h.mpos⟩
  unfold updV updN
  by_cases e : j = k
  · rw [if_pos e, if_pos e]
  · rw [if_neg e, if_neg e]
theorem SX.setW {x : Nat × Nat} (h : SX w p A cA B cB m n V cV fl pv nx sz (some x) F) (v : Nat) : SX (w.setCell ⟨x.1, 0, none⟩ (.int .i64 (v : Int))) p A cA B cB m n V cV fl pv nx sz (some (x.1, v)) F := by
  have hb : ∀ j, j ≠ x.1 → (w.setCell ⟨x.1, 0, none⟩ (.int .i64 (v : Int))).heap[j]? = w.heap[j]? := fun j hj => Below.heap_setCell w ⟨x.1, 0, none⟩ _ j hj
  refine ⟨(hb p (h.wp rfl).symm).trans h.blk, h.rowA.block (hb A (h.wA rfl).symm), h.rowB.block (hb B (h.wB rfl).symm), h.rowV.keepAny fun g e => hb g (h.wV rfl e).symm, fun y e => ?_, h.mp, h.mA, h.mB, h.mV, fun j hF => by simpa using h.old j hF, h.pos, h.mpos⟩
  injection e with e
  subst e
  exact ⟨blk_set (h.wlk x rfl).1 0 _, (h.wlk x rfl).2⟩
theorem SX.wcell {x : Nat × Nat} (h : SX w p A cA B cB m n V cV fl pv nx sz (some x) F) : w.cell? ⟨x.1, 0, none⟩ = some (.int .i64 (x.2 : Int)) ∧ w.frozen? ⟨x.1, 0, none⟩ = false := ⟨blk_cell (h.wlk x rfl).1 0, blk_free (h.wlk x rfl).1 0⟩
end
end Go.Proofs.Ytkmakdhlaenaoaa
