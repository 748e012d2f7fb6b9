/- Stage 10: copies, new ones; calls upon both. -/
import Derived.Test.YthlnhkkjpjbmeaaXg
namespace Go.Proofs.Ythlnhkkjpjbmeaa
set_option maxRecDepth 100000
open Go.RowKit Go.Shelf
theorem SX.blocks {w w' : World} {p A cA B cB m n : Nat} {V : Option Addr} {cV : Nat} {fl : Nat → Int} {pv nx sz : Nat → Nat} {wk : Option (Nat × Nat)} {F : Nat → Prop} (h : SX w p A cA B cB m n V cV fl pv nx sz wk F) (hl : ∀ k, F k → k < w'.heap.size) (hb : ∀ k, F k → w'.heap[k]? = w.heap[k]?) : SX w' p A cA B cB m n V cV fl pv nx sz wk F :=
  ⟨(hb p h.mp).trans h.blk, h.rowA.block (hb A h.mA), h.rowB.block (hb B h.mB), h.rowV.keepAny fun g e => hb g (h.mV g e), fun x e => ⟨(hb _ (h.wlk x e).2).trans (h.wlk x e).1, (h.wlk x e).2⟩, h.mp, h.mA, h.mB, h.mV, hl, h.pos, h.mpos⟩
theorem PA.blocks {w w' : World} {p : Nat} {s : Sl} {F : Nat → Prop} (h : PA w p s F) (hl : ∀ k, F k → k < w'.heap.size) (hb : ∀ k, F k → w'.heap[k]? = w.heap[k]?) : PA w' p s F := by
  obtain ⟨A, cA, B, cB, V, cV, fl, pv, nx, sz, hx, hr⟩ := h
  exact ⟨A, cA, B, cB, V, cV, fl, pv, nx, sz, hx.blocks hl hb, hr⟩
/-- The landed slots at p, others at b, the document's at q. -/
def CopyD (wb : World) (X : Nat → Prop) (W : World) (p b q : Nat) (s t u : Sl) : Prop := ∃ G C D, RS W q u G ∧ PA W b t C ∧ PA W p s D ∧ (∀ k, G k → wb.heap.size ≤ k ∧ ¬ X k) ∧ (∀ k, C k → wb.heap.size ≤ k ∧ ¬ X k ∧ ¬ G k) ∧ (∀ k, D k → wb.heap.size ≤ k ∧ ¬ X k ∧ ¬ G k ∧ ¬ C k) ∧ (∀ k, X k → k < W.heap.size) ∧ Below wb.heap.size wb W
section
variable {wb W : World} {X : Nat → Prop} {p b q : Nat} {s t u : Sl}
theorem CopyD.symm (h : CopyD wb X W p b q s t u) : CopyD wb X W b p q t s u := by
  obtain ⟨G, C, D, h1, h2, h3, h4, h5, h6, h7, h8⟩ := h
  exact ⟨G, D, C, h1, h3, h2, h4, fun k r => ⟨(h6 k r).1, (h6 k r).2.1, (h6 k r).2.2.1⟩, fun k r => ⟨(h5 k r).1, (h5 k r).2.1, (h5 k r).2.2, fun d => (h6 k d).2.2.2 r⟩, h7, h8⟩
theorem CopyD.drop (h : CopyD wb X W p b q s t u) : TwoD wb X W b q t u := by
  obtain ⟨G, C, D, h1, h2, h3, h4, h5, h6, h7, h8⟩ := h
  refine ⟨G, h1, h4, ST.of_pa h2 (fun k r => ⟨(h5 k r).1, fun hx => ?_⟩) (fun k r => ?_) h8⟩
  · rcases hx with hx | hx
    · exact (h5 k r).2.1 hx
    · exact (h5 k r).2.2 hx
  · rcases r with r | r
    · exact h7 k r
    · exact h1.old k r
theorem CopyD.left (h : CopyD wb X W p b q s t u) {f : FuncId} {args : Array Value} {v : Value} {s' : Sl} (hc : ∀ Y, ST wb p s Y W → Calls Try.prog f args W fun e w' => e = .returned v ∧ ST wb p s' Y w' ∧ ∀ k, Y k → w'.heap[k]? = W.heap[k]?) :
    Calls Try.prog f args W fun e w' => e = .returned v ∧ CopyD wb X w' p b q s' t u ∧ ∀ k, X k → w'.heap[k]? = W.heap[k]? := by
  obtain ⟨G, C, D, h1, h2, h3, h4, h5, h6, h7, h8⟩ := h
  have hst : ST wb p s (Or2 (Or2 X G) C) W := ST.of_pa h3 (fun k r => ⟨(h6 k r).1, fun hx => by
    rcases hx with (hx | hx) | hx
    · exact (h6 k r).2.1 hx
    · exact (h6 k r).2.2.1 hx
    · exact (h6 k r).2.2.2 hx⟩) (fun k r => by
    rcases r with (r | r) | r
    · exact h7 k r
    · exact h1.old k r
    · exact h2.old k r) h8
  refine (hc _ hst).mono ?_
  rintro e w' ⟨rfl, hs', hk⟩
  obtain ⟨D', hd, hD⟩ := hs'.pa
  refine ⟨rfl, ⟨G, C, D', h1.blocks (fun k r => hs'.lt k (.inl (.inr r))) fun k r => hk k (.inl (.inr r)), h2.blocks (fun k r => hs'.lt k (.inr r)) fun k r => hk k (.inr r), hd, h4, h5, fun k r => ⟨(hD k r).1, fun x => (hD k r).2 (.inl (.inl x)), fun x => (hD k r).2 (.inl (.inr x)), fun x => (hD k r).2 (.inr x)⟩, fun k r => hs'.lt k (.inl (.inl r)), hs'.below⟩, fun k r => hk k (.inl (.inl r))⟩
theorem TwoD.copy (h : TwoD wb X W p q s u) (hs : s.Fit) : Calls Try.prog 16 #[.pointer (some ⟨p, 0, none⟩)] W fun e w' => ∃ b, e = .returned (.pointer (some ⟨b, 0, none⟩)) ∧ CopyD wb X w' p b q s s u ∧ ∀ k, X k → w'.heap[k]? = W.heap[k]? := by
  obtain ⟨G, h1, h2, h3⟩ := h
  have hlt := h3.lt
  refine (h3.copy hs).mono ?_
  rintro e w' ⟨b, C, D, rfl, hc, hd, hC, hD, hl, hb, hbw⟩
  refine ⟨b, rfl, ⟨G, C, D, h1.step hbw, hc, hd, h2, fun k r => ⟨(hC k r).1, fun x => (hC k r).2.1 (.inl x), fun x => (hC k r).2.1 (.inr x)⟩, fun k r => ⟨(hD k r).1, fun x => (hD k r).2.1 (.inl x), fun x => (hD k r).2.1 (.inr x), (hD k r).2.2⟩, fun k r => hl k (.inl r), hb⟩, fun k r => hbw.block k (hlt k (.inl r))⟩
/-- The document's Copy: the copy is gone on with. -/
theorem TwoD.rcopy (h : TwoD wb X W p q s u) : Calls Try.prog 17 #[.pointer (some ⟨q, 0, none⟩)] W fun e w' => ∃ q2, e = .returned (.pointer (some ⟨q2, 0, none⟩)) ∧ TwoD wb X w' p q2 s u ∧ ∀ k, X k → w'.heap[k]? = W.heap[k]? := by
  obtain ⟨G, ⟨A, c, rows, hx⟩, h2, h3⟩ := h
  refine (rcopy_any hx).mono ?_
  rintro e w' ⟨q2, G', rfl, hr, hG, hb⟩
  have he : Ext2 G G' W w' := ⟨Kept.of_below hb _, fun k r => (hG k r).imp (fun z => z.1) id⟩
  obtain ⟨h4, _⟩ := h3.regrow he fun k r => (h2 k r).1
  refine ⟨q2, rfl, ⟨G', hr, fun k r => ?_, h4⟩, fun k r => hb.block k (h3.lt k (.inl r))⟩
  rcases hG k r with z | z
  · exact h2 k z.1
  · refine ⟨Nat.le_trans h3.below.size z.1, fun hx => ?_⟩
    have := h3.lt k (.inl hx)
    omega
theorem TwoD.push (h : TwoD wb X W p q s t) (hs : s.Fit) (l c : Int) : Calls Try.prog 9 #[.pointer (some ⟨p, 0, none⟩), .int .i64 l, .int .i64 c] W fun e w' => e = .returned (.int .i64 (s.pushE l c)) ∧ TwoD wb X w' p q (s.push l c) t ∧ ∀ k, X k → w'.heap[k]? = W.heap[k]? := h.left fun _Y hY => hY.push hs l c
theorem TwoD.rem (h : TwoD wb X W p q s t) (hs : s.Fit) (c : Int) : Calls Try.prog 13 #[.pointer (some ⟨p, 0, none⟩), .int .i64 c] W fun e w' => e = .returned (.int .i64 (s.remE c)) ∧ TwoD wb X w' p q (s.rem c) t ∧ ∀ k, X k → w'.heap[k]? = W.heap[k]? := h.left fun _Y hY => hY.remove hs c
theorem TwoD.pop (h : TwoD wb X W p q s t) (hs : s.Fit) (l : Int) : Calls Try.prog 11 #[.pointer (some ⟨p, 0, none⟩), .int .i64 l] W fun e w' => e = .returned (.tuple (s.popE l)) ∧ TwoD wb X w' p q (s.pop l) t ∧ ∀ k, X k → w'.heap[k]? = W.heap[k]? := h.left fun _Y hY => hY.pop hs l
theorem TwoD.rpush (h : TwoD wb X W p q s t) (hs : t.Fit) (l c : Int) : Calls Try.prog 10 #[.pointer (some ⟨q, 0, none⟩), .int .i64 l, .int .i64 c] W fun e w' => e = .returned (.int .i64 (t.pushE l c)) ∧ TwoD wb X w' p q s (t.push l c) ∧ ∀ k, X k → w'.heap[k]? = W.heap[k]? := h.right fun _ ⟨_, _, _, hx⟩ => rpush_any hx hs l c
theorem TwoD.rrem (h : TwoD wb X W p q s t) (hs : t.Fit) (c : Int) : Calls Try.prog 14 #[.pointer (some ⟨q, 0, none⟩), .int .i64 c] W fun e w' => e = .returned (.int .i64 (t.remE c)) ∧ TwoD wb X w' p q s (t.rem c) ∧ ∀ k, X k → w'.heap[k]? = W.heap[k]? := h.right fun _ ⟨_, _, _, hx⟩ => rremove_any hx hs c
theorem TwoD.rpop (h : TwoD wb X W p q s t) (hs : t.Fit) (l : Int) : Calls Try.prog 12 #[.pointer (some ⟨q, 0, none⟩), .int .i64 l] W fun e w' => e = .returned (.tuple (t.popE l)) ∧ TwoD wb X w' p q s (t.pop l) ∧ ∀ k, X k → w'.heap[k]? = W.heap[k]? := h.right fun _ ⟨_, _, _, hx⟩ => rpop_any hx hs l
theorem CopyD.push (h : CopyD wb X W p b q s t u) (hs : s.Fit) (l c : Int) : Calls Try.prog 9 #[.pointer (some ⟨p, 0, none⟩), .int .i64 l, .int .i64 c] W fun e w' => e = .returned (.int .i64 (s.pushE l c)) ∧ CopyD wb X w' p b q (s.push l c) t u ∧ ∀ k, X k → w'.heap[k]? = W.heap[k]? := h.left fun _Y hY => hY.push hs l c
theorem CopyD.pop (h : CopyD wb X W p b q s t u) (hs : s.Fit) (l : Int) : Calls Try.prog 11 #[.pointer (some ⟨p, 0, none⟩), .int .i64 l] W fun e w' => e = .returned (.tuple (s.popE l)) ∧ CopyD wb X w' p b q (s.pop l) t u ∧ ∀ k, X k → w'.heap[k]? = W.heap[k]? := h.left fun _Y hY => hY.pop hs l
end
theorem Sl.Fit.emp {s : Sl} (hs : s.Fit) (l : Int) : (s.emp l).Fit := by
  unfold Sl.emp
  split
  · refine ⟨Sl.ok_put hs.ok (by omega) List.nodup_nil (fun c h => (nomatch h)) (fun c j h => (nomatch h)), hs.m, by rw [Sl.put_len]; exact hs.n⟩
  · exact hs
theorem two_new (wb : World) (X : Nat → Prop) (p : Nat) (n m : Nat) (u : World) (hst : ST wb p (Sl.new n m) X u) (h1 : 1 ≤ n) (hn : n ≤ 4096) : Calls Try.prog 8 #[.int .i64 (n : Int), .int .i64 (m : Int)] u fun e w' => ∃ q, e = .returned (.pointer (some ⟨q, 0, none⟩)) ∧ TwoD wb X w' p q (Sl.new n m) (Sl.new n m) := by
  refine (rnew_any u n m h1 hn).mono ?_
  rintro e w' ⟨q, G, rfl, hr, hG, hb⟩
  refine ⟨q, rfl, G, hr, fun k r => ⟨Nat.le_trans hst.below.size (hG k r).1, fun hx => ?_⟩, hst.more hb hG⟩
  have := hst.lt k hx
  have := (hG k r).1
  omega
def iffS (b : Bool) (t s : Sl) : Sl := if b = true then t else s
theorem iffS_ne {l : Array Bool} {i j : Nat} (h : j ≠ i) (t s : Sl) : iffS ((l.setIfInBounds i true).getD j false) t s = iffS (l.getD j false) t s := by rw [getD_set h]
theorem iffS_at {l : Array Bool} {i : Nat} (h : l.getD i true = false) (t s : Sl) : iffS ((l.setIfInBounds i true).getD i false) t s = t := by
  rw [getD_set_self h]
  rfl
theorem popE_eq (s : Sl) (c : Int) : ∃ (a : Int) (b : Bool), s.popE c = #[.int .i64 a, .bool b] := by
  unfold Sl.popE
  split
  · exact ⟨_, _, rfl⟩
  · exact ⟨_, _, rfl⟩
end Go.Proofs.Ythlnhkkjpjbmeaa
