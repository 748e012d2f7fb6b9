/- General words of stage 9: what is kept, over functions that are ranged over; structs loaded in a quiet region; rows and their blocks; over any program. -/
import Derived.RangeFuncNested
import Derived.RangeFuncBound
import Derived.RangeFuncCalls
import Derived.RangeFuncLeaves
import Derived.Shelf.Abstract
import Derived.Shelf.RegionOpen
import Derived.WalkKit
import Derived.OwnWalkIn
import Derived.TacticsInMore
import Derived.LoopNIn
import Derived.LoopIn
import Derived.Laws.StructEq
import Derived.Test.YtdeghjhlbhpopaaFoot
namespace Go.Proofs.Ytdeghjhlbhpopaa
set_option maxRecDepth 100000
open Go.RowKit Go.Shelf
theorem Kept.grownBy {R : Nat → Prop} {w w' : World} {row : Option Nat} (hg : w.grownBy w' row) (hR : ∀ k, row = some k → R k) : Kept R w w' :=
  ⟨hg.os, hg.tape, hg.output, hg.size, fun k hk hn => hg.block k hk fun e => hn (hR k e.symm)⟩
theorem keptK_t {R : Nat → Prop} {A B C : World} (h : Kept R A B) (k : Kept R B C) : Kept R A C := h.trans k fun _ _ r => r
theorem keptK_b {R : Nat → Prop} {w : World} (hn : ∀ k, w.heap.size ≤ k → R k) (W : World) (l : Nat) (o o' : Obj) (hl : w.heap.size ≤ l) (_ : W.heap[l]? = some o) (_ : o.isCells = false) (_ : o.isWalk = false) : Kept R W (W.putObj l o') :=
  Kept.grownBy (grownBy_putObj' W l o') fun k e => by
    injection e with e
    subst e
    exact hn _ hl
theorem qh_mid {P : Program} {ops : Array Oper} {C : World → Prop} {Q : Act → Prop} {a : Act} {o : Oper} {rest : List Oper} (hw : Region.wanted o (yielded ops a.tmps) = true) (ty : TypeId) (x : Operand) (ho : o.op = .load ty x)
    (g i : Nat) (hx : a.eval x = .pointer (some ⟨g, i, none⟩)) (cs : Array Value) (d : TypeDesc) (hg : ∀ w, C w → w.rangeAt g i cs.toList)
    (hu : P.underlying ty = some d) (hd : d.isRow = true) (hi : (P.info? ty).map (·.size) = some cs.toList.length)
    (h : wpQuiet P ops C Q rest (a.put o.dst (.agg cs))) : wpQuiet P ops C Q (o :: rest) a := by
  refine BigFrame.wpQuiet_want hw fun K hK => ⟨.agg cs, fun w hC => ?_, hK _ h⟩
  unfold Oper.quietAt execOp
  simp only [ho, hx, Instr.loadAt, Instr.sureAddr, Sem.run_bind, Sem.run_pure, Result.andThen_ok, run_loadVar_mid w g i ty cs.toList d (hg w hC) hu hd hi]
  exact ⟨rfl, rfl⟩
theorem qh_row {P : Program} {ops : Array Oper} {C : World → Prop} {Q : Act → Prop} {a : Act} {o : Oper} {rest : List Oper} (hw : Region.wanted o (yielded ops a.tmps) = true) (ty : TypeId) (x : Operand) (ho : o.op = .load ty x)
    (g : Nat) (hx : a.eval x = .pointer (some ⟨g, 0, none⟩)) (t : TypeId) (cs : Array Value) (fr : Nat × Nat) (d : TypeDesc) (hg : ∀ w, C w → w.heap[g]? = some (.cells cs t fr))
    (hu : P.underlying ty = some d) (hd : (match d with | .struct _ | .array _ _ => true | _ => false) = true) (hi : (P.info? ty).map (·.size) = some cs.size)
    (h : wpQuiet P ops C Q rest (a.put o.dst (.agg cs))) : wpQuiet P ops C Q (o :: rest) a := by
  refine BigFrame.wpQuiet_want hw fun K hK => ⟨.agg cs, fun w hC => ?_, hK _ h⟩
  unfold Oper.quietAt execOp
  simp only [ho, hx, Instr.loadAt, Instr.sureAddr, Sem.run_bind, Sem.run_pure, Result.andThen_ok, run_loadVar_row w g t ty cs fr d (hg w hC) hu hd hi]
  exact ⟨rfl, rfl⟩
theorem stay_hp {w : World} {g : Nat} {o : Obj} (h : w.heap[g]? = some o) : ∀ x, (∃ W : Stay w, x = W.w) → x.heap[g]? = some o := by
  rintro x ⟨W, rfl⟩
  exact (W.below.block _ (lt_heap h)).trans h
theorem stay_rng {w : World} {g i : Nat} {l : List Value} (hg : g < w.heap.size) (h : w.rangeAt g i l) : ∀ x, (∃ W : Stay w, x = W.w) → x.rangeAt g i l := by
  rintro x ⟨W, rfl⟩
  exact fun j v hv => (W.below.cell (p := ⟨g, i + j, none⟩) hg).trans (h j v hv)
theorem ownFrom_kept {β : Type} {B : Nat} {w₀ : World} {R : Nat → Prop} (hB : w₀.heap.size ≤ B) : OwnFrom B (fun (_ : β) W => Kept R w₀ W) := fun _ X Y row hs hg hr =>
  ⟨hg.os.trans hs.os, hg.tape.trans hs.tape, hg.output.trans hs.output, Nat.le_trans hs.size hg.size, fun k hk hn => (hg.block k (Nat.lt_of_lt_of_le hk hs.size) fun e => by
    have := (hr k e.symm).1
    omega).trans (hs.block k hk hn)⟩
theorem results_flag {fn : Func} {p : Tmp} (h : fn.results = #[.cell p 4]) (tmps : Array Value) (w : World) (g : Nat) (b : Bool) (hp : tmps.getD p undef = .pointer (some ⟨g, 0, none⟩)) (hc : w.cell? ⟨g, 0, none⟩ = some (.bool b)) : (results fn tmps).run Try.prog w = .ok (.bool b) w := by
  have hp' : tmps[p]?.getD undef = .pointer (some ⟨g, 0, none⟩) := by simpa using hp
  have hu := Try.underlying4
  simp only [results, h]
  go_simp
def ret (v : Value) (W : World) (e : Ending) (w' : World) : Prop := e = .returned v ∧ Below W.heap.size W w'
theorem rdc_pos {w : World} {B m : Nat} {A : Option Addr} {f : Nat → Value} (h : RdC w B A m f) (hm : 0 < m) : ∃ b off, A = some ⟨b, off, none⟩ ∧ b < B ∧ ∀ k, k < m → w.cell? ⟨b, off + k, none⟩ = some (f k) := by
  rcases h with h | h
  · exact absurd h (by omega)
  · exact h
theorem OwnC.block {w w' : World} {base size : Nat} {e : TypeId} {g n c : Nat} {f : Nat → Value} (h : OwnC w base e size (some ⟨g, 0, none⟩) n c f) (hw : w'.heap[g]? = w.heap[g]?) : OwnC w' base e size (some ⟨g, 0, none⟩) n c f := by
  refine ⟨h.1, ?_⟩
  rcases h.2 with hh | ⟨g', cap, cur, hv, hg, hh, r⟩
  · exact .inl hh
  · have hv' := hv
    injection hv' with h1 h2 h3
    injection h1 with h1
    injection h1 with h1
    subst h1
    exact .inr ⟨g, cap, cur, hv, hg, hw.trans hh, r⟩
theorem grown_below {w w' : World} (h : Below w.heap.size w w') : w.grownBy w' none := ⟨h.os, h.tape, h.output, h.size, fun k hk _ => h.block k hk⟩
theorem Kept.setCells {R : Nat → Prop} {w w' : World} (h : Kept R w w') {g : Nat} (hg : R g ∨ w.heap.size ≤ g) : ∀ (vs : List Value) (o : Nat), Kept R w (w'.setCells g o vs) := fun vs => by
  induction vs generalizing w' with
  | nil => exact fun _ => h
  | cons v r ih => exact fun o => ih (h.setCell (p := ⟨g, o, none⟩) hg v) (o + 1)
theorem getD_no {l : Array Bool} {i : Nat} (h : l.getD i true = false) : l.getD i false = false := by
  rw [Array.getD_eq_getD_getElem?] at h ⊢
  cases e : l[i]? with
  | none => rfl
  | some b => rw [e] at h; exact h
theorem rng2 {W : World} {g : Nat} {cs : Array Value} {t : TypeId} {a b : Value} (h : W.heap[g]? = some (.cells cs t (0, 0))) (o : Nat) (h0 : cs[o]? = some a) (h1 : cs[o + 1]? = some b) : W.rangeAt g o [a, b] := fun j v hv => by
  rw [blk_cell h (o + j)]
  match j, hv with
  | 0, hv => rw [← hv]; exact h0
  | 1, hv => rw [← hv]; exact h1
theorem OwnC.blockAny {w w' : World} {base size : Nat} {e : TypeId} {A : Option Addr} {n c : Nat} {f : Nat → Value} (h : OwnC w base e size A n c f) (hw : ∀ g, 0 < n → A = some ⟨g, 0, none⟩ → w'.heap[g]? = w.heap[g]?) (h0 : n = 0 → A = none) : OwnC w' base e size A n c f := by
  rcases Nat.eq_zero_or_pos n with q | q
  · refine ⟨h.1, ?_⟩
    rcases h.2 with hh | ⟨g', cap, cur, hv, r⟩
    · exact .inl hh
    · exfalso
      rw [h0 q] at hv
      cases hv
  · obtain ⟨g, e, _⟩ := h.lies q
    subst e
    exact h.block (hw g q rfl)
theorem ownBlock_some {A : Option Addr} {n c k : Nat} (h : Value.ownBlock (.slice A n c) = some k) : ∃ a, A = some a ∧ a.block = k := by
  cases A with
  | none => cases h
  | some a => exact ⟨a, rfl, by simpa [Value.ownBlock] using h⟩
end Go.Proofs.Ytdeghjhlbhpopaa
