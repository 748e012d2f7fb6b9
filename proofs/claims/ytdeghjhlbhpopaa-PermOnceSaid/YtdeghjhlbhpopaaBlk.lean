/- Blocks of the call's own, and what walks want beside, over any program. -/
import Derived.Test.YtdeghjhlbhpopaaBytes
import Derived.Laws.MakeOwn
import Derived.Tactics
import Derived.Laws.Rows
namespace Go.Proofs.Ytdeghjhlbhpopaa
open Go.RowKit
theorem lt_heap {w : World} {g : Nat} {o : Obj} (h : w.heap[g]? = some o) : g < w.heap.size := by
  rcases Nat.lt_or_ge g w.heap.size with hlt | hge
  · exact hlt
  · rw [Array.getElem?_eq_none hge] at h; cases h
theorem blk_cell {w : World} {g : Nat} {cs : Array Value} {t : TypeId} (h : w.heap[g]? = some (.cells cs t (0, 0))) (i : Nat) : w.cell? ⟨g, i, none⟩ = cs[i]? := cell_of_row w g i cs t (0, 0) h
theorem blk_free {w : World} {g : Nat} {cs : Array Value} {t : TypeId} (h : w.heap[g]? = some (.cells cs t (0, 0))) (i : Nat) : w.frozen? ⟨g, i, none⟩ = false := by simp [World.frozen?, h]
theorem blk_set {w : World} {g : Nat} {cs : Array Value} {t : TypeId} (h : w.heap[g]? = some (.cells cs t (0, 0))) (i : Nat) (v : Value) : (w.setCell ⟨g, i, none⟩ v).heap[g]? = some (.cells (cs.setIfInBounds i v) t (0, 0)) := by
  simp [World.setCell, Array.getElem?_modify, h]
theorem blk_far {w : World} {g : Nat} {o : Obj} (h : w.heap[g]? = some o) {p : Addr} (hp : g ≠ p.block) (v : Value) : (w.setCell p v).heap[g]? = some o := (Below.heap_setCell w p v g hp).trans h
theorem blk_old {w : World} {g : Nat} {x : Obj} (h : w.heap[g]? = some x) (o : Obj) : (w.alloc o).heap[g]? = some x := (Below.heap_alloc w o g (lt_heap h)).trans h

/-- Sixteen bytes, as an array. -/
def arr16 (f : Nat → Int) : Array Value := #[.int .u8 (f 0), .int .u8 (f 1), .int .u8 (f 2), .int .u8 (f 3), .int .u8 (f 4), .int .u8 (f 5), .int .u8 (f 6), .int .u8 (f 7), .int .u8 (f 8), .int .u8 (f 9), .int .u8 (f 10), .int .u8 (f 11), .int .u8 (f 12), .int .u8 (f 13), .int .u8 (f 14), .int .u8 (f 15)]
theorem arr16_get (f : Nat → Int) (k : Nat) (hk : k < 16) : (arr16 f)[k]? = some (.int .u8 (f k)) := by
  match k, hk with
  | 0, _ => rfl
  | 1, _ => rfl
  | 2, _ => rfl
  | 3, _ => rfl
  | 4, _ => rfl
  | 5, _ => rfl
  | 6, _ => rfl
  | 7, _ => rfl
  | 8, _ => rfl
  | 9, _ => rfl
  | 10, _ => rfl
  | 11, _ => rfl
  | 12, _ => rfl
  | 13, _ => rfl
  | 14, _ => rfl
  | 15, _ => rfl
  | k + 16, h => exact absurd h (by omega)
/-- A new slice of n bytes 0. -/
theorem run_make_bytes {P : Program} (w : World) (t e : TypeId) (i : TypeInfo) (ht : P.underlying t = some (.slice e)) (hi : P.info? e = some i) (hz : i.zero = some (.int .u8 0)) (hsize : i.size = 1) (hby : i.bytes = 1) (n : Nat) (hn : n ≤ 140737488355328) :
    (Instr.makeSlice t (.int .i64 (n : Int)) (.int .i64 (n : Int))).run P w = .ok (.slice (some ⟨w.heap.size, 0, none⟩) n n) (w.alloc (.cells (madeCells (Value.int .u8 0).cells n) e)) := by
  have h := run_make w t e i (.int .u8 0) ht hi hz .i64 .i64 (n : Int) (n : Int) (by omega) (by omega) (by rw [hby]; omega) (by omega)
  simp only [Int.toNat_natCast, hsize, Nat.mul_one] at h
  exact h
theorem made_own (w : World) (e : TypeId) (n : Nat) (hn : n ≤ 140737488355328) (g : Nat) (hg : g = w.heap.size) : Own (w.alloc (.cells (madeCells (Value.int .u8 0).cells n) e)) w.heap.size e (some ⟨g, 0, none⟩) n n (fun _ => 0) := by
  subst hg
  refine ⟨by simp [nums_len], .inr ⟨w.heap.size, n, _, rfl, Nat.le_refl _, heap_alloc_new w _, Nat.le_refl _, by unfold maxLen; omega, by simp [size_madeCells], ?_⟩⟩
  refine List.ext_getElem? fun k => ?_
  by_cases hk : k < n
  · simp [hk, nums, madeCells, Value.cells]
    rw [Nat.mod_one]
    rfl
  · rw [List.getElem?_eq_none (by simp [size_madeCells]; omega), List.getElem?_eq_none (by simp [nums_len]; omega)]

/-- A region all of whose orders end in one frame and one world. -/
theorem wp_one {P : Program} {c : Code} {Q : Exit → Act → World → Prop} {a : Act} {w : World} (F : Act) (W : World) (h : c.wp P (fun e a' w' => e = .normal ∧ a' = F ∧ w' = W) a w) (hq : Q .normal F W) : c.wp P Q a w :=
  Code.wp_mono (fun e a' w' h => by obtain ⟨rfl, rfl, rfl⟩ := h; exact hq) h
theorem made_own0 (w : World) (base : Nat) (e : TypeId) (c : Nat) (hc : c ≤ 140737488355328) (hb : base ≤ w.heap.size) (f : Nat → Int) (g : Nat) (hg : g = w.heap.size) : Own (w.alloc (.cells (madeCells (Value.int .u8 0).cells c) e)) base e (some ⟨g, 0, none⟩) 0 c f := by
  subst hg
  exact ⟨by simp [nums], .inr ⟨w.heap.size, c, _, rfl, hb, heap_alloc_new w _, Nat.zero_le _, by unfold maxLen; omega, by simp [size_madeCells], by simp [nums]⟩⟩
theorem Own.drew {w : World} {base : Nat} {e : TypeId} {A : Option Addr} {n c : Nat} {f : Nat → Int} (h : Own w base e A n c f) : Own w.drew base e A n c f := h
/-- A whole array, loaded in a region that keeps it. -/
theorem wpQuiet_load_row {P : Program} {ops : Array Oper} {C : World → Prop} {Q : Act → Prop} {a : Act} {o : Oper} {rest : List Oper} (hw : Region.wanted o (yielded ops a.tmps) = true) (ty : TypeId) (x : Operand) (ho : o.op = .load ty x)
    (g : Nat) (hx : a.eval x = .pointer (some ⟨g, 0, none⟩)) (t : TypeId) (cs : Array Value) (fr : Nat × Nat) (d : TypeDesc) (hg : ∀ w, C w → w.heap[g]? = some (.cells cs t fr))
    (hu : P.underlying ty = some d) (hd : (match d with | .struct _ | .array _ _ => true | _ => false) = true) (hi : (P.info? ty).map (·.size) = some cs.size)
    (h : wpQuiet P ops C Q rest (a.put o.dst (.agg cs))) : wpQuiet P ops C Q (o :: rest) a := by
  refine BigFrame.wpQuiet_want hw fun K hK => ⟨.agg cs, fun w hC => ?_, hK _ h⟩
  unfold Oper.quietAt execOp
  simp only [ho, hx, Instr.loadAt, Instr.sureAddr, Sem.run_bind, Sem.run_pure, Result.andThen_ok, run_loadVar_row w g t ty cs fr d (hg w hC) hu hd hi]
  exact ⟨rfl, rfl⟩
theorem stay_blk {w : World} {g : Nat} {o : Obj} (h : w.heap[g]? = some o) : ∀ x, (∃ W : Stay w, x = W.w) → x.heap[g]? = some o := by
  rintro x ⟨W, rfl⟩
  exact (W.below.block _ (lt_heap h)).trans h
theorem still_below {P : Program} {fn : FuncId} {args : Array Value} {w : World} {v : Ending} (h : Calls P fn args w fun e w' => e = v ∧ w = w') : Calls P fn args w fun e w' => e = v ∧ Below w.heap.size w w' :=
  h.mono fun _ _ ⟨a, b⟩ => ⟨a, by subst b; exact Below.refl _ _⟩
theorem Own.cap_le {w : World} {base : Nat} {e : TypeId} {A : Option Addr} {n c : Nat} {f : Nat → Int} (h : Own w base e A n c f) : c ≤ 9223372036854775807 := by
  rcases h.2 with ⟨hv, _⟩ | ⟨g, cap, cur, hv, _, _, _, hm, _⟩
  · injection hv with _ _ h3
    omega
  · injection hv with _ _ h3
    unfold maxLen at hm
    omega
theorem below_drewN {B : Nat} {w w' : World} (h : Below B w w') (n : Nat) : Below B w (w'.drewN n) := ⟨h.os, h.tape, h.output, h.size, h.block⟩
/-- Some bytes in the middle of a block. -/
theorem blk_rd {w : World} {g B i n : Nat} {cs : Array Value} {t : TypeId} {f : Nat → Int} (h : w.heap[g]? = some (.cells cs t (0, 0))) (hB : g < B) (hf : ∀ k, k < n → cs[i + k]? = some (.int .u8 (f k))) : Rd w B (some ⟨g, i, none⟩) n f :=
  .inr ⟨g, i, rfl, hB, fun k hk => (blk_cell h (i + k)).trans (hf k hk)⟩
end Go.Proofs.Ytdeghjhlbhpopaa
