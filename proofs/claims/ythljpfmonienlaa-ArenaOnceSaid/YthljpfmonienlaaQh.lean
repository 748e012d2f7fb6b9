/- Handles compared; structs loaded in a quiet region; a promise on kept blocks for a loop over a function. -/
import Derived.Test.YthljpfmonienlaaTl
import Derived.Laws.StructEq
namespace Go.Proofs.Ythljpfmonienlaa
set_option maxRecDepth 100000
open Go.RowKit Go.Shelf
theorem qh_mid {P : Program} {ops : Array Oper} {C : World → Prop} {Q : Act → Prop} {a : Act} {o : Oper} {rest : List Oper} (hw : Region.wanted o (yielded ops a.tmps) = true) (ty : TypeId) (x : Operand) (ho : o.op = .load ty x)
    (g i : Nat) (hx : a.eval x = .pointer (some ⟨g, i, none⟩)) (cs : Array Value) (d : TypeDesc) (hg : ∀ w, C w → w.rangeAt g i cs.toList)
    (hu : P.underlying ty = some d) (hd : d.isRow = true) (hi : (P.info? ty).map (·.size) = some cs.toList.length)
    (h : wpQuiet P ops C Q rest (a.put o.dst (.agg cs))) : wpQuiet P ops C Q (o :: rest) a := by
  refine BigFrame.wpQuiet_want hw fun K hK => ⟨.agg cs, fun w hC => ?_, hK _ h⟩
  unfold Oper.quietAt execOp
  simp only [ho, hx, Instr.loadAt, Instr.sureAddr, Sem.run_bind, Sem.run_pure, Result.andThen_ok, run_loadVar_mid w g i ty cs.toList d (hg w hC) hu hd hi]
  exact ⟨rfl, rfl⟩
theorem qh_row {P : Program} {ops : Array Oper} {C : World → Prop} {Q : Act → Prop} {a : Act} {o : Oper} {rest : List Oper} (hw : Region.wanted o (yielded ops a.tmps) = true) (ty : TypeId) (x : Operand) (ho : o.op = .load ty x)
    (g : Nat) (hx : a.eval x = .pointer (some ⟨g, 0, none⟩)) (t : TypeId) (cs : Array Value) (fr : Nat × Nat) (d : TypeDesc) (hg : ∀ w, C w → w.heap[g]? = some (.cells cs t fr))
    (hu : P.underlying ty = some d) (hd : (match d with | .struct _ | .array _ _ => true | _ => false) = true) (hi : (P.info? ty).map (·.size) = some cs.size)
    (h : wpQuiet P ops C Q rest (a.put o.dst (.agg cs))) : wpQuiet P ops C Q (o :: rest) a := by
  refine BigFrame.wpQuiet_want hw fun K hK => ⟨.agg cs, fun w hC => ?_, hK _ h⟩
  unfold Oper.quietAt execOp
  simp only [ho, hx, Instr.loadAt, Instr.sureAddr, Sem.run_bind, Sem.run_pure, Result.andThen_ok, run_loadVar_row w g t ty cs fr d (hg w hC) hu hd hi]
  exact ⟨rfl, rfl⟩
theorem stay_hp {w : World} {g : Nat} {o : Obj} (h : w.heap[g]? = some o) : ∀ x, (∃ W : Stay w, x = W.w) → x.heap[g]? = some o := by
  rintro x ⟨W, rfl⟩
  exact (W.below.block _ (lt_heap h)).trans h
theorem stay_rng {w : World} {g i : Nat} {l : List Value} (hg : g < w.heap.size) (h : w.rangeAt g i l) : ∀ x, (∃ W : Stay w, x = W.w) → x.rangeAt g i l := by
  rintro x ⟨W, rfl⟩
  exact fun j v hv => (W.below.cell (p := ⟨g, i + j, none⟩) hg).trans (h j v hv)
theorem ownFrom_kept {β : Type} {B : Nat} {w₀ : World} {R : Nat → Prop} (hB : w₀.heap.size ≤ B) : OwnFrom B (fun (_ : β) W => Kept R w₀ W) := fun _ X Y row hs hg hr =>
  ⟨hg.os.trans hs.os, hg.tape.trans hs.tape, hg.output.trans hs.output, Nat.le_trans hs.size hg.size, fun k hk hn => (hg.block k (Nat.lt_of_lt_of_le hk hs.size) fun e => by
    have := (hr k e.symm).1
    omega).trans (hs.block k hk hn)⟩
theorem eqH (a b c d : Int) (W : World) : (Op.equalIn 10000 32 (.agg #[.int .i64 a, .int .u64 b]) (.agg #[.int .i64 c, .int .u64 d])).run Try.prog W = .ok (a == c && b == d) W := by
  have hf : Try.prog.underlying 32 = some (.struct (Try.prog.fieldsOf 32)) := by kernel_rfl
  rw [run_equalIn_struct W 9999 32 _ _ hf (by kernel_rfl)]
  have hl : (Try.prog.fieldsOf 32).toList = [{ name := "I", type := 3, offset := 0, embedded := false, tag := "", pkgPath := "", byteOffset := 0 }, { name := "Serial", type := 30, offset := 1, embedded := false, tag := "", pkgPath := "", byteOffset := 8 }] := by kernel_rfl
  rw [hl]
  have e1 := run_equalIn_int (P := Try.prog) W 9998 3 .i64 .i64 a c Try.underlying3
  have e2 := run_equalIn_int (P := Try.prog) W 9998 30 .u64 .u64 b d Try.underlying30
  have p0 : ∀ (a b : Int), (part 3 #[.int .i64 a, .int .u64 b] 0).run Try.prog W = .ok (.int .i64 a) W := fun a b => by kernel_rfl
  have p1 : ∀ (a b : Int), (part 30 #[.int .i64 a, .int .u64 b] 1).run Try.prog W = .ok (.int .u64 b) W := fun a b => by kernel_rfl
  cases hv : (a == c) <;> cases hp : (b == d) <;> rw [hv] at e1 <;> rw [hp] at e2 <;> simp [Op.eqFields, Sem.run_bind, p0, p1, e1, e2, Result.andThen_ok, Sem.run_ite, Sem.run_pure]
theorem neqH (a b c d : Int) (W : World) : (binOp .neq 32 (.agg #[.int .i64 a, .int .u64 b]) (.agg #[.int .i64 c, .int .u64 d])).run Try.prog W = .ok (.bool (!(a == c && b == d))) W := by
  have h : (Op.equalIn Op.maxDepth 32 (.agg #[.int .i64 a, .int .u64 b]) (.agg #[.int .i64 c, .int .u64 d])).run Try.prog W = _ := eqH a b c d W
  unfold binOp
  simp [Op.equal, h, Result.andThen_ok]
theorem eqlH (a b c d : Int) (W : World) : (binOp .eql 32 (.agg #[.int .i64 a, .int .u64 b]) (.agg #[.int .i64 c, .int .u64 d])).run Try.prog W = .ok (.bool (a == c && b == d)) W := by
  have h : (Op.equalIn Op.maxDepth 32 (.agg #[.int .i64 a, .int .u64 b]) (.agg #[.int .i64 c, .int .u64 d])).run Try.prog W = _ := eqH a b c d W
  unfold binOp
  simp [Op.equal, h, Result.andThen_ok]
theorem results_flag {fn : Func} {p : Tmp} (h : fn.results = #[.cell p 4]) (tmps : Array Value) (w : World) (g : Nat) (b : Bool) (hp : tmps.getD p undef = .pointer (some ⟨g, 0, none⟩)) (hc : w.cell? ⟨g, 0, none⟩ = some (.bool b)) : (results fn tmps).run Try.prog w = .ok (.bool b) w := by
  have hp' : tmps[p]?.getD undef = .pointer (some ⟨g, 0, none⟩) := by simpa using hp
  have hu := Try.underlying4
  simp only [results, h]
  go_simp
end Go.Proofs.Ythljpfmonienlaa
