import Derived.Test.YtlchegibfopglaaK0
import Derived.Laws.MakeOwn
import Derived.Tactics
import Derived.Laws.Rows
import Derived.Test.YtlchegibfopglaaRows
import Derived.KernelRfl
import Derived.Laws.StructEq
import Derived.Laws.BitsAllLaws
import Derived.Deep.RegionHeld3
import Derived.Deep.MidRow
import Derived.Deep.CutRange
import Derived.StillTailTactics
import Derived.WalkLawsBesides
import Derived.IntWalk
import Derived.BigQuiet
import Derived.Laws.CopyOwn
import Derived.Laws.Tables
import Derived.Laws.IdiomCopy
import Derived.Laws.BytesArg
import Derived.Laws.CopyRow
import Derived.WalkKit
import Derived.WalkSpells
import Derived.Deep.Draws
import Derived.Lib.Hide
/- Blocks of the call's own, and what walks want beside, over any program. -/
namespace Go.Proofs.Ytlchegibfopglaa
open Go.RowKit
theorem lt_heap {w : World} {g : Nat} {o : Obj} (h : w.heap[g]? = some o) : g < w.heap.size := by
  rcases Nat.lt_or_ge g w.heap.size with hlt | hge
  · exact hlt
  · rw [Array.getElem?_eq_none hge] at h; cases h
theorem blk_cell {w : World} {g : Nat} {cs : Array Value} {t : TypeId} (h : w.heap[g]? = some (.cells cs t (0, 0))) (i : Nat) : w.cell? ⟨g, i, none⟩ = cs[i]? := cell_of_row w g i cs t (0, 0) h
theorem blk_free {w : World} {g : Nat} {cs : Array Value} {t : TypeId} (h : w.heap[g]? = some (.cells cs t (0, 0))) (i : Nat) : w.frozen? ⟨g, i, none⟩ = false := by simp [World.frozen?, h]
theorem blk_set {w : World} {g : Nat} {cs : Array Value} {t : TypeId} (h : w.heap[g]? = some (.cells cs t (0, 0))) (i : Nat) (v : Value) : (w.setCell ⟨g, i, none⟩ v).heap[g]? = some (.cells (cs.setIfInBounds i v) t (0, 0)) := by
  simp [World.setCell, Array.getElem?_modify, h]
theorem blk_far {w : World} {g : Nat} {o : Obj} (h : w.heap[g]? = some o) {p : Addr} (hp : g ≠ p.block) (v : Value) : (w.setCell p v).heap[g]? = some o := (Below.heap_setCell w p v g hp).trans h
theorem blk_old {w : World} {g : Nat} {x : Obj} (h : w.heap[g]? = some x) (o : Obj) : (w.alloc o).heap[g]? = some x := (Below.heap_alloc w o g (lt_heap h)).trans h

/-- Sixteen bytes, as an array. -/
def arr16 (f : Nat → Int) : Array Value := #[.int .u8 (f 0), .int .u8 (f 1), .int .u8 (f 2), .int .u8 (f 3), .int .u8 (f 4), .int .u8 (f 5), .int .u8 (f 6), .int .u8 (f 7), .int .u8 (f 8), .int .u8 (f 9), .int .u8 (f 10), .int .u8 (f 11), .int .u8 (f 12), .int .u8 (f 13), .int .u8 (f 14), .int .u8 (f 15)]
theorem arr16_get (f : Nat → Int) (k : Nat) (hk : k < 16) : (arr16 f)[k]? = some (.int .u8 (f k)) := by
  match k, hk with
  | 0, _ => rfl
  | 1, _ => rfl
  | 2, _ => rfl
  | 3, _ => rfl
  | 4, _ => rfl
  | 5, _ => rfl
  | 6, _ => rfl
  | 7, _ => rfl
  | 8, _ => rfl
  | 9, _ => rfl
  | 10, _ => rfl
  | 11, _ => rfl
  | 12, _ => rfl
  | 13, _ => rfl
  | 14, _ => rfl
  | 15, _ => rfl
  | k + 16, h => exact absurd h (by omega)
/-- A new slice of n bytes 0. -/
theorem run_make_bytes {P : Program} (w : World) (t e : TypeId) (i : TypeInfo) (ht : P.underlying t = some (.slice e)) (hi : P.info? e = some i) (hz : i.zero = some (.int .u8 0)) (hsize : i.size = 1) (hby : i.bytes = 1) (n : Nat) (hn : n ≤ 140737488355328) :
    (Instr.makeSlice t (.int .i64 (n : Int)) (.int .i64 (n : Int))).run P w = .ok (.slice (some ⟨w.heap.size, 0, none⟩) n n) (w.alloc (.cells (madeCells (Value.int .u8 0).cells n) e)) := by
  have h := run_make w t e i (.int .u8 0) ht hi hz .i64 .i64 (n : Int) (n : Int) (by omega) (by omega) (by rw [hby]; omega) (by omega)
  simp only [Int.toNat_natCast, hsize, Nat.mul_one] at h
  exact h
theorem made_own (w : World) (e : TypeId) (n : Nat) (hn : n ≤ 140737488355328) (g : Nat) (hg : g = w.heap.size) : Own (w.alloc (.cells (madeCells (Value.int .u8 0).cells n) e)) w.heap.size e (some ⟨g, 0, none⟩) n n (fun _ => 0) := by
  subst hg
  refine ⟨by simp [nums_len], .inr ⟨w.heap.size, n, _, rfl, Nat.le_refl _, heap_alloc_new w _, Nat.le_refl _, by unfold maxLen; omega, by simp [size_madeCells], ?_⟩⟩
  refine List.ext_getElem? fun k => ?_
  by_cases hk : k < n
  · simp [hk, nums, madeCells, Value.cells]
    rw [Nat.mod_one]
    rfl
  · rw [List.getElem?_eq_none (by simp [size_madeCells]; omega), List.getElem?_eq_none (by simp [nums_len]; omega)]

/-- A region all of whose orders end in one frame and one world. -/
theorem wp_one {P : Program} {c : Code} {Q : Exit → Act → World → Prop} {a : Act} {w : World} (F : Act) (W : World) (h : c.wp P (fun e a' w' => e = .normal ∧ a' = F ∧ w' = W) a w) (hq : Q .normal F W) : c.wp P Q a w :=
  Code.wp_mono (fun e a' w' h => by obtain ⟨rfl, rfl, rfl⟩ := h; exact hq) h
theorem made_own0 (w : World) (base : Nat) (e : TypeId) (c : Nat) (hc : c ≤ 140737488355328) (hb : base ≤ w.heap.size) (f : Nat → Int) (g : Nat) (hg : g = w.heap.size) : Own (w.alloc (.cells (madeCells (Value.int .u8 0).cells c) e)) base e (some ⟨g, 0, none⟩) 0 c f := by
  subst hg
  exact ⟨by simp [nums], .inr ⟨w.heap.size, c, _, rfl, hb, heap_alloc_new w _, Nat.zero_le _, by unfold maxLen; omega, by simp [size_madeCells], by simp [nums]⟩⟩
theorem Own.drew {w : World} {base : Nat} {e : TypeId} {A : Option Addr} {n c : Nat} {f : Nat → Int} (h : Own w base e A n c f) : Own w.drew base e A n c f := h
/-- A whole array, loaded in a region that keeps it. -/
theorem wpQuiet_load_row {P : Program} {ops : Array Oper} {C : World → Prop} {Q : Act → Prop} {a : Act} {o : Oper} {rest : List Oper} (hw : Region.wanted o (yielded ops a.tmps) = true) (ty : TypeId) (x : Operand) (ho : o.op = .load ty x)
    (g : Nat) (hx : a.eval x = .pointer (some ⟨g, 0, none⟩)) (t : TypeId) (cs : Array Value) (fr : Nat × Nat) (d : TypeDesc) (hg : ∀ w, C w → w.heap[g]? = some (.cells cs t fr))
    (hu : P.underlying ty = some d) (hd : (match d with | .struct _ | .array _ _ => true | _ => false) = true) (hi : (P.info? ty).map (·.size) = some cs.size)
    (h : wpQuiet P ops C Q rest (a.put o.dst (.agg cs))) : wpQuiet P ops C Q (o :: rest) a := by
  refine BigFrame.wpQuiet_want hw fun K hK => ⟨.agg cs, fun w hC => ?_, hK _ h⟩
  unfold Oper.quietAt execOp
  simp only [ho, hx, Instr.loadAt, Instr.sureAddr, Sem.run_bind, Sem.run_pure, Result.andThen_ok, run_loadVar_row w g t ty cs fr d (hg w hC) hu hd hi]
  exact ⟨rfl, rfl⟩
theorem stay_blk {w : World} {g : Nat} {o : Obj} (h : w.heap[g]? = some o) : ∀ x, (∃ W : Stay w, x = W.w) → x.heap[g]? = some o := by
  rintro x ⟨W, rfl⟩
  exact (W.below.block _ (lt_heap h)).trans h
theorem still_below {P : Program} {fn : FuncId} {args : Array Value} {w : World} {v : Ending} (h : Calls P fn args w fun e w' => e = v ∧ w = w') : Calls P fn args w fun e w' => e = v ∧ Below w.heap.size w w' :=
  h.mono fun _ _ ⟨a, b⟩ => ⟨a, by subst b; exact Below.refl _ _⟩
theorem Own.cap_le {w : World} {base : Nat} {e : TypeId} {A : Option Addr} {n c : Nat} {f : Nat → Int} (h : Own w base e A n c f) : c ≤ 9223372036854775807 := by
  rcases h.2 with ⟨hv, _⟩ | ⟨g, cap, cur, hv, _, _, _, hm, _⟩
  · injection hv with _ _ h3
    omega
  · injection hv with _ _ h3
    unfold maxLen at hm
    omega
theorem below_drewN {B : Nat} {w w' : World} (h : Below B w w') (n : Nat) : Below B w (w'.drewN n) := ⟨h.os, h.tape, h.output, h.size, h.block⟩
/-- Some bytes in the middle of a block. -/
theorem blk_rd {w : World} {g B i n : Nat} {cs : Array Value} {t : TypeId} {f : Nat → Int} (h : w.heap[g]? = some (.cells cs t (0, 0))) (hB : g < B) (hf : ∀ k, k < n → cs[i + k]? = some (.int .u8 (f k))) : Rd w B (some ⟨g, i, none⟩) n f :=
  .inr ⟨g, i, rfl, hB, fun k hk => (blk_cell h (i + k)).trans (hf k hk)⟩
end Go.Proofs.Ytlchegibfopglaa
/- A byte's type in this program: it is 0 at first, one cell, one byte. -/
namespace Go.Proofs.Ytlchegibfopglaa
set_option maxRecDepth 100000
theorem Try.info5 : (Try.prog.info? 5).map (fun i => (i.zero, i.size, i.bytes)) = some (some (.int .u8 0), 1, 1) := by kernel_rfl
end Go.Proofs.Ytlchegibfopglaa
/- Two arrays of bytes compared, over any program. -/
namespace Go.Proofs.Ytlchegibfopglaa
open Go.RowKit
/-- Are m numbers the same, from place i on? -/
def eqs (x y : Nat → Int) (i : Nat) : Nat → Bool
  | 0 => true
  | m + 1 => x i == y i && eqs x y (i + 1) m
theorem eqs_iff (x y : Nat → Int) : ∀ m i, eqs x y i m = true ↔ ∀ k, i ≤ k → k < i + m → x k = y k
  | 0, i => by simp [eqs]; omega
  | m + 1, i => by
    simp only [eqs, Bool.and_eq_true, beq_iff_eq, eqs_iff x y m (i + 1)]
    constructor
    · rintro ⟨h, hr⟩ k h1 h2
      by_cases e : k = i
      · subst e; exact h
      · exact hr k (by omega) (by omega)
    · exact fun h => ⟨h i (Nat.le_refl _) (by omega), fun k h1 h2 => h k (by omega) (by omega)⟩
theorem equal_bytes {P : Program} (d : Nat) (t e : TypeId) (n : Nat) (xs ys : Array Value) (x y : Nat → Int) (ht : P.underlying t = some (.array n e)) (he : P.underlying e = some (.int .u8)) (hs : (P.info? e).map (·.size) = some 1)
    (hx : ∀ k, k < n → xs[k]? = some (.int .u8 (x k))) (hy : ∀ k, k < n → ys[k]? = some (.int .u8 (y k))) (w : World) :
    (Op.equalIn (d + 2) t (.agg xs) (.agg ys)).run P w = .ok (eqs x y 0 n) w := by
  have e5 : ∀ (a b : Int) (w : World), (Op.equalIn (d + 1) e (.int .u8 a) (.int .u8 b)).run P w = .ok (a == b) w := fun a b w => run_equalIn_int w d e .u8 .u8 a b he
  have hsz : ∀ w, (sizeOf e).run P w = .ok 1 w := fun w => by
    cases hq : P.info? e with
    | none => simp [hq] at hs
    | some i =>
      have h1 : i.size = 1 := by simpa [hq] using hs
      simp [sizeOf, typeInfo, hq, h1]
  have hagg : ∀ w, (isAgg e).run P w = .ok false w := fun w => by
    unfold isAgg
    rw [Sem.run_bind, run_underlying he w]
    rfl
  have hp : ∀ (zs : Array Value) (z : Nat → Int) (k : Nat) (w : World), zs[k]? = some (.int .u8 (z k)) → (part e zs (k * 1)).run P w = .ok (.int .u8 (z k)) w := fun zs z k w hk => by
    rw [Nat.mul_one]
    unfold part
    simp [Sem.run_bind, hagg, hk]
  rw [Op.equalIn]
  simp only [Sem.run_bind, run_underlying ht, Result.andThen_ok, hsz]
  rw [Std.Legacy.Range.forIn_eq_forIn_range']
  have hr : List.range' (Std.Legacy.Range.mk 0 n 1 (by decide)).start (Std.Legacy.Range.mk 0 n 1 (by decide)).size (Std.Legacy.Range.mk 0 n 1 (by decide)).step = List.range' 0 n := by simp [Std.Legacy.Range.size]
  rw [hr]
  have key : ∀ m i (w : World), i + m ≤ n → ((forIn (List.range' i m) ((none : Option Bool), ()) fun k (_ : Option Bool × Unit) => do
      let a ← part e xs (k * 1)
      let b ← part e ys (k * 1)
      let r ← Op.equalIn (d + 1) e a b
      if (!r) = true then pure (ForInStep.done (some false, ())) else pure (ForInStep.yield (none, ()))) : Sem _).run P w = .ok (if eqs x y i m = true then (none, ()) else (some false, ())) w := by
    intro m
    induction m with
    | zero =>
      intro i w _
      simp [eqs]
    | succ m ih =>
      intro i w hi
      rw [List.range'_succ]
      simp only [List.forIn_cons, Sem.run_bind, hp xs x i _ (hx i (by omega)), hp ys y i _ (hy i (by omega)), e5, Result.andThen_ok]
      by_cases hq : x i = y i
      · have hb : (x i == y i) = true := by simpa using hq
        simp only [hb, Bool.not_true, Bool.false_eq_true, if_false, Sem.run_pure, Result.andThen_ok]
        rw [ih (i + 1) w (by omega)]
        simp [eqs, hq]
      · have hb : (x i == y i) = false := by simpa using hq
        simp only [hb, Bool.not_false, if_true, Sem.run_pure, Result.andThen_ok]
        simp [eqs, hq]
  rw [key n 0 w (by omega)]
  simp only [Result.andThen_ok]
  cases eqs x y 0 n <;> rfl
theorem equal16 {P : Program} (t e : TypeId) (ht : P.underlying t = some (.array 16 e)) (he : P.underlying e = some (.int .u8)) (hs : (P.info? e).map (·.size) = some 1) (x y : Nat → Int) (w : World) :
    (Op.equalIn 10000 t (.agg (arr16 x)) (.agg (arr16 y))).run P w = .ok (eqs x y 0 16) w :=
  equal_bytes 9998 t e 16 _ _ x y ht he hs (fun k hk => arr16_get x k hk) (fun k hk => arr16_get y k hk) w
theorem eqs_self (x : Nat → Int) (n : Nat) : eqs x x 0 n = true := (eqs_iff x x n 0).2 fun _ _ _ => rfl
end Go.Proofs.Ytlchegibfopglaa
/- Bits: numbers that are joined by '|', and cut by '&', over every kind that the program uses. -/
namespace Go.Proofs.Ytlchegibfopglaa
open Go.RowKit
theorem toNat_ofInt (n X : Nat) (h : X < 2 ^ n) : (BitVec.ofInt n (X : Int)).toNat = X := by
  rw [BitVec.ofInt_natCast, BitVec.toNat_ofNat]
  exact Nat.mod_eq_of_lt h
theorem or_nat (k : IntKind) (X Y : Nat) (hX : X < 2 ^ k.bits) (hY : Y < 2 ^ k.bits) : bits .or k (X : Int) (Y : Int) = k.wrap ((X ||| Y : Nat) : Int) := by
  show k.wrap ((BitVec.ofInt k.bits (X : Int) ||| BitVec.ofInt k.bits (Y : Int)).toNat : Int) = _
  rw [BitVec.toNat_or, toNat_ofInt _ _ hX, toNat_ofInt _ _ hY]
theorem and_nat (k : IntKind) (X Y : Nat) (hX : X < 2 ^ k.bits) (hY : Y < 2 ^ k.bits) : bits .and k (X : Int) (Y : Int) = k.wrap ((X &&& Y : Nat) : Int) := by
  show k.wrap ((BitVec.ofInt k.bits (X : Int) &&& BitVec.ofInt k.bits (Y : Int)).toNat : Int) = _
  rw [BitVec.toNat_and, toNat_ofInt _ _ hX, toNat_ofInt _ _ hY]
/-- 'x * p | y', y below p, a power of two: the sum. -/
theorem or_join (k : IntKind) (M : Nat) (hM : M ≤ 2 ^ k.bits) (hw : ∀ n : Nat, n < M → k.wrap (n : Int) = n) (x y : Int) (p i : Nat) (hp : p = 2 ^ i) (hx : 0 ≤ x) (hy : 0 ≤ y) (hy' : y < (p : Int)) (hb : x * (p : Int) + y < (M : Int)) :
    bits .or k (x * (p : Int)) y = x * (p : Int) + y := by
  obtain ⟨X, rfl⟩ := Int.eq_ofNat_of_zero_le hx
  obtain ⟨Y, rfl⟩ := Int.eq_ofNat_of_zero_le hy
  have h := Nat.shiftLeft_add_eq_or_of_lt (i := i) (b := Y) (by rw [← hp]; omega) X
  rw [Nat.shiftLeft_eq, ← hp] at h
  have hb' : X * p + Y < M := by
    have : ((X * p + Y : Nat) : Int) < (M : Int) := by simpa using hb
    omega
  have e := or_nat k (X * p) Y (by omega) (by omega)
  rw [← h, hw _ hb'] at e
  simpa using e
/-- 'x & (p - 1)', p a power of two: the rest. -/
theorem and_rest (k : IntKind) (M : Nat) (hM : M ≤ 2 ^ k.bits) (hw : ∀ n : Nat, n < M → k.wrap (n : Int) = n) (x : Int) (m p i : Nat) (hp : p = 2 ^ i) (hm : m + 1 = p) (hx : 0 ≤ x) (hx' : x < (M : Int)) (hpM : p ≤ M) :
    bits .and k x (m : Int) = x % (p : Int) := by
  obtain ⟨X, rfl⟩ := Int.eq_ofNat_of_zero_le hx
  have e := and_nat k X m (by omega) (by omega)
  have h : X &&& m = X % p := by
    have hm' : m = 2 ^ i - 1 := by omega
    rw [hm', hp]
    exact Nat.and_two_pow_sub_one_eq_mod X i
  have hlt : X % p < M := Nat.lt_of_lt_of_le (Nat.mod_lt _ (by omega)) hpM
  rw [h, hw _ hlt] at e
  rw [e]
  simp
theorem wr_u8 (n : Nat) (h : n < 256) : IntKind.u8.wrap (n : Int) = n := by rw [IntKind.wrap_u8']; omega
theorem wr_u16 (n : Nat) (h : n < 65536) : IntKind.u16.wrap (n : Int) = n := by rw [IntKind.wrap_u16]; omega
theorem wr_u32 (n : Nat) (h : n < 4294967296) : IntKind.u32.wrap (n : Int) = n := by rw [IntKind.wrap_u32']; omega
theorem wr_i64 (n : Nat) (h : n < 9223372036854775808) : IntKind.i64.wrap (n : Int) = n := by rw [IntKind.wrap_i64]; omega
theorem or_u8 (x y : Int) (p i : Nat) (hp : p = 2 ^ i) (hx : 0 ≤ x) (hy : 0 ≤ y) (hy' : y < (p : Int)) (hb : x * (p : Int) + y < 256) : bits .or .u8 (x * (p : Int)) y = x * (p : Int) + y := or_join .u8 256 (by decide) wr_u8 x y p i hp hx hy hy' hb
theorem or_u16 (x y : Int) (p i : Nat) (hp : p = 2 ^ i) (hx : 0 ≤ x) (hy : 0 ≤ y) (hy' : y < (p : Int)) (hb : x * (p : Int) + y < 65536) : bits .or .u16 (x * (p : Int)) y = x * (p : Int) + y := or_join .u16 65536 (by decide) wr_u16 x y p i hp hx hy hy' hb
theorem or_u32 (x y : Int) (p i : Nat) (hp : p = 2 ^ i) (hx : 0 ≤ x) (hy : 0 ≤ y) (hy' : y < (p : Int)) (hb : x * (p : Int) + y < 4294967296) : bits .or .u32 (x * (p : Int)) y = x * (p : Int) + y := or_join .u32 4294967296 (by decide) wr_u32 x y p i hp hx hy hy' hb
theorem or_i64 (x y : Int) (p i : Nat) (hp : p = 2 ^ i) (hx : 0 ≤ x) (hy : 0 ≤ y) (hy' : y < (p : Int)) (hb : x * (p : Int) + y < 9223372036854775808) : bits .or .i64 (x * (p : Int)) y = x * (p : Int) + y := or_join .i64 9223372036854775808 (by decide) wr_i64 x y p i hp hx hy hy' hb
theorem and_u8 (x : Int) (m p i : Nat) (hp : p = 2 ^ i) (hm : m + 1 = p) (hx : 0 ≤ x) (hx' : x < 256) (hpM : p ≤ 256) : bits .and .u8 x (m : Int) = x % (p : Int) := and_rest .u8 256 (by decide) wr_u8 x m p i hp hm hx hx' hpM
theorem and_u16 (x : Int) (m p i : Nat) (hp : p = 2 ^ i) (hm : m + 1 = p) (hx : 0 ≤ x) (hx' : x < 65536) (hpM : p ≤ 65536) : bits .and .u16 x (m : Int) = x % (p : Int) := and_rest .u16 65536 (by decide) wr_u16 x m p i hp hm hx hx' hpM
end Go.Proofs.Ytlchegibfopglaa
/- What walks of any layer want: rows of results, slices of the call's own beside other blocks, slices cut, copies into them, whole structs loaded. -/
namespace Go.Proofs.Ytlchegibfopglaa
set_option maxRecDepth 100000
open Go.RowKit
theorem results_row2 {P : Program} {fn : Func} {p a b : Tmp} {ty : TypeId} (h : fn.results = #[.cell p ty, .tmp a, .tmp b]) (tmps : Array Value) (w : World) (g : Nat) (t : TypeId) (cs : Array Value) (fr : Nat × Nat) (d : TypeDesc)
    (hp : tmps.getD p undef = .pointer (some ⟨g, 0, none⟩)) (hg : w.heap[g]? = some (.cells cs t fr))
    (hu : P.underlying ty = some d) (hd : (match d with | .struct _ | .array _ _ => true | _ => false) = true) (hi : (P.info? ty).map (·.size) = some cs.size) :
    (results fn tmps).run P w = .ok (.tuple #[.agg cs, tmps.getD a undef, tmps.getD b undef]) w := by
  have hp' : tmps[p]?.getD undef = .pointer (some ⟨g, 0, none⟩) := by simpa using hp
  simp [results, h, hp', asAddr, run_loadVar_row w g t ty cs fr d hg hu hd hi]
/-- Kept where another block, of another type, alone is turned. -/
theorem Own.other {w w' : World} {base : Nat} {e : TypeId} {A : Option Addr} {n c : Nat} {f : Nat → Int} (h : Own w base e A n c f) {q : Nat} {cs : Array Value} {t : TypeId} {fr : Nat × Nat} (hq : w.heap[q]? = some (.cells cs t fr)) (hte : t ≠ e) (hw : ∀ k, k ≠ q → w'.heap[k]? = w.heap[k]?) : Own w' base e A n c f := by
  refine ⟨h.1, ?_⟩
  rcases h.2 with hh | ⟨g, cap, cur, hv, hg, hh, r⟩
  · exact .inl hh
  · have hne : g ≠ q := fun e1 => by
      subst e1
      rw [hq] at hh
      injection hh with hh
      injection hh with _ hh
      exact hte hh
    exact .inr ⟨g, cap, cur, hv, hg, (hw g hne).trans hh, r⟩
theorem Own.apart {w w2 : World} {base : Nat} {e : TypeId} {A A' : Option Addr} {n c n' c' : Nat} {f f' : Nat → Int} (h : Own w base e A n c f) (h' : Own w2 w.heap.size e A' n' c' f') : ∀ g, Value.ownBlock (.slice A n c) = some g → Value.ownBlock (.slice A' n' c') ≠ some g := fun g hg hg' => by
  have h1 := World.ownsRow.lt h g hg
  have h2 := h'.at_ g hg'
  omega
/-- Values laid into a block's cells, one behind the other. -/
def laid (cs : Array Value) (o : Nat) : List Value → Array Value
  | [] => cs
  | v :: r => laid (cs.setIfInBounds o v) (o + 1) r
theorem blk_setCells {g : Nat} {t : TypeId} : ∀ (vs : List Value) (o : Nat) (w : World) (cs : Array Value), w.heap[g]? = some (.cells cs t (0, 0)) → (w.setCells g o vs).heap[g]? = some (.cells (laid cs o vs) t (0, 0))
  | [], _, _, _, h => h
  | v :: r, o, _, _, h => blk_setCells r (o + 1) _ _ (blk_set h o v)
theorem below_setCells {b B : Nat} {a : World} (hb : B ≤ b) : ∀ (vs : List Value) (o : Nat) (w : World), Below B a w → Below B a (w.setCells b o vs)
  | [], _, _, h => h
  | v :: r, o, _, h => below_setCells hb r (o + 1) _ (h.setCell (by exact hb) v)
theorem other_setCells {b k : Nat} (hk : k ≠ b) : ∀ (vs : List Value) (o : Nat) (w : World), (w.setCells b o vs).heap[k]? = w.heap[k]?
  | [], _, _ => rfl
  | v :: r, o, w => (other_setCells hk r (o + 1) _).trans (Below.heap_setCell w ⟨b, o, none⟩ v k hk)
theorem blk_there {w : World} {g : Nat} {cs : Array Value} {t : TypeId} (h : w.heap[g]? = some (.cells cs t (0, 0))) {o k : Nat} (hk : o + k ≤ cs.size) : w.there g o k := fun j hj => by
  refine ⟨?_, blk_free h _⟩
  rw [blk_cell h (o + j), Array.getElem?_eq_getElem (by omega)]
  rfl
/-- A new slice without bytes; bytes of the call's own; a new header. -/
def mkF (w : World) : Fact := fun v W => ∃ z, v = .slice (some ⟨z, 0, none⟩) 0 0 ∧ Own W w.heap.size 5 (some ⟨z, 0, none⟩) 0 0 (fun _ => 0)
def ownF (w : World) (n : Nat) (f : Nat → Int) : Fact := fun v W => ∃ O co, v = .slice O n co ∧ Own W w.heap.size 5 O n co f
theorem stb_mk (w : World) : Stb (mkF w) := fun _ _ _ ⟨z, h, ho⟩ hb => ⟨z, h, ho.below hb⟩
theorem stb_own (w : World) (n : Nat) (f : Nat → Int) : Stb (ownF w n f) := fun _ _ _ ⟨O, co, h, ho⟩ hb => ⟨O, co, h, ho.below hb⟩
theorem slice_both (b off n c lo hi : Nat) (h1 : lo ≤ hi) (h2 : hi ≤ n) (h3 : n ≤ c) (_ : c ≤ 9223372036854775807) : ∃ A : Option Addr,
    (∀ W, (Instr.sliceAt 22 (.slice (some ⟨b, off, none⟩) n c) (some (.int .i64 (lo : Int))) (some (.int .i64 (hi : Int))) none).run Try.prog W = .ok (.slice A (hi - lo) (c - lo)) W) ∧
    (∀ (W : World) (B : Nat) (f : Nat → Int), Rd W B (some ⟨b, off, none⟩) n f → Rd W B A (hi - lo) (fun k => f (lo + k))) := by
  have i1 : (0 : Int) ≤ (lo : Int) := by omega
  have i2 : (lo : Int) ≤ (hi : Int) := by omega
  have i3 : (hi : Int) ≤ (c : Int) := by omega
  have i4 : (0 : Int) ≤ (hi : Int) := by omega
  by_cases h : c = lo
  · have e : hi = lo := by omega
    subst e
    subst h
    refine ⟨some ⟨b, off, none⟩, fun W => ?_, fun W B f hr => .inl (by omega)⟩
    go_simp
  · refine ⟨some ⟨b, off + lo, none⟩, fun W => ?_, fun W B f hr => ?_⟩
    · go_simp
    · rcases hr with h0 | ⟨b', off', e, hb, hc⟩
      · exact .inl (by omega)
      · injection e with e
        injection e with e1 e2
        subst e1
        subst e2
        exact .inr ⟨b, off + lo, rfl, hb, fun k hk => by rw [Nat.add_assoc]; exact hc _ (by omega)⟩
theorem slice_to (A : Option Addr) (n c hi : Nat) (h2 : hi ≤ n) (h3 : n ≤ c) (h4 : c ≤ 9223372036854775807) : ∃ D : Option Addr,
    (∀ W, (Instr.sliceAt 22 (.slice A n c) none (some (.int .i64 (hi : Int))) none).run Try.prog W = .ok (.slice D hi c) W) ∧ (∀ (W : World) (B : Nat) (f : Nat → Int), Rd W B A n f → Rd W B D hi f) := by
  have i1 : (0 : Int) ≤ (hi : Int) := by omega
  have i2 : (hi : Int) ≤ (c : Int) := by omega
  have i3 : (hi : Int) ≤ (n : Int) := by omega
  have hid : ∀ A : Option Addr, Option.map (fun x => Addr.add x 0) A = A := fun A => by
    rcases A with _ | ⟨b, o, i⟩
    · rfl
    · cases i <;> simp [Addr.add]
  refine ⟨if c = 0 then A else Option.map (fun x => x.add 0) A, fun W => ?_, fun W B f hr => ?_⟩
  · go_simp
  · rw [hid, ite_self]
    exact hr.less h2
theorem slice_any (A : Option Addr) (n c lo : Nat) (h2 : lo ≤ n) (h3 : n ≤ c) (h4 : c ≤ 9223372036854775807) : ∃ D : Option Addr,
    (∀ W, (Instr.sliceAt 22 (.slice A n c) (some (.int .i64 (lo : Int))) none none).run Try.prog W = .ok (.slice D (n - lo) (c - lo)) W) ∧ (∀ (W : World) (B : Nat) (f : Nat → Int), Rd W B A n f → Rd W B D (n - lo) (fun k => f (lo + k))) := by
  have i1 : (0 : Int) ≤ (lo : Int) := by omega
  have i2 : (lo : Int) ≤ (n : Int) := by omega
  have i3 : (n : Int) ≤ (c : Int) := by omega
  have i4 : (0 : Int) ≤ (n : Int) := by omega
  have i5 : (lo : Int) ≤ (c : Int) := by omega
  refine ⟨if c = lo then A else Option.map (fun x => x.add lo) A, fun W => ?_, fun W B f hr => hr.cut h2 h3⟩
  go_simp
theorem slice_at (b off n c lo hi : Nat) (h1 : lo ≤ hi) (h2 : hi ≤ n) (h3 : n ≤ c) (_ : c ≤ 9223372036854775807) (h : lo < c) (W : World) :
    (Instr.sliceAt 22 (.slice (some ⟨b, off, none⟩) n c) (some (.int .i64 (lo : Int))) (some (.int .i64 (hi : Int))) none).run Try.prog W = .ok (.slice (some ⟨b, off + lo, none⟩) (hi - lo) (c - lo)) W := by
  have i1 : (0 : Int) ≤ (lo : Int) := by omega
  have i2 : (lo : Int) ≤ (hi : Int) := by omega
  have i3 : (hi : Int) ≤ (c : Int) := by omega
  have i4 : (0 : Int) ≤ (hi : Int) := by omega
  have h' : ¬ c = lo := by omega
  go_simp
def four (x y z u : Int) (k : Nat) : Int := if k = 0 then x else if k = 1 then y else if k = 2 then z else u
/-- m numbers of h, laid over f from place o on. -/
def over (o m : Nat) (h f : Nat → Int) (k : Nat) : Int := if o ≤ k ∧ k < o + m then h (k - o) else f k
theorem own_cells {base g n c : Nat} {e : TypeId} {h : Nat → Int} : ∀ (m o : Nat) (w : World) (f : Nat → Int) (i : Nat), Own w base e (some ⟨g, 0, none⟩) n c f →
    Own (w.setCells g (o + i) ((nums m fun k => h (i + k)).map (Value.int .u8))) base e (some ⟨g, 0, none⟩) n c (over (o + i) m (fun k => h (i + k)) f)
  | 0, o, w, f, i, H => by
    have e1 : over (o + i) 0 (fun k => h (i + k)) f = f := by
      funext k
      unfold over
      rw [if_neg (by omega)]
    rw [e1]
    exact H
  | m + 1, o, w, f, i, H => by
    have e1 : (nums (m + 1) fun k => h (i + k)) = h i :: nums m fun k => h (i + 1 + k) := by
      unfold nums
      rw [List.range_succ_eq_map, List.map_cons, List.map_map]
      congr 1
      exact List.map_congr_left fun k _ => by
        show h (i + (k + 1)) = h (i + 1 + k)
        congr 1
        omega
    rw [e1]
    have q := own_cells (h := h) m o (w.setCell ⟨g, o + i, none⟩ (.int .u8 (h i))) _ (i + 1) (H.set_ (o + i) (h i))
    refine Own.same q fun k hk => ?_
    unfold over upd
    by_cases a : o + i ≤ k ∧ k < o + i + (m + 1)
    · rw [if_pos a]
      by_cases b : k = o + i
      · subst b
        rw [if_neg (by omega), if_pos rfl]
        exact congrArg h (by omega)
      · rw [if_pos (by omega)]
        exact congrArg h (by omega)
    · rw [if_neg a, if_neg (by omega), if_neg (by omega)]
/-- 'copy(b[o:..], s)' into a slice of the call's own. -/
theorem run_copy_own {P : Program} {w : World} (base t ty e : TypeId) (ht : P.underlying t = some (.slice e)) (hs : (P.info? e).map (·.size) = some 1) {g n c : Nat} {f : Nat → Int} (hown : Own w base e (some ⟨g, 0, none⟩) n c f)
    {o dl dc : Nat} {D : Option Addr} (hD : 0 < dl → D = some ⟨g, o, none⟩) (hfit : o + dl ≤ n) {B m c' : Nat} {A : Option Addr} {h : Nat → Int} (hr : Rd w B A m h) :
    ∃ k, k = min m dl ∧ (Builtin.copy_ #[t, t] ty #[.slice D dl dc, .slice A m c']).run P w = .ok (goInt k) (w.setCells g o ((nums k h).map (Value.int .u8))) ∧ Own (w.setCells g o ((nums k h).map (Value.int .u8))) base e (some ⟨g, 0, none⟩) n c (over o k h f) := by
  refine ⟨min m dl, rfl, ?_, ?_⟩
  · by_cases h0 : min m dl = 0
    · rw [h0]
      have := run_copy_none (P := P) w t t ty e D A dl dc m c' ht hs h0
      rw [this]
      rfl
    · have hD' := hD (by omega)
      subst hD'
      rcases hr with hm | ⟨b, off, rfl, hlt, hc⟩
      · omega
      · obtain ⟨g', hg', _, _, hcell, hfro⟩ := hown.lies (by omega)
        injection hg' with hg'
        injection hg' with hg'
        subst hg'
        have := run_copy_cells (P := P) w t t ty e g o dl dc ⟨b, off, none⟩ m c' ((nums (min m dl) h).map (Value.int .u8)) ht hs (by simp [nums_len]) (fun j v hv => by
            have hj : j < min m dl := by
              rcases Nat.lt_or_ge j (min m dl) with q | q
              · exact q
              · rw [List.getElem?_eq_none (by simpa [nums_len] using q)] at hv; cases hv
            have hplain : (⟨b, off, none⟩ : Addr).add j = ⟨b, off + j, none⟩ := by unfold Addr.add; split <;> simp_all
            rw [hplain, hc j (by omega)]
            simpa [nums, List.getElem?_map, List.getElem?_range hj] using hv) (fun j hj => by
            have hj' : j < min m dl := by simpa [nums_len] using hj
            rw [hcell (o + j) (by omega)]
            rfl) (fun j _ => hfro (o + j)) (fun v hv => by
            simp at hv
            obtain ⟨x, _, rfl⟩ := hv
            rfl)
        rw [this]
        simp [nums_len]
  · have q := own_cells (h := h) (min m dl) o w f 0 hown
    have e1 : (fun k => h (0 + k)) = h := by funext k; rw [Nat.zero_add]
    rw [Nat.add_zero, e1] at q
    exact q
/-- A whole struct, loaded behind a guard or not. -/
theorem wpList_load_roww {P : Program} {ops : Array Oper} {rest : List Oper} {op : Oper} {a : Act} {w : World} {Q : Exit → Act → World → Prop} (hw : Region.wanted op (yielded ops a.tmps) = true) (ty : TypeId) (x : Operand) (ho : op.op = .load ty x)
    (g : Nat) (hx : a.eval x = .pointer (some ⟨g, 0, none⟩)) (t : TypeId) (cs : Array Value) (fr : Nat × Nat) (d : TypeDesc) (hg : w.heap[g]? = some (.cells cs t fr)) (hu : P.underlying ty = some d)
    (hd : (match d with | .struct _ | .array _ _ => true | _ => false) = true) (hi : (P.info? ty).map (·.size) = some cs.size) (h : wpList P ops Q rest (a.put op.dst (.agg cs)) w) : wpList P ops Q (op :: rest) a w := by
  refine BigFrame.wpList_want hw fun K hK => ?_
  unfold Oper.wp execOp
  simp only [ho, hx, Instr.loadAt, Instr.sureAddr, Sem.run_bind, Sem.run_pure, Result.andThen_ok, run_loadVar_row w g t ty cs fr d hg hu hd hi]
  exact hK _ _ h
/-- Bytes of the call's own, whichever. -/
def Kp (W : World) (B : Nat) (A : Option Addr) (n c : Nat) : Prop := ∃ f, Byt f ∧ Own W B 5 A n c f
theorem Kp.below {W W' : World} {B : Nat} {A : Option Addr} {n c : Nat} (h : Kp W B A n c) (hb : Below W.heap.size W W') : Kp W' B A n c := by
  obtain ⟨f, hf, ho⟩ := h
  exact ⟨f, hf, ho.below hb⟩
theorem Kp.set {W : World} {B : Nat} {A : Option Addr} {n c : Nat} (h : Kp W B A n c) (g i : Nat) (v : Int) (hv : 0 ≤ v ∧ v ≤ 255) : Kp (W.setCell ⟨g, i, none⟩ (.int .u8 v)) B A n c := by
  obtain ⟨f, hf, ho⟩ := h
  have ho' := ho
  rcases ho.2 with hh | ⟨g', cap, cur, hv', hg, hh, r⟩
  · exact ⟨f, hf, ho.1, .inl hh⟩
  · by_cases e : g' = g
    · subst e
      injection hv' with h1 h2 h3
      subst h1
      exact ⟨_, upd_byt hf i hv, ho'.set_ i v⟩
    · exact ⟨f, hf, ho.1, .inr ⟨g', cap, cur, hv', hg, (Below.heap_setCell W ⟨g, i, none⟩ _ g' e).trans hh, r⟩⟩
theorem Own.ne {W : World} {B g n c q : Nat} {f : Nat → Int} {cs : Array Value} {t : TypeId} {fr : Nat × Nat} (h : Own W B 5 (some ⟨g, 0, none⟩) n c f) (hq : W.heap[q]? = some (.cells cs t fr)) (hte : t ≠ 5) : q ≠ g := by
  rintro rfl
  rcases h.2 with ⟨hh, _⟩ | ⟨g', cap, cur, hv, _, hh, _⟩
  · cases hh
  · injection hv with h1 _ _
    injection h1 with h1
    injection h1 with h1
    subst h1
    rw [hq] at hh
    injection hh with hh
    injection hh with _ hh
    exact hte hh
end Go.Proofs.Ytlchegibfopglaa
/- What walks of any layer want, more of it: arrays of sixteen bytes, copies into rows, structs compared field by field, results of two. -/
namespace Go.Proofs.Ytlchegibfopglaa
set_option maxRecDepth 100000
open Go.RowKit
theorem arr16_one (f : Nat → Int) : (arr16 f).all (·.oneCell') = true := by simp [arr16, Value.oneCell']
theorem arr16_set (f : Nat → Int) (v : Int) (k : Nat) (hk : k < 16) : (arr16 f).setIfInBounds k (.int .u8 v) = arr16 (fun j => if j = k then v else f j) := by
  match k, hk with
  | 0, _ => rfl
  | 1, _ => rfl
  | 2, _ => rfl
  | 3, _ => rfl
  | 4, _ => rfl
  | 5, _ => rfl
  | 6, _ => rfl
  | 7, _ => rfl
  | 8, _ => rfl
  | 9, _ => rfl
  | 10, _ => rfl
  | 11, _ => rfl
  | 12, _ => rfl
  | 13, _ => rfl
  | 14, _ => rfl
  | 15, _ => rfl
  | k + 16, h => exact absurd h (by omega)
theorem arr16_ext {f g : Nat → Int} (h : ∀ k, k < 16 → f k = g k) : arr16 f = arr16 g := by
  unfold arr16
  rw [h 0 (by omega), h 1 (by omega), h 2 (by omega), h 3 (by omega), h 4 (by omega), h 5 (by omega), h 6 (by omega), h 7 (by omega), h 8 (by omega), h 9 (by omega), h 10 (by omega), h 11 (by omega), h 12 (by omega), h 13 (by omega), h 14 (by omega), h 15 (by omega)]
theorem step_copy_row {P : Program} {w : World} {ops : Array Oper} {op : Oper} {a : Act} {K : Act → World → Prop} {Q : Exit → Act → World → Prop} {E : Prop} (hgd : Region.wanted op (yielded ops a.tmps) = true) (d s : Operand) (t : TypeId)
    (hop : op.op = .call { callee := .builtin .copy, args := #[d, s], argTypes := #[t, t] })
    (e : TypeId) (ht : P.underlying t = some (.slice e)) (hs : (P.info? e).map (·.size) = some 1) {g o dl dc : Nat} {cur : Array Value} {T : TypeId} (hg : w.heap[g]? = some (.cells cur T (0, 0)))
    (hd : a.eval d = .slice (some ⟨g, o, none⟩) dl dc) {B m c' : Nat} {A : Option Addr} {h : Nat → Int} (hx : a.eval s = .slice A m c') (hr : Rd w B A m h) (k : Nat) (hk : k = min m dl) (hk0 : 0 < k) (hfit : o + k ≤ cur.size)
    (new : Array Value) (hnew : (cur.toList.take o ++ (nums k h).map (Value.int .u8) ++ cur.toList.drop (o + k)).toArray = new) (H : K (a.put op.dst (goInt k)) (w.setRow g new)) :
    if Region.wanted op (yielded ops a.tmps) = true then Oper.wp P op a w K Q else E := by
  rw [if_pos hgd]
  rcases hr with hm | ⟨b, off, rfl, hlt, hc⟩
  · omega
  · have hlen : ((nums k h).map (Value.int .u8)).length = k := by simp [nums_len]
    have hrun := run_copy_row (P := P) w t t op.type e g o dl dc ⟨b, off, none⟩ m c' cur T ((nums k h).map (Value.int .u8)) ht hs hg (by rw [hlen]; exact hk) (fun j v hv => by
        have hj : j < k := by
          rcases Nat.lt_or_ge j k with q | q
          · exact q
          · rw [List.getElem?_eq_none (by rw [hlen]; exact q)] at hv; cases hv
        have hplain : (⟨b, off, none⟩ : Addr).add j = ⟨b, off + j, none⟩ := by unfold Addr.add; split <;> simp_all
        rw [hplain, hc j (by omega)]
        simpa [nums, List.getElem?_map, List.getElem?_range hj] using hv) (by rw [hlen]; exact hfit) (fun v hv => by
        simp at hv
        obtain ⟨x, _, rfl⟩ := hv
        rfl)
    rw [hlen, hnew] at hrun
    unfold Oper.wp execOp
    simp only [hop, resolve, invoke, builtin, Sem.run_bind, Sem.run_pure, Result.andThen_ok, List.map_toArray, List.map_cons, List.map_nil, hd, hx, hrun]
    exact H
/-- 'copy(b[o:..], s)' in a plain region. -/
theorem wpList_copy_rd {P : Program} {w : World} {ops : Array Oper} {rest : List Oper} {op : Oper} {a : Act} {Q : Exit → Act → World → Prop} (hgd : Region.wanted op (yielded ops a.tmps) = true) (d s : Operand) (t : TypeId)
    (hop : op.op = .call { callee := .builtin .copy, args := #[d, s], argTypes := #[t, t] })
    (base : Nat) (e : TypeId) (ht : P.underlying t = some (.slice e)) (hs : (P.info? e).map (·.size) = some 1) {g n c : Nat} {f : Nat → Int} (hown : Own w base e (some ⟨g, 0, none⟩) n c f)
    {D : Option Addr} {dl dc : Nat} (hd : a.eval d = .slice D dl dc) (o : Nat) (hD : 0 < dl → D = some ⟨g, o, none⟩) (hfit : o + dl ≤ n) {B m c' : Nat} {A : Option Addr} {h : Nat → Int} (hx : a.eval s = .slice A m c') (hr : Rd w B A m h)
    (k : Nat) (hk : k = min m dl) (H : Own (w.setCells g o ((nums k h).map (Value.int .u8))) base e (some ⟨g, 0, none⟩) n c (over o k h f) → wpList P ops Q rest (a.put op.dst (goInt k)) (w.setCells g o ((nums k h).map (Value.int .u8)))) :
    wpList P ops Q (op :: rest) a w := by
  refine BigFrame.wpList_want hgd fun K hK => ?_
  obtain ⟨k', hk', hrun, h2⟩ := run_copy_own (P := P) base t op.type e ht hs hown (dc := dc) hD hfit hr (c' := c')
  obtain rfl : k = k' := hk.trans hk'.symm
  unfold Oper.wp execOp
  simp only [hop, resolve, invoke, builtin, Sem.run_bind, Sem.run_pure, Result.andThen_ok, List.map_toArray, List.map_cons, List.map_nil, hd, hx, hrun]
  exact hK _ _ (H h2)
theorem results_row1 {P : Program} {fn : Func} {p a : Tmp} {ty : TypeId} (h : fn.results = #[.cell p ty, .tmp a]) (tmps : Array Value) (w : World) (g : Nat) (t : TypeId) (cs : Array Value) (fr : Nat × Nat) (d : TypeDesc)
    (hp : tmps.getD p undef = .pointer (some ⟨g, 0, none⟩)) (hg : w.heap[g]? = some (.cells cs t fr))
    (hu : P.underlying ty = some d) (hd : (match d with | .struct _ | .array _ _ => true | _ => false) = true) (hi : (P.info? ty).map (·.size) = some cs.size) :
    (results fn tmps).run P w = .ok (.tuple #[.agg cs, tmps.getD a undef]) w := by
  have hp' : tmps[p]?.getD undef = .pointer (some ⟨g, 0, none⟩) := by simpa using hp
  simp [results, h, hp', asAddr, run_loadVar_row w g t ty cs fr d hg hu hd hi]
theorem eqF_step {P : Program} {d : Nat} {xs ys : Array Value} {nm : String} {ty off : Nat} {em : Bool} {tg pk : String} {bo : Nat} {fs : List Field} {a : Value} {w : World} (hn : nm ≠ "_") (p : (part ty xs off).run P w = .ok a w) (q : (part ty ys off).run P w = .ok a w) (h : (Op.equalIn d ty a a).run P w = .ok true w) :
    (Op.eqFields d xs ys ({ name := nm, type := ty, offset := off, embedded := em, tag := tg, pkgPath := pk, byteOffset := bo } :: fs)).run P w = (Op.eqFields d xs ys fs).run P w := by
  rw [Op.eqFields, if_pos hn]
  simp only [Sem.run_bind, p, q, h, Result.andThen_ok, Bool.not_true, Bool.false_eq_true, if_false]
end Go.Proofs.Ytlchegibfopglaa
/- Contracts of the small functions of layer 1: adding in ones' complement, in the program and in the document's answer. -/
namespace Go.Proofs.Ytlchegibfopglaa
set_option maxRecDepth 100000
open Go.RowKit
/-- Ones' complement addition of two words, as numbers. -/
def pl (a b : Int) : Int := if a + b > 65535 then a + b - 65535 else a + b
theorem ret_int {k : IntKind} {a b : Int} (h : a = b) : Ending.returned (.int k a) = .returned (.int k b) := by rw [h]
set_option maxHeartbeats 400000 in
theorem plus_any (a b : Int) (w : World) (ha : 0 ≤ a) (ha' : a ≤ 65535) (hb : 0 ≤ b) (hb' : b ≤ 65535) :
    Calls Try.prog 81 #[.int .u16 a, .int .u16 b] w fun e w' => e = .returned (.int .u16 (pl a b)) ∧ w = w' := by
  go_enter Try.func81, Try.ntmps81
  go_wp2
  go_ret
  refine ⟨ret_int ?_, rfl⟩
  unfold pl
  simp only [IntKind.wrap_u16]
  split <;> omega
set_option maxHeartbeats 400000 in
theorem rplus_any (a b : Int) (w : World) (ha : 0 ≤ a) (ha' : a ≤ 65535) (hb : 0 ≤ b) (hb' : b ≤ 65535) :
    Calls Try.prog 66 #[.int .u16 a, .int .u16 b] w fun e w' => e = .returned (.int .u16 (pl a b)) ∧ w = w' := by
  go_enter Try.func66, Try.ntmps66
  go_wp2
  all_goals
    go_ret
    refine ⟨ret_int ?_, rfl⟩
    unfold pl
    split <;> omega
theorem xor_max (s : Int) (ha : 0 ≤ s) (ha' : s ≤ 65535) : bits .xor .u16 IntKind.u16.max s = 65535 - s := by
  obtain ⟨n, rfl⟩ := Int.eq_ofNat_of_zero_le ha
  have hn : n < 65536 := by omega
  have hm : IntKind.u16.max = ((65535 : Nat) : Int) := rfl
  rw [hm, u16_xor_nat 65535 n (by omega) hn]
  have h : 65535 ^^^ n = 65535 - n := by
    have e := congrArg BitVec.toNat (BitVec.allOnes_xor (x := BitVec.ofNat 16 n))
    rw [BitVec.toNat_xor, BitVec.toNat_not, BitVec.toNat_allOnes, BitVec.toNat_ofNat, Nat.mod_eq_of_lt (by omega)] at e
    exact e
  rw [h]
  omega
theorem or_hi (x y : Int) (hx : 0 ≤ x) (hx' : x ≤ 255) (hy : 0 ≤ y) (hy' : y ≤ 255) : bits .or .u16 (x * 256) y = x * 256 + y := by
  obtain ⟨n, rfl⟩ := Int.eq_ofNat_of_zero_le hx
  obtain ⟨m, rfl⟩ := Int.eq_ofNat_of_zero_le hy
  have h := Nat.shiftLeft_add_eq_or_of_lt (i := 8) (b := m) (by omega) n
  rw [Nat.shiftLeft_eq, show (2:Nat) ^ 8 = 256 from rfl] at h
  have e := u16_or_nat (n * 256) m (by omega) (by omega)
  rw [← h] at e
  have c : ((n * 256 : Nat) : Int) = (n : Int) * 256 := by omega
  have d : ((n * 256 + m : Nat) : Int) = (n : Int) * 256 + (m : Int) := by rw [Int.natCast_add, c]
  rw [c, d] at e
  exact e
set_option maxHeartbeats 400000 in
theorem end_any (s : Int) (o : Bool) (w : World) (ha : 0 ≤ s) (ha' : s ≤ 65535) :
    Calls Try.prog 73 #[.agg #[.int .u16 s, .bool o]] w fun e w' => e = .returned (.int .u16 (65535 - s)) ∧ Below w.heap.size w w' := by
  go_enter Try.func73, Try.ntmps73
  go_wp2
  go_ret
  exact ⟨ret_int (xor_max s ha ha'), (Below.refl _ _).alloc (Nat.le_refl _) _⟩
set_option maxHeartbeats 400000 in
theorem rend_any (s : Int) (o : Bool) (w : World) (ha : 0 ≤ s) (ha' : s ≤ 65535) :
    Calls Try.prog 50 #[.agg #[.int .u16 s, .bool o]] w fun e w' => e = .returned (.int .u16 (65535 - s)) ∧ Below w.heap.size w w' := by
  go_enter Try.func50, Try.ntmps50
  go_wp2
  go_ret
  exact ⟨rfl, (Below.refl _ _).alloc (Nat.le_refl _) _⟩
end Go.Proofs.Ytlchegibfopglaa
/- Contract of the program's Add. -/
namespace Go.Proofs.Ytlchegibfopglaa
set_option maxRecDepth 100000
open Go.RowKit
def stp (p : Int × Bool) (x : Int) : Int × Bool := (pl p.1 (if p.2 then x else x * 256), !p.2)
/-- The document's sum so far: byte by byte. -/
def fld (f : Nat → Int) (p : Int × Bool) : Nat → Int × Bool
  | 0 => p
  | n + 1 => stp (fld f p n) (f n)
theorem stp_bd {p : Int × Bool} {x : Int} (h : 0 ≤ p.1 ∧ p.1 ≤ 65535) (hx : 0 ≤ x ∧ x ≤ 255) : 0 ≤ (stp p x).1 ∧ (stp p x).1 ≤ 65535 := by
  unfold stp pl
  cases p.2 <;> simp only [if_true, Bool.false_eq_true, if_false] <;> split <;> omega
theorem fld_bd {f : Nat → Int} {p : Int × Bool} (hf : Byt f) (h : 0 ≤ p.1 ∧ p.1 ≤ 65535) (n : Nat) : 0 ≤ (fld f p n).1 ∧ (fld f p n).1 ≤ 65535 := by
  induction n with
  | zero => exact h
  | succ n ih => exact stp_bd ih (hf n)
theorem fld_two (f : Nat → Int) (p : Int × Bool) (n : Nat) : (fld f p (n + 2)).2 = (fld f p n).2 := by
  simp [fld, stp]
theorem fld_flag (f : Nat → Int) (s : Int) (k : Nat) : (fld f (s, false) (2 * k)).2 = false := by
  induction k with
  | zero => rfl
  | succ k ih => rw [show 2 * (k + 1) = 2 * k + 2 by omega, fld_two, ih]
theorem fld_one_sum (f : Nat → Int) (s : Int) (k : Nat) : (fld f (s, false) (2 * k + 1)).1 = pl (fld f (s, false) (2 * k)).1 (f (2 * k) * 256) := by
  have h := fld_flag f s k
  show (stp (fld f (s, false) (2 * k)) (f (2 * k))).1 = _
  unfold stp
  rw [h]
  rfl
theorem pl_word (a x y : Int) (hx : 0 ≤ x ∧ x ≤ 255) (hy : 0 ≤ y ∧ y ≤ 255) (ha : 0 ≤ a ∧ a ≤ 65535) : pl a (x * 256 + y) = pl (pl a (x * 256)) y := by
  unfold pl
  repeat' split
  all_goals omega
theorem fld_word {f : Nat → Int} (hf : Byt f) {s : Int} (hs : 0 ≤ s ∧ s ≤ 65535) (k : Nat) : (fld f (s, false) (2 * k + 2)).1 = pl (fld f (s, false) (2 * k)).1 (f (2 * k) * 256 + f (2 * k + 1)) := by
  rw [pl_word _ _ _ (hf _) (hf _) (fld_bd hf hs _), ← fld_one_sum]
  have h := fld_flag f s k
  show (stp (stp (fld f (s, false) (2 * k)) (f (2 * k))) (f (2 * k + 1))).1 = _
  simp only [stp, h, Bool.not_false, if_true, Bool.false_eq_true, if_false]
  rw [fld_one_sum]
theorem fld_odd (f : Nat → Int) (s : Int) (n : Nat) : (fld f (s, false) n).2 = decide (n % 2 = 1) := by
  rcases Nat.mod_two_eq_zero_or_one n with h | h
  · rw [show n = 2 * (n / 2) by omega, fld_flag]; simp
  · have e : n = 2 * (n / 2) + 1 := by omega
    rw [e]
    show (!(fld f (s, false) (2 * (n / 2))).2) = _
    rw [fld_flag]; simp
theorem fld_shift (f : Nat → Int) (p : Int × Bool) (n : Nat) : fld (fun k => f (k + 1)) (stp p (f 0)) n = fld f p (n + 1) := by
  induction n with
  | zero => rfl
  | succ n ih => show stp (fld (fun k => f (k + 1)) (stp p (f 0)) n) (f (n + 1)) = _; rw [ih]; rfl
set_option maxHeartbeats 400000 in
theorem word_last (w : World) (g b off n c k : Nat) (x : Int) (hx : 0 ≤ x) (hx' : x ≤ 255) (hn : n ≤ 4611686018427387904) (hk : 2 * k + 1 = n)
    (hs : w.cell? ⟨g, 0, none⟩ = some (.slice (some ⟨b, off, none⟩) n c)) (hc : w.cell? ⟨b, off + 2 * k, none⟩ = some (.int .u8 x)) :
    Calls Try.prog 82 #[.int .i64 k, .pointer (some ⟨g, 0, none⟩)] w fun e w' => e = .returned (.int .u16 (x * 256)) ∧ w = w' := by
  go_enter Try.func82, Try.ntmps82
  go_wp2
  go_ret
  simp
set_option maxHeartbeats 400000 in
theorem word_mid (w : World) (g b off n c k : Nat) (x y : Int) (hx : 0 ≤ x) (hx' : x ≤ 255) (hy : 0 ≤ y) (hy' : y ≤ 255) (hn : n ≤ 4611686018427387904) (hk : 2 * k + 1 < n)
    (hs : w.cell? ⟨g, 0, none⟩ = some (.slice (some ⟨b, off, none⟩) n c)) (hc : w.cell? ⟨b, off + 2 * k, none⟩ = some (.int .u8 x)) (hc' : w.cell? ⟨b, off + (2 * k + 1), none⟩ = some (.int .u8 y)) :
    Calls Try.prog 82 #[.int .i64 k, .pointer (some ⟨g, 0, none⟩)] w fun e w' => e = .returned (.int .u16 (x * 256 + y)) ∧ w = w' := by
  have ho := or_hi x y hx hx' hy hy'
  go_enter Try.func82, Try.ntmps82
  go_wp2
  go_ret
  exact ⟨rfl, rfl⟩
/-- The three blocks of Add's own: p, b and the result. -/
structure AddW (w wr : World) (s : Int) (o : Bool) (v : Value) : Prop where
  c0 : wr.cell? ⟨w.heap.size, 0, none⟩ = some (.int .u16 s)
  c1 : wr.cell? ⟨w.heap.size, 1, none⟩ = some (.bool o)
  c2 : wr.cell? ⟨w.heap.size + 1, 0, none⟩ = some v
  c3 : wr.cell? ⟨w.heap.size + 1 + 1, 0, none⟩ = some (.int .u16 0)
  c4 : wr.cell? ⟨w.heap.size + 1 + 1, 1, none⟩ = some (.bool false)
  f0 : wr.frozen? ⟨w.heap.size, 0, none⟩ = false
  f1 : wr.frozen? ⟨w.heap.size, 1, none⟩ = false
  f2 : wr.frozen? ⟨w.heap.size + 1, 0, none⟩ = false
  f3 : wr.frozen? ⟨w.heap.size + 1 + 1, 0, none⟩ = false
  f4 : wr.frozen? ⟨w.heap.size + 1 + 1, 1, none⟩ = false
  below : Below w.heap.size w wr
theorem AddW.start (w : World) (s : Int) (o : Bool) (v : Value) : AddW w (((w.alloc (Obj.cells #[.int .u16 s, .bool o] 101)).alloc (Obj.cells #[v] 22)).alloc (Obj.cells #[.int .u16 0, .bool false] 101)) s o v := by
  constructor
  case below => exact (((Below.refl _ _).alloc (Nat.le_refl _) _).alloc (by simp) _).alloc (by simp; omega) _
  all_goals go_simp
theorem AddW.sum {w wr : World} {s s' : Int} {o : Bool} {v : Value} (h : AddW w wr s o v) : AddW w (wr.setCell ⟨w.heap.size, 0, none⟩ (.int .u16 s')).drew s' o v := by
  obtain ⟨h0, h1, h2, h3, h4, g0, g1, g2, g3, g4, hb⟩ := h
  exact ⟨by go_simp, by go_simp, by go_simp, by go_simp, by go_simp, by go_simp, by go_simp, by go_simp, by go_simp, by go_simp, (hb.setCell (Nat.le_refl _) _).drew⟩
theorem AddW.cut {w wr : World} {s s' : Int} {o : Bool} {v v' : Value} (h : AddW w wr s o v) : AddW w ((wr.setCell ⟨w.heap.size, 0, none⟩ (.int .u16 s')).setCell ⟨w.heap.size + 1, 0, none⟩ v').drew s' o v' := by
  obtain ⟨h0, h1, h2, h3, h4, g0, g1, g2, g3, g4, hb⟩ := h
  exact ⟨by go_simp, by go_simp, by go_simp, by go_simp, by go_simp, by go_simp, by go_simp, by go_simp, by go_simp, by go_simp, ((hb.setCell (Nat.le_refl _) _).setCell (by simp) _).drew⟩
end Go.Proofs.Ytlchegibfopglaa
