import Derived.Test.YtimcdnbfdkpffaaGreatGm0
import Derived.Laws.BitsAllLaws
import Derived.Test.YtimcdnbfdkpffaaGreatGm1
import Derived.Deep.RegionHeld3
import Derived.Deep.MidRow
import Derived.Deep.CutRange
import Derived.StillTailTactics
import Derived.WalkLawsBesides
import Derived.IntWalk
import Derived.BigQuiet
import Derived.Laws.CopyOwn
import Derived.Laws.Tables
import Derived.Laws.IdiomCopy
import Derived.Laws.BytesArg
import Derived.Laws.OwnMore
import Derived.Laws.MakeOwn
import Derived.RangeFuncNested
import Derived.RangeFuncBound
import Derived.RangeFuncCalls
import Derived.RangeFuncLeaves
import Derived.Shelf.Abstract
import Derived.Shelf.RegionOpen
import Derived.WalkKit
import Derived.OwnWalkIn
import Derived.TacticsInMore
import Derived.LoopNIn
import Derived.LoopIn
import Derived.Laws.StructEq
/- Bits: numbers that are joined by '|', and cut by '&', over every kind that the program uses. -/
namespace Go.Proofs.YtimcdnbfdkpffaaGreat
open Go.RowKit
theorem toNat_ofInt (n X : Nat) (h : X < 2 ^ n) : (BitVec.ofInt n (X : Int)).toNat = X := by
  rw [BitVec.ofInt_natCast, BitVec.toNat_ofNat]
  exact Nat.mod_eq_of_lt h
theorem and_nat (k : IntKind) (X Y : Nat) (hX : X < 2 ^ k.bits) (hY : Y < 2 ^ k.bits) : bits .and k (X : Int) (Y : Int) = k.wrap ((X &&& Y : Nat) : Int) := by
  show k.wrap ((BitVec.ofInt k.bits (X : Int) &&& BitVec.ofInt k.bits (Y : Int)).toNat : Int) = _
  rw [BitVec.toNat_and, toNat_ofInt _ _ hX, toNat_ofInt _ _ hY]
theorem wr_i64 (n : Nat) (h : n < 9223372036854775808) : IntKind.i64.wrap (n : Int) = n := by rw [IntKind.wrap_i64]; omega
end Go.Proofs.YtimcdnbfdkpffaaGreat
/- What walks of any layer want: rows of results, slices of the call's own beside other blocks, slices cut, copies into them, whole structs loaded. -/
namespace Go.Proofs.YtimcdnbfdkpffaaGreat
set_option maxRecDepth 100000
open Go.RowKit
theorem results_row2 {P : Program} {fn : Func} {p a b : Tmp} {ty : TypeId} (h : fn.results = #[.cell p ty, .tmp a, .tmp b]) (tmps : Array Value) (w : World) (g : Nat) (t : TypeId) (cs : Array Value) (fr : Nat × Nat) (d : TypeDesc)
    (hp : tmps.getD p undef = .pointer (some ⟨g, 0, none⟩)) (hg : w.heap[g]? = some (.cells cs t fr))
    (hu : P.underlying ty = some d) (hd : (match d with | .struct _ | .array _ _ => true | _ => false) = true) (hi : (P.info? ty).map (·.size) = some cs.size) :
    (results fn tmps).run P w = .ok (.tuple #[.agg cs, tmps.getD a undef, tmps.getD b undef]) w := by
  have hp' : tmps[p]?.getD undef = .pointer (some ⟨g, 0, none⟩) := by simpa using hp
  simp [results, h, hp', asAddr, run_loadVar_row w g t ty cs fr d hg hu hd hi]
/-- Values laid into a block's cells, one behind the other. -/
def laid (cs : Array Value) (o : Nat) : List Value → Array Value
  | [] => cs
  | v :: r => laid (cs.setIfInBounds o v) (o + 1) r
theorem blk_setCells {g : Nat} {t : TypeId} : ∀ (vs : List Value) (o : Nat) (w : World) (cs : Array Value), w.heap[g]? = some (.cells cs t (0, 0)) → (w.setCells g o vs).heap[g]? = some (.cells (laid cs o vs) t (0, 0))
  | [], _, _, _, h => h
  | v :: r, o, _, _, h => blk_setCells r (o + 1) _ _ (blk_set h o v)
theorem below_setCells {b B : Nat} {a : World} (hb : B ≤ b) : ∀ (vs : List Value) (o : Nat) (w : World), Below B a w → Below B a (w.setCells b o vs)
  | [], _, _, h => h
  | v :: r, o, _, h => below_setCells hb r (o + 1) _ (h.setCell (by exact hb) v)
theorem other_setCells {b k : Nat} (hk : k ≠ b) : ∀ (vs : List Value) (o : Nat) (w : World), (w.setCells b o vs).heap[k]? = w.heap[k]?
  | [], _, _ => rfl
  | v :: r, o, w => (other_setCells hk r (o + 1) _).trans (Below.heap_setCell w ⟨b, o, none⟩ v k hk)
theorem blk_there {w : World} {g : Nat} {cs : Array Value} {t : TypeId} (h : w.heap[g]? = some (.cells cs t (0, 0))) {o k : Nat} (hk : o + k ≤ cs.size) : w.there g o k := fun j hj => by
  refine ⟨?_, blk_free h _⟩
  rw [blk_cell h (o + j), Array.getElem?_eq_getElem (by omega)]
  rfl
def four (x y z u : Int) (k : Nat) : Int := if k = 0 then x else if k = 1 then y else if k = 2 then z else u
theorem rd_new4 (w : World) (B g : Nat) (hg : g = w.heap.size) (hB : g < B) (x y z u : Int) (e : TypeId) : Rd (w.alloc (.cells #[.int .u8 x, .int .u8 y, .int .u8 z, .int .u8 u] e)) B (some ⟨g, 0, none⟩) 4 (four x y z u) := by
  subst hg
  refine blk_rd (heap_alloc_new w _) hB fun k hk => ?_
  match k, hk with
  | 0, _ => rfl
  | 1, _ => rfl
  | 2, _ => rfl
  | 3, _ => rfl
/-- m numbers of h, laid over f from place o on. -/
def over (o m : Nat) (h f : Nat → Int) (k : Nat) : Int := if o ≤ k ∧ k < o + m then h (k - o) else f k
/-- A whole struct, loaded behind a guard or not. -/
theorem wpList_load_roww {P : Program} {ops : Array Oper} {rest : List Oper} {op : Oper} {a : Act} {w : World} {Q : Exit → Act → World → Prop} (hw : Region.wanted op (yielded ops a.tmps) = true) (ty : TypeId) (x : Operand) (ho : op.op = .load ty x)
    (g : Nat) (hx : a.eval x = .pointer (some ⟨g, 0, none⟩)) (t : TypeId) (cs : Array Value) (fr : Nat × Nat) (d : TypeDesc) (hg : w.heap[g]? = some (.cells cs t fr)) (hu : P.underlying ty = some d)
    (hd : (match d with | .struct _ | .array _ _ => true | _ => false) = true) (hi : (P.info? ty).map (·.size) = some cs.size) (h : wpList P ops Q rest (a.put op.dst (.agg cs)) w) : wpList P ops Q (op :: rest) a w := by
  refine BigFrame.wpList_want hw fun K hK => ?_
  unfold Oper.wp execOp
  simp only [ho, hx, Instr.loadAt, Instr.sureAddr, Sem.run_bind, Sem.run_pure, Result.andThen_ok, run_loadVar_row w g t ty cs fr d hg hu hd hi]
  exact hK _ _ h
end Go.Proofs.YtimcdnbfdkpffaaGreat
/- The blocks that a walk made, in the order of their making: one fact for all of them, over any program. -/
namespace Go.Proofs.YtimcdnbfdkpffaaGreat
open Go.RowKit
structure Mem (w W : World) (L : List (Nat × Obj)) : Prop where
  all : ∀ p ∈ L, W.heap[p.1]? = some p.2
  lo : ∀ p ∈ L, w.heap.size ≤ p.1
  inc : L.Pairwise fun a b => a.1 < b.1
  below : Below w.heap.size w W
theorem Mem.nil (w : World) : Mem w w [] := ⟨fun _ h => (nomatch h), fun _ h => (nomatch h), .nil, Below.refl _ _⟩
theorem Mem.get {w W : World} {L : List (Nat × Obj)} (h : Mem w W L) (k : Nat) {g : Nat} {o : Obj} (hk : L[k]? = some (g, o)) : W.heap[g]? = some o := h.all (g, o) (List.mem_of_getElem? hk)
theorem Mem.step {w W W' : World} {L : List (Nat × Obj)} (h : Mem w W L) (hb : Below W.heap.size W W') : Mem w W' L :=
  ⟨fun p hp => (hb.block _ (lt_heap (h.all p hp))).trans (h.all p hp), h.lo, h.inc, h.below.trans (hb.mono h.below.size)⟩
theorem Mem.alloc {w W : World} {L : List (Nat × Obj)} (h : Mem w W L) (o : Obj) : Mem w (W.alloc o) (L ++ [(W.heap.size, o)]) := by
  refine ⟨fun p hp => ?_, fun p hp => ?_, ?_, h.below.alloc h.below.size o⟩
  · rcases List.mem_append.1 hp with q | q
    · exact blk_old (h.all p q) o
    · obtain rfl := List.mem_singleton.1 q
      exact heap_alloc_new W o
  · rcases List.mem_append.1 hp with q | q
    · exact h.lo p q
    · obtain rfl := List.mem_singleton.1 q
      exact h.below.size
  · refine List.pairwise_append.2 ⟨h.inc, List.pairwise_singleton .., fun a ha b hb => ?_⟩
    obtain rfl := List.mem_singleton.1 hb
    exact lt_heap (h.all a ha)
end Go.Proofs.YtimcdnbfdkpffaaGreat
/- Bytes of the call's own beside the blocks that a walk made; an append onto a slice that is full turns nothing old. -/
namespace Go.Proofs.YtimcdnbfdkpffaaGreat
set_option maxRecDepth 100000
open Go.RowKit
/-- The blocks L below B, and bytes of the call's own from B on. -/
structure MO (w W : World) (L : List (Nat × Obj)) (B : Nat) (A : Option Addr) (n c : Nat) (f : Nat → Int) : Prop where
  mem : Mem w W L
  own : Own W B 5 A n c f
  up : ∀ p ∈ L, p.1 < B
  le : B ≤ W.heap.size
  wle : w.heap.size ≤ B
theorem Mem.besides {w W W' : World} {L : List (Nat × Obj)} {B : Nat} (h : Mem w W L) (up : ∀ p ∈ L, p.1 < B) (hw : w.heap.size ≤ B) (hb : Below B W W') : Mem w W' L :=
  ⟨fun p hp => (hb.block _ (up p hp)).trans (h.all p hp), h.lo, h.inc, h.below.trans (hb.mono hw)⟩
theorem Mem.top {w W : World} {L : List (Nat × Obj)} (h : Mem w W L) : ∀ p ∈ L, p.1 < W.heap.size := fun p hp => lt_heap (h.all p hp)
theorem MO.step {w W W' : World} {L : List (Nat × Obj)} {B : Nat} {A : Option Addr} {n c : Nat} {f : Nat → Int} (h : MO w W L B A n c f) (hb : Below W.heap.size W W') : MO w W' L B A n c f :=
  ⟨h.mem.step hb, h.own.below hb, h.up, Nat.le_trans h.le hb.size, h.wle⟩
theorem MO.alloc {w W : World} {L : List (Nat × Obj)} {B : Nat} {A : Option Addr} {n c : Nat} {f : Nat → Int} (h : MO w W L B A n c f) (o : Obj) : MO w (W.alloc o) L B A n c f := h.step (below_alloc _ _)
theorem MO.app {w W W' : World} {L : List (Nat × Obj)} {B : Nat} {A A' : Option Addr} {n c n' c' : Nat} {f f' : Nat → Int} (h : MO w W L B A n c f) (ho : Own W' B 5 A' n' c' f') (hg : W.grownBy W' (Value.ownBlock (.slice A n c))) : MO w W' L B A' n' c' f' := by
  have hb : Below B W W' := (Below.refl _ _).grown hg h.le (fun k hk => h.own.at_ k hk)
  exact ⟨h.mem.besides h.up h.wle hb, ho, h.up, Nat.le_trans h.le hb.size, h.wle⟩
theorem MO.same {w W : World} {L : List (Nat × Obj)} {B : Nat} {A : Option Addr} {n c : Nat} {f g : Nat → Int} (h : MO w W L B A n c f) (hg : ∀ k, k < n → g k = f k) : MO w W L B A n c g := ⟨h.mem, h.own.same hg, h.up, h.le, h.wle⟩
theorem MO.below {w W : World} {L : List (Nat × Obj)} {B : Nat} {A : Option Addr} {n c : Nat} {f : Nat → Int} (h : MO w W L B A n c f) : Below w.heap.size w W := h.mem.below
end Go.Proofs.YtimcdnbfdkpffaaGreat
/- Plain words for slices of any elements of some cells each, over any program: the cells as a function of their place; one of the call's own, onto which is appended, into which is stored; make. (Bytes has them for bytes, by numbers.) -/
namespace Go.Proofs.YtimcdnbfdkpffaaGreat
open Go.RowKit
/-- The first m of f. -/
def vals (m : Nat) (f : Nat → Value) : List Value := (List.range m).map f
theorem vals_len (m : Nat) (f : Nat → Value) : (vals m f).length = m := by simp [vals]
theorem vals_get {m : Nat} {f : Nat → Value} {k : Nat} (h : k < m) : (vals m f)[k]? = some (f k) := by
  simp [vals, List.getElem?_map, List.getElem?_range h]
theorem vals_congr {m : Nat} {f g : Nat → Value} (h : ∀ k, k < m → g k = f k) : vals m g = vals m f := by
  unfold vals
  exact List.map_congr_left fun k hk => h k (by simpa using hk)
theorem vals_eq {m : Nat} {f : Nat → Value} {l : List Value} (hl : l.length = m) (h : ∀ k, k < m → l[k]? = some (f k)) : l = vals m f := by
  refine List.ext_getElem? fun k => ?_
  rcases Nat.lt_or_ge k m with q | q
  · rw [h k q, vals_get q]
  · rw [List.getElem?_eq_none (by omega), List.getElem?_eq_none (by rw [vals_len]; exact q)]
/-- f, but v at p. -/
def updV (f : Nat → Value) (p : Nat) (v : Value) (k : Nat) : Value := if k = p then v else f k
theorem vals_upd (m p : Nat) (f : Nat → Value) (v : Value) : vals m (updV f p v) = (vals m f).set p v := by
  symm
  refine vals_eq (by simp [vals_len]) fun k hk => ?_
  rw [List.getElem?_set]
  unfold updV
  by_cases e : p = k
  · subst e
    rw [if_pos rfl, if_pos (by rw [vals_len]; exact hk), if_pos rfl]
  · rw [if_neg e, vals_get hk, if_neg (fun q => e q.symm)]
/-- f, m of it, and behind them g. -/
def catV (m : Nat) (f g : Nat → Value) (k : Nat) : Value := if k < m then f k else g (k - m)
theorem vals_cat (n m : Nat) (f g : Nat → Value) : vals (n + m) (catV n f g) = vals n f ++ vals m g := by
  symm
  refine vals_eq (by simp [vals_len]) fun k hk => ?_
  unfold catV
  rw [List.getElem?_append]
  rcases Nat.lt_or_ge k n with q | q
  · rw [if_pos (by rw [vals_len]; exact q), if_pos q, vals_get q]
  · rw [if_neg (by rw [vals_len]; omega), if_neg (by omega), vals_len, vals_get (by omega)]
/-- Cells that read as f, below block B; of nothing the address is not asked. -/
def RdC (w : World) (B : Nat) (A : Option Addr) (m : Nat) (f : Nat → Value) : Prop :=
  m = 0 ∨ ∃ b off, A = some ⟨b, off, none⟩ ∧ b < B ∧ ∀ k, k < m → w.cell? ⟨b, off + k, none⟩ = some (f k)
/-- Elements of 'size' cells each, in a row of the call's own, from block base on. -/
def OwnC (w : World) (base : Nat) (e : TypeId) (size : Nat) (A : Option Addr) (n c : Nat) (f : Nat → Value) : Prop :=
  w.ownsRow base e size (.slice A n c) n (vals (n * size) f)
theorem OwnC.nil_ (w : World) (base : Nat) (e : TypeId) (size : Nat) (f : Nat → Value) : OwnC w base e size none 0 0 f := ⟨by simp [vals], .inl ⟨rfl, rfl⟩⟩
theorem OwnC.cap {w : World} {base size : Nat} {e : TypeId} {A : Option Addr} {n c : Nat} {f : Nat → Value} (h : OwnC w base e size A n c f) : n ≤ c := by
  rcases h.2 with ⟨hv, rfl⟩ | ⟨g, cap, cur, hv, _, _, hc, _⟩
  · omega
  · injection hv with _ _ h3
    omega
theorem OwnC.cap_le {w : World} {base size : Nat} {e : TypeId} {A : Option Addr} {n c : Nat} {f : Nat → Value} (h : OwnC w base e size A n c f) : c ≤ maxLen := by
  rcases h.2 with ⟨hv, rfl⟩ | ⟨g, cap, cur, hv, _, _, _, hc, _⟩
  · injection hv with _ _ h3
    subst h3
    exact Nat.zero_le _
  · injection hv with _ _ h3
    subst h3
    exact hc
theorem OwnC.lies {w : World} {base size : Nat} {e : TypeId} {A : Option Addr} {n c : Nat} {f : Nat → Value} (h : OwnC w base e size A n c f) (hn : 0 < n) :
    ∃ g, A = some ⟨g, 0, none⟩ ∧ base ≤ g ∧ g < w.heap.size ∧ (∀ k, k < n * size → w.cell? ⟨g, k, none⟩ = some (f k)) ∧ ∀ k, w.frozen? ⟨g, k, none⟩ = false := by
  have hh := h
  rcases h.2 with ⟨_, h0⟩ | ⟨g, cap, cur, hv, hb, hg, hnc, _⟩
  · omega
  · injection hv with h1 _ h3
    subst h1
    have hlt : g < w.heap.size := by
      rcases Nat.lt_or_ge g w.heap.size with hlt | hge
      · exact hlt
      · rw [Array.getElem?_eq_none hge] at hg; cases hg
    refine ⟨g, rfl, hb, hlt, fun k hk => ?_, fun k => World.ownsRow.frozenAt hh k⟩
    rw [World.ownsRow.cellAt hh k hk, vals_get hk]
theorem OwnC.rd {w : World} {base size : Nat} {e : TypeId} {A : Option Addr} {n c : Nat} {f : Nat → Value} (h : OwnC w base e size A n c f) : RdC w w.heap.size A (n * size) f := by
  rcases Nat.eq_zero_or_pos n with h0 | h0
  · exact .inl (by rw [h0, Nat.zero_mul])
  · obtain ⟨g, rfl, _, hlt, hc, _⟩ := h.lies h0
    exact .inr ⟨g, 0, rfl, hlt, fun k hk => by rw [Nat.zero_add]; exact hc k hk⟩
theorem OwnC.fresh (w : World) (base g : Nat) (hg : g = w.heap.size) (hb : base ≤ w.heap.size) (e : TypeId) (size : Nat) (f : Nat → Value) : OwnC (w.alloc (.cells #[] e)) base e size (some ⟨g, 0, none⟩) 0 0 f := by
  subst hg
  exact ⟨by simp [vals], .inr ⟨w.heap.size, 0, #[], rfl, hb, heap_alloc_new w _, Nat.le_refl _, by unfold maxLen; omega, by simp, by simp [vals]⟩⟩
theorem OwnC.same {w : World} {base size : Nat} {e : TypeId} {A : Option Addr} {n c : Nat} {f g : Nat → Value} (h : OwnC w base e size A n c f) (hg : ∀ k, k < n * size → g k = f k) : OwnC w base e size A n c g := by
  unfold OwnC at h ⊢
  rw [vals_congr hg]
  exact h
theorem OwnC.alloc {w : World} {base size : Nat} {e : TypeId} {A : Option Addr} {n c : Nat} {f : Nat → Value} (h : OwnC w base e size A n c f) (o : Obj) : OwnC (w.alloc o) base e size A n c f := World.ownsRow.alloc h o
theorem OwnC.below {w w' : World} {base size : Nat} {e : TypeId} {A : Option Addr} {n c : Nat} {f : Nat → Value} (h : OwnC w base e size A n c f) (hb : Below w.heap.size w w') : OwnC w' base e size A n c f := by
  refine ⟨h.1, ?_⟩
  rcases h.2 with hh | ⟨g, cap, cur, hv, hg, hh, r⟩
  · exact .inl hh
  · have hlt : g < w.heap.size := by
      rcases Nat.lt_or_ge g w.heap.size with hlt | hge
      · exact hlt
      · rw [Array.getElem?_eq_none hge] at hh; cases hh
    exact .inr ⟨g, cap, cur, hv, hg, (hb.block g hlt).trans hh, r⟩
theorem OwnC.ne {w : World} {base size : Nat} {e : TypeId} {g n c : Nat} {f : Nat → Value} (h : OwnC w base e size (some ⟨g, 0, none⟩) n c f) {q : Nat} {cs : Array Value} {t : TypeId} {fr : Nat × Nat} (hq : w.heap[q]? = some (.cells cs t fr)) (hte : t ≠ e) : q ≠ g := by
  rintro rfl
  rcases h.2 with ⟨hh, _⟩ | ⟨g', cap, cur, hv, _, hh, _⟩
  · cases hh
  · injection hv with h1 _ _
    injection h1 with h1
    injection h1 with h1
    subst h1
    rw [hq] at hh
    injection hh with hh
    injection hh with _ hh _
    exact hte hh
theorem OwnC.le {w : World} {base base' size : Nat} {e : TypeId} {A : Option Addr} {n c : Nat} {f : Nat → Value} (h : OwnC w base e size A n c f) (hb : base' ≤ base) : OwnC w base' e size A n c f := by
  refine ⟨h.1, ?_⟩
  rcases h.2 with hh | ⟨g, cap, cur, hv, hg, r⟩
  · exact .inl hh
  · exact .inr ⟨g, cap, cur, hv, Nat.le_trans hb hg, r⟩
theorem OwnC.at_ {w : World} {base size : Nat} {e : TypeId} {A : Option Addr} {n c : Nat} {f : Nat → Value} (h : OwnC w base e size A n c f) : ∀ k, Value.ownBlock (.slice A n c) = some k → base ≤ k := fun k hk => (World.ownsRow.lt h k hk).1
/-- A store into it. -/
theorem OwnC.set_ {w : World} {base size : Nat} {e : TypeId} {g n c : Nat} {f : Nat → Value} (h : OwnC w base e size (some ⟨g, 0, none⟩) n c f) (p : Nat) (v : Value) : OwnC (w.setCell ⟨g, p, none⟩ v) base e size (some ⟨g, 0, none⟩) n c (updV f p v) := by
  have e := (World.ownsRow.stored h p v).1
  unfold OwnC
  rw [vals_upd]
  exact e
section
variable {P : Program}
/-- 'append(own, s...)'. -/
theorem run_append_vals {w : World} (base : Nat) (t ty e : TypeId) (i : TypeInfo) (z : Value) (size : Nat) (ht : P.underlying t = some (.slice e)) (hi : P.info? e = some i) (hz : i.zero = some z) (hsize : i.size = size) (hzs : z.cells.size = size) (hsz : 0 < size)
    {A : Option Addr} {n c : Nat} {f : Nat → Value} (hown : OwnC w base e size A n c f) {B m c' : Nat} {A' : Option Addr} {g : Nat → Value} (hr : RdC w B A' (m * size) g) (h1 : ∀ k, k < m * size → (g k).oneCell' = true)
    (hlen : n + m ≤ maxLen) (hby : (n + m) * i.bytes ≤ 140737488355328) (hbase : base ≤ w.heap.size) :
    ∃ A2 c2 w', (Builtin.append_ #[t, t] ty #[.slice A n c, .slice A' m c']).run P w = .ok (.slice A2 (n + m) c2) w' ∧ OwnC w' base e size A2 (n + m) c2 (catV (n * size) f g) ∧ w.grownBy w' (Value.ownBlock (.slice A n c)) ∧
      (Value.ownBlock (.slice A2 (n + m) c2) = Value.ownBlock (.slice A n c) ∨ Value.ownBlock (.slice A2 (n + m) c2) = some w.heap.size) := by
  have hm0 : m * size = 0 → m = 0 := fun h => by
    rcases Nat.mul_eq_zero.1 h with q | q
    · exact q
    · omega
  have close : ∀ ad : Addr, A' = some ad → (∀ j u, (vals (m * size) g)[j]? = some u → w.cell? (ad.add j) = some u) →
      ∃ A2 c2 w', (Builtin.append_ #[t, t] ty #[.slice A n c, .slice A' m c']).run P w = .ok (.slice A2 (n + m) c2) w' ∧ OwnC w' base e size A2 (n + m) c2 (catV (n * size) f g) ∧ w.grownBy w' (Value.ownBlock (.slice A n c)) ∧
      (Value.ownBlock (.slice A2 (n + m) c2) = Value.ownBlock (.slice A n c) ∨ Value.ownBlock (.slice A2 (n + m) c2) = some w.heap.size) := by
    intro ad had hcells
    obtain ⟨v', w', hrun, h2, h3, _, h5⟩ := run_append_own_at (P := P) w base t ty e i z size i.bytes ht hi hz hsize rfl hzs hsz (.slice A n c) n _ hown ad m c' (vals (m * size) g) (vals_len ..) hcells
      (by intro u hu; unfold vals at hu; simp at hu; obtain ⟨x, hx, rfl⟩ := hu; exact h1 x hx) hlen hby hbase
    subst had
    rw [← vals_cat, ← Nat.add_mul] at h2
    have hv : ∃ A2 c2, v' = .slice A2 (n + m) c2 := by
      rcases h2.2 with ⟨hv, hz⟩ | ⟨g', cap, cur, hv, _⟩
      · exact ⟨none, 0, by rw [hv, hz]⟩
      · exact ⟨_, _, hv⟩
    obtain ⟨A2, c2, rfl⟩ := hv
    exact ⟨A2, c2, w', hrun, h2, h3, h5⟩
  rcases hr with h0 | ⟨b, off, rfl, hlt, hc⟩
  · obtain rfl := hm0 h0
    cases hA : A' with
    | none =>
      refine ⟨A, c, w, ?_, ?_, World.grownBy.refl w _, .inl rfl⟩
      · rcases hown.2 with ⟨hv, rfl⟩ | ⟨g', cap, cur, hv, _, _, hnc, _⟩
        · rw [hv]
          simp [Builtin.append_, run_underlying ht, sizeOf, typeInfo, hi, Builtin.lenOf, Builtin.firstCells]
        · injection hv with e1 _ e3
          subst e1
          subst e3
          simp [Builtin.append_, run_underlying ht, sizeOf, typeInfo, hi, Builtin.lenOf, Builtin.firstCells, hnc, storeCells]
      · exact OwnC.same hown fun k hk => by unfold catV; rw [if_pos (by simpa using hk)]
    | some ad =>
      have := close ad hA (by simp [vals])
      rw [hA] at this
      exact this
  · refine close _ rfl fun j u hu => ?_
    have hj : j < m * size := by
      rcases Nat.lt_or_ge j (m * size) with h | h
      · exact h
      · rw [List.getElem?_eq_none (by rw [vals_len]; exact h)] at hu; cases hu
    have hplain : (⟨b, off, none⟩ : Addr).add j = ⟨b, off + j, none⟩ := by unfold Addr.add; split <;> simp_all
    rw [vals_get hj] at hu
    rw [hplain, hc j hj, hu]
/-- .. in a plain region, behind a guard or not. -/
theorem wpList_append_vals {w : World} {ops : Array Oper} {rest : List Oper} {o : Oper} {a : Act} {Q : Exit → Act → World → Prop} (hgd : Region.wanted o (yielded ops a.tmps) = true) (s x : Operand) (t : TypeId)
    (ho : o.op = .call { callee := .builtin .append, args := #[s, x], argTypes := #[t, t] })
    (base : Nat) (e : TypeId) (i : TypeInfo) (z : Value) (size : Nat) (ht : P.underlying t = some (.slice e)) (hi : P.info? e = some i) (hz : i.zero = some z) (hsize : i.size = size) (hzs : z.cells.size = size) (hsz : 0 < size)
    {A : Option Addr} {n c : Nat} {f : Nat → Value} (hs : a.eval s = .slice A n c) (hown : OwnC w base e size A n c f) {B m c' : Nat} {A' : Option Addr} {g : Nat → Value} (hx : a.eval x = .slice A' m c') (hr : RdC w B A' (m * size) g) (h1 : ∀ k, k < m * size → (g k).oneCell' = true)
    (hlen : n + m ≤ maxLen) (hby : (n + m) * i.bytes ≤ 140737488355328) (hbase : base ≤ w.heap.size)
    (h : ∀ A2 c2 w', OwnC w' base e size A2 (n + m) c2 (catV (n * size) f g) → w.grownBy w' (Value.ownBlock (.slice A n c)) →
      (Value.ownBlock (.slice A2 (n + m) c2) = Value.ownBlock (.slice A n c) ∨ Value.ownBlock (.slice A2 (n + m) c2) = some w.heap.size) → wpList P ops Q rest (a.put o.dst (.slice A2 (n + m) c2)) w') :
    wpList P ops Q (o :: rest) a w := by
  refine BigFrame.wpList_want hgd fun K hK => ?_
  obtain ⟨A2, c2, w', hrun, h2, h3, h4⟩ := run_append_vals (P := P) base t o.type e i z size ht hi hz hsize hzs hsz hown hr h1 hlen hby hbase (c' := c')
  unfold Oper.wp execOp
  simp only [ho, resolve, invoke, builtin, Sem.run_bind, Sem.run_pure, Result.andThen_ok, List.map_toArray, List.map_cons, List.map_nil, hs, hx, hrun]
  exact hK _ _ (h A2 c2 w' h2 h3 h4)
end
end Go.Proofs.YtimcdnbfdkpffaaGreat
/- What is kept of a heap but for some blocks; cells that lie in some blocks: words for objects with a footprint, over any program. -/
namespace Go.Proofs.YtimcdnbfdkpffaaGreat
set_option maxRecDepth 100000
open Go.RowKit
/-- All old blocks are kept, but those of R. -/
structure Kept (R : Nat → Prop) (w w' : World) : Prop where
  os : w'.os = w.os
  tape : w'.tape = w.tape
  output : w'.output = w.output
  size : w.heap.size ≤ w'.heap.size
  block : ∀ k, k < w.heap.size → ¬ R k → w'.heap[k]? = w.heap[k]?
theorem Kept.refl (R : Nat → Prop) (w : World) : Kept R w w := ⟨rfl, rfl, rfl, Nat.le_refl _, fun _ _ _ => rfl⟩
theorem Kept.of_below {w w' : World} (h : Below w.heap.size w w') (R : Nat → Prop) : Kept R w w' := ⟨h.os, h.tape, h.output, h.size, fun k hk _ => h.block k hk⟩
theorem Kept.below {R : Nat → Prop} {w w' : World} (h : Kept R w w') {B : Nat} (hB : B ≤ w.heap.size) (hR : ∀ k, R k → B ≤ k) : Below B w w' :=
  ⟨h.os, h.tape, h.output, h.size, fun k hk => h.block k (Nat.lt_of_lt_of_le hk hB) fun hr => Nat.not_lt.2 (hR k hr) hk⟩
theorem Kept.mono {R R' : Nat → Prop} {w w' : World} (h : Kept R w w') (hR : ∀ k, k < w.heap.size → R k → R' k) : Kept R' w w' := ⟨h.os, h.tape, h.output, h.size, fun k hk hn => h.block k hk fun hr => hn (hR k hk hr)⟩
theorem Kept.trans {R R' : Nat → Prop} {a b c : World} (h : Kept R a b) (k : Kept R' b c) (hR : ∀ j, j < a.heap.size → R' j → R j) : Kept R a c :=
  ⟨k.os.trans h.os, k.tape.trans h.tape, k.output.trans h.output, Nat.le_trans h.size k.size, fun i hi hn => (k.block i (Nat.lt_of_lt_of_le hi h.size) fun hr => hn (hR i hi hr)).trans (h.block i hi hn)⟩
theorem Kept.step {R : Nat → Prop} {a b c : World} (h : Kept R a b) (k : Below b.heap.size b c) : Kept R a c := h.trans (Kept.of_below k (fun _ => False)) fun _ _ q => q.elim
theorem kept_cell_block {w w' : World} {p : Addr} (h : w'.heap[p.block]? = w.heap[p.block]?) : w'.cell? p = w.cell? p := by
  simp only [World.cell?, h]
theorem Kept.cell {R : Nat → Prop} {w w' : World} (h : Kept R w w') {p : Addr} (hp : p.block < w.heap.size) (hn : ¬ R p.block) : w'.cell? p = w.cell? p := kept_cell_block (h.block _ hp hn)
/-- A store into a block of R. -/
theorem Kept.setCell {R : Nat → Prop} {w w' : World} (h : Kept R w w') {p : Addr} (hp : R p.block ∨ w.heap.size ≤ p.block) (v : Value) : Kept R w (w'.setCell p v) := by
  have b : Below 0 w' (w'.setCell p v) := (Below.refl 0 w').setCell (Nat.zero_le _) v
  refine ⟨b.os.trans h.os, b.tape.trans h.tape, b.output.trans h.output, Nat.le_trans h.size b.size, fun k hk hn => ?_⟩
  have hne : k ≠ p.block := fun e => by
    subst e
    rcases hp with q | q
    · exact hn q
    · omega
  exact (Below.heap_setCell w' p v k hne).trans (h.block k hk hn)
theorem Kept.alloc {R : Nat → Prop} {w w' : World} (h : Kept R w w') (o : Obj) : Kept R w (w'.alloc o) := h.step (below_alloc w' o)
theorem Kept.drew {R : Nat → Prop} {w w' : World} (h : Kept R w w') : Kept R w w'.drew :=
  let b : Below 0 w' w'.drew := (Below.refl 0 w').drew
  ⟨b.os.trans h.os, b.tape.trans h.tape, b.output.trans h.output, h.size, h.block⟩
theorem Kept.setRow {R : Nat → Prop} {w w' : World} (h : Kept R w w') {g : Nat} (hg : R g ∨ w.heap.size ≤ g) (new : Array Value) : Kept R w (w'.setRow g new) := by
  have b : Below 0 w' (w'.setRow g new) := below_setRow (Below.refl 0 w') (Nat.zero_le _) new
  refine ⟨b.os.trans h.os, b.tape.trans h.tape, b.output.trans h.output, Nat.le_trans h.size b.size, fun k hk hn => ?_⟩
  have hne : k ≠ g := fun e => by
    subst e
    rcases hg with q | q
    · exact hn q
    · omega
  exact (setRow_other w' g k new hne).trans (h.block k hk hn)
/-- A struct in a cell and a value, as results. -/
theorem results_rowa {P : Program} {fn : Func} {p a : Tmp} {ty : TypeId} (h : fn.results = #[.cell p ty, .tmp a]) (tmps : Array Value) (w : World) (g : Nat) (t : TypeId) (cs : Array Value) (fr : Nat × Nat) (d : TypeDesc)
    (hp : tmps.getD p undef = .pointer (some ⟨g, 0, none⟩)) (hg : w.heap[g]? = some (.cells cs t fr))
    (hu : P.underlying ty = some d) (hd : (match d with | .struct _ | .array _ _ => true | _ => false) = true) (hi : (P.info? ty).map (·.size) = some cs.size) :
    (results fn tmps).run P w = .ok (.tuple #[.agg cs, tmps.getD a undef]) w := by
  have hp' : tmps[p]?.getD undef = .pointer (some ⟨g, 0, none⟩) := by simpa using hp
  simp [results, h, hp', asAddr, run_loadVar_row w g t ty cs fr d hg hu hd hi]
end Go.Proofs.YtimcdnbfdkpffaaGreat
/- General words of stage 9: what is kept, over functions that are ranged over; structs loaded in a quiet region; rows and their blocks; over any program. -/
namespace Go.Proofs.YtimcdnbfdkpffaaGreat
set_option maxRecDepth 100000
open Go.RowKit Go.Shelf
theorem Kept.grownBy {R : Nat → Prop} {w w' : World} {row : Option Nat} (hg : w.grownBy w' row) (hR : ∀ k, row = some k → R k) : Kept R w w' :=
  ⟨hg.os, hg.tape, hg.output, hg.size, fun k hk hn => hg.block k hk fun e => hn (hR k e.symm)⟩
theorem keptK_b {R : Nat → Prop} {w : World} (hn : ∀ k, w.heap.size ≤ k → R k) (W : World) (l : Nat) (o o' : Obj) (hl : w.heap.size ≤ l) (_ : W.heap[l]? = some o) (_ : o.isCells = false) (_ : o.isWalk = false) : Kept R W (W.putObj l o') :=
  Kept.grownBy (grownBy_putObj' W l o') fun k e => by
    injection e with e
    subst e
    exact hn _ hl
theorem qh_mid {P : Program} {ops : Array Oper} {C : World → Prop} {Q : Act → Prop} {a : Act} {o : Oper} {rest : List Oper} (hw : Region.wanted o (yielded ops a.tmps) = true) (ty : TypeId) (x : Operand) (ho : o.op = .load ty x)
    (g i : Nat) (hx : a.eval x = .pointer (some ⟨g, i, none⟩)) (cs : Array Value) (d : TypeDesc) (hg : ∀ w, C w → w.rangeAt g i cs.toList)
    (hu : P.underlying ty = some d) (hd : d.isRow = true) (hi : (P.info? ty).map (·.size) = some cs.toList.length)
    (h : wpQuiet P ops C Q rest (a.put o.dst (.agg cs))) : wpQuiet P ops C Q (o :: rest) a := by
  refine BigFrame.wpQuiet_want hw fun K hK => ⟨.agg cs, fun w hC => ?_, hK _ h⟩
  unfold Oper.quietAt execOp
  simp only [ho, hx, Instr.loadAt, Instr.sureAddr, Sem.run_bind, Sem.run_pure, Result.andThen_ok, run_loadVar_mid w g i ty cs.toList d (hg w hC) hu hd hi]
  exact ⟨rfl, rfl⟩
theorem qh_row {P : Program} {ops : Array Oper} {C : World → Prop} {Q : Act → Prop} {a : Act} {o : Oper} {rest : List Oper} (hw : Region.wanted o (yielded ops a.tmps) = true) (ty : TypeId) (x : Operand) (ho : o.op = .load ty x)
    (g : Nat) (hx : a.eval x = .pointer (some ⟨g, 0, none⟩)) (t : TypeId) (cs : Array Value) (fr : Nat × Nat) (d : TypeDesc) (hg : ∀ w, C w → w.heap[g]? = some (.cells cs t fr))
    (hu : P.underlying ty = some d) (hd : (match d with | .struct _ | .array _ _ => true | _ => false) = true) (hi : (P.info? ty).map (·.size) = some cs.size)
    (h : wpQuiet P ops C Q rest (a.put o.dst (.agg cs))) : wpQuiet P ops C Q (o :: rest) a := by
  refine BigFrame.wpQuiet_want hw fun K hK => ⟨.agg cs, fun w hC => ?_, hK _ h⟩
  unfold Oper.quietAt execOp
  simp only [ho, hx, Instr.loadAt, Instr.sureAddr, Sem.run_bind, Sem.run_pure, Result.andThen_ok, run_loadVar_row w g t ty cs fr d (hg w hC) hu hd hi]
  exact ⟨rfl, rfl⟩
theorem stay_hp {w : World} {g : Nat} {o : Obj} (h : w.heap[g]? = some o) : ∀ x, (∃ W : Stay w, x = W.w) → x.heap[g]? = some o := by
  rintro x ⟨W, rfl⟩
  exact (W.below.block _ (lt_heap h)).trans h
theorem stay_rng {w : World} {g i : Nat} {l : List Value} (hg : g < w.heap.size) (h : w.rangeAt g i l) : ∀ x, (∃ W : Stay w, x = W.w) → x.rangeAt g i l := by
  rintro x ⟨W, rfl⟩
  exact fun j v hv => (W.below.cell (p := ⟨g, i + j, none⟩) hg).trans (h j v hv)
def ret (v : Value) (W : World) (e : Ending) (w' : World) : Prop := e = .returned v ∧ Below W.heap.size W w'
theorem OwnC.block {w w' : World} {base size : Nat} {e : TypeId} {g n c : Nat} {f : Nat → Value} (h : OwnC w base e size (some ⟨g, 0, none⟩) n c f) (hw : w'.heap[g]? = w.heap[g]?) : OwnC w' base e size (some ⟨g, 0, none⟩) n c f := by
  refine ⟨h.1, ?_⟩
  rcases h.2 with hh | ⟨g', cap, cur, hv, hg, hh, r⟩
  · exact .inl hh
  · have hv' := hv
    injection hv' with h1 h2 h3
    injection h1 with h1
    injection h1 with h1
    subst h1
    exact .inr ⟨g, cap, cur, hv, hg, hw.trans hh, r⟩
theorem grown_below {w w' : World} (h : Below w.heap.size w w') : w.grownBy w' none := ⟨h.os, h.tape, h.output, h.size, fun k hk _ => h.block k hk⟩
theorem Kept.setCells {R : Nat → Prop} {w w' : World} (h : Kept R w w') {g : Nat} (hg : R g ∨ w.heap.size ≤ g) : ∀ (vs : List Value) (o : Nat), Kept R w (w'.setCells g o vs) := fun vs => by
  induction vs generalizing w' with
  | nil => exact fun _ => h
  | cons v r ih => exact fun o => ih (h.setCell (p := ⟨g, o, none⟩) hg v) (o + 1)
theorem ownBlock_some {A : Option Addr} {n c k : Nat} (h : Value.ownBlock (.slice A n c) = some k) : ∃ a, A = some a ∧ a.block = k := by
  cases A with
  | none => cases h
  | some a => exact ⟨a, rfl, by simpa [Value.ownBlock] using h⟩
end Go.Proofs.YtimcdnbfdkpffaaGreat
