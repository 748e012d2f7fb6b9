import Derived.Test.YthjghofjdcepmaaGm0
import Derived.Laws.BitsAllLaws
import Derived.Test.YthjghofjdcepmaaGm1
import Derived.Deep.RegionHeld3
import Derived.Deep.MidRow
import Derived.Deep.CutRange
import Derived.StillTailTactics
import Derived.WalkLawsBesides
import Derived.IntWalk
import Derived.BigQuiet
import Derived.Laws.CopyOwn
import Derived.Laws.Tables
import Derived.Laws.IdiomCopy
import Derived.Laws.BytesArg
/- Bits: numbers that are joined by '|', and cut by '&', over every kind that the program uses. -/
namespace Go.Proofs.Ythjghofjdcepmaa
open Go.RowKit
theorem toNat_ofInt (n X : Nat) (h : X < 2 ^ n) : (BitVec.ofInt n (X : Int)).toNat = X := by
  rw [BitVec.ofInt_natCast, BitVec.toNat_ofNat]
  exact Nat.mod_eq_of_lt h
theorem or_nat (k : IntKind) (X Y : Nat) (hX : X < 2 ^ k.bits) (hY : Y < 2 ^ k.bits) : bits .or k (X : Int) (Y : Int) = k.wrap ((X ||| Y : Nat) : Int) := by
  show k.wrap ((BitVec.ofInt k.bits (X : Int) ||| BitVec.ofInt k.bits (Y : Int)).toNat : Int) = _
  rw [BitVec.toNat_or, toNat_ofInt _ _ hX, toNat_ofInt _ _ hY]
theorem and_nat (k : IntKind) (X Y : Nat) (hX : X < 2 ^ k.bits) (hY : Y < 2 ^ k.bits) : bits .and k (X : Int) (Y : Int) = k.wrap ((X &&& Y : Nat) : Int) := by
  show k.wrap ((BitVec.ofInt k.bits (X : Int) &&& BitVec.ofInt k.bits (Y : Int)).toNat : Int) = _
  rw [BitVec.toNat_and, toNat_ofInt _ _ hX, toNat_ofInt _ _ hY]
/-- 'x * p | y', y below p, a power of two: the sum. -/
theorem or_join (k : IntKind) (M : Nat) (hM : M ≤ 2 ^ k.bits) (hw : ∀ n : Nat, n < M → k.wrap (n : Int) = n) (x y : Int) (p i : Nat) (hp : p = 2 ^ i) (hx : 0 ≤ x) (hy : 0 ≤ y) (hy' : y < (p : Int)) (hb : x * (p : Int) + y < (M : Int)) :
    bits .or k (x * (p : Int)) y = x * (p : Int) + y := by
  obtain ⟨X, rfl⟩ := Int.eq_ofNat_of_zero_le hx
  obtain ⟨Y, rfl⟩ := Int.eq_ofNat_of_zero_le hy
  have h := Nat.shiftLeft_add_eq_or_of_lt (i := i) (b := Y) (by rw [← hp]; omega) X
  rw [Nat.shiftLeft_eq, ← hp] at h
  have hb' : X * p + Y < M := by
    have : ((X * p + Y : Nat) : Int) < (M : Int) := by simpa using hb
    omega
  have e := or_nat k (X * p) Y (by omega) (by omega)
  rw [← h, hw _ hb'] at e
  simpa using e
/-- 'x & (p - 1)', p a power of two: the rest. -/
theorem and_rest (k : IntKind) (M : Nat) (hM : M ≤ 2 ^ k.bits) (hw : ∀ n : Nat, n < M → k.wrap (n : Int) = n) (x : Int) (m p i : Nat) (hp : p = 2 ^ i) (hm : m + 1 = p) (hx : 0 ≤ x) (hx' : x < (M : Int)) (hpM : p ≤ M) :
    bits .and k x (m : Int) = x % (p : Int) := by
  obtain ⟨X, rfl⟩ := Int.eq_ofNat_of_zero_le hx
  have e := and_nat k X m (by omega) (by omega)
  have h : X &&& m = X % p := by
    have hm' : m = 2 ^ i - 1 := by omega
    rw [hm', hp]
    exact Nat.and_two_pow_sub_one_eq_mod X i
  have hlt : X % p < M := Nat.lt_of_lt_of_le (Nat.mod_lt _ (by omega)) hpM
  rw [h, hw _ hlt] at e
  rw [e]
  simp
theorem wr_u8 (n : Nat) (h : n < 256) : IntKind.u8.wrap (n : Int) = n := by rw [IntKind.wrap_u8']; omega
theorem wr_u16 (n : Nat) (h : n < 65536) : IntKind.u16.wrap (n : Int) = n := by rw [IntKind.wrap_u16]; omega
theorem wr_u32 (n : Nat) (h : n < 4294967296) : IntKind.u32.wrap (n : Int) = n := by rw [IntKind.wrap_u32']; omega
theorem wr_u64 (n : Nat) (h : n < 18446744073709551616) : IntKind.u64.wrap (n : Int) = n := by simp only [IntKind.wrap_u64]; omega
theorem wr_i64 (n : Nat) (h : n < 9223372036854775808) : IntKind.i64.wrap (n : Int) = n := by rw [IntKind.wrap_i64]; omega
theorem or_u8 (x y : Int) (p i : Nat) (hp : p = 2 ^ i) (hx : 0 ≤ x) (hy : 0 ≤ y) (hy' : y < (p : Int)) (hb : x * (p : Int) + y < 256) : bits .or .u8 (x * (p : Int)) y = x * (p : Int) + y := or_join .u8 256 (by decide) wr_u8 x y p i hp hx hy hy' hb
theorem or_u16 (x y : Int) (p i : Nat) (hp : p = 2 ^ i) (hx : 0 ≤ x) (hy : 0 ≤ y) (hy' : y < (p : Int)) (hb : x * (p : Int) + y < 65536) : bits .or .u16 (x * (p : Int)) y = x * (p : Int) + y := or_join .u16 65536 (by decide) wr_u16 x y p i hp hx hy hy' hb
theorem or_u32 (x y : Int) (p i : Nat) (hp : p = 2 ^ i) (hx : 0 ≤ x) (hy : 0 ≤ y) (hy' : y < (p : Int)) (hb : x * (p : Int) + y < 4294967296) : bits .or .u32 (x * (p : Int)) y = x * (p : Int) + y := or_join .u32 4294967296 (by decide) wr_u32 x y p i hp hx hy hy' hb
theorem or_u64 (x y : Int) (p i : Nat) (hp : p = 2 ^ i) (hx : 0 ≤ x) (hy : 0 ≤ y) (hy' : y < (p : Int)) (hb : x * (p : Int) + y < 18446744073709551616) : bits .or .u64 (x * (p : Int)) y = x * (p : Int) + y := or_join .u64 18446744073709551616 (by decide) wr_u64 x y p i hp hx hy hy' hb
theorem or_i64 (x y : Int) (p i : Nat) (hp : p = 2 ^ i) (hx : 0 ≤ x) (hy : 0 ≤ y) (hy' : y < (p : Int)) (hb : x * (p : Int) + y < 9223372036854775808) : bits .or .i64 (x * (p : Int)) y = x * (p : Int) + y := or_join .i64 9223372036854775808 (by decide) wr_i64 x y p i hp hx hy hy' hb
theorem and_u8 (x : Int) (m p i : Nat) (hp : p = 2 ^ i) (hm : m + 1 = p) (hx : 0 ≤ x) (hx' : x < 256) (hpM : p ≤ 256) : bits .and .u8 x (m : Int) = x % (p : Int) := and_rest .u8 256 (by decide) wr_u8 x m p i hp hm hx hx' hpM
theorem and_u16 (x : Int) (m p i : Nat) (hp : p = 2 ^ i) (hm : m + 1 = p) (hx : 0 ≤ x) (hx' : x < 65536) (hpM : p ≤ 65536) : bits .and .u16 x (m : Int) = x % (p : Int) := and_rest .u16 65536 (by decide) wr_u16 x m p i hp hm hx hx' hpM
theorem and_u32 (x : Int) (m p i : Nat) (hp : p = 2 ^ i) (hm : m + 1 = p) (hx : 0 ≤ x) (hx' : x < 4294967296) (hpM : p ≤ 4294967296) : bits .and .u32 x (m : Int) = x % (p : Int) := and_rest .u32 4294967296 (by decide) wr_u32 x m p i hp hm hx hx' hpM
theorem and_u64 (x : Int) (m p i : Nat) (hp : p = 2 ^ i) (hm : m + 1 = p) (hx : 0 ≤ x) (hx' : x < 18446744073709551616) (hpM : p ≤ 18446744073709551616) : bits .and .u64 x (m : Int) = x % (p : Int) := and_rest .u64 18446744073709551616 (by decide) wr_u64 x m p i hp hm hx hx' hpM
theorem and_i64 (x : Int) (m p i : Nat) (hp : p = 2 ^ i) (hm : m + 1 = p) (hx : 0 ≤ x) (hx' : x < 9223372036854775808) (hpM : p ≤ 9223372036854775808) : bits .and .i64 x (m : Int) = x % (p : Int) := and_rest .i64 9223372036854775808 (by decide) wr_i64 x m p i hp hm hx hx' hpM
example (x y : Int) (h : 0 ≤ x ∧ x < 16) (h' : 0 ≤ y ∧ y < 16) : bits .or .u8 (x * 16) y = x * 16 + y := or_u8 x y 16 4 rfl (by omega) (by omega) (by omega) (by omega)
example (x : Int) (h : 0 ≤ x ∧ x < 256) : bits .and .u8 x 15 = x % 16 := and_u8 x 15 16 4 rfl rfl (by omega) (by omega) (by omega)
end Go.Proofs.Ythjghofjdcepmaa
/- What walks of any layer want: rows of results, slices of the call's own beside other blocks, slices cut, copies into them, whole structs loaded. -/
namespace Go.Proofs.Ythjghofjdcepmaa
set_option maxRecDepth 100000
open Go.RowKit
theorem results_row2 {P : Program} {fn : Func} {p a b : Tmp} {ty : TypeId} (h : fn.results = #[.cell p ty, .tmp a, .tmp b]) (tmps : Array Value) (w : World) (g : Nat) (t : TypeId) (cs : Array Value) (fr : Nat × Nat) (d : TypeDesc)
    (hp : tmps.getD p undef = .pointer (some ⟨g, 0, none⟩)) (hg : w.heap[g]? = some (.cells cs t fr))
    (hu : P.underlying ty = some d) (hd : (match d with | .struct _ | .array _ _ => true | _ => false) = true) (hi : (P.info? ty).map (·.size) = some cs.size) :
    (results fn tmps).run P w = .ok (.tuple #[.agg cs, tmps.getD a undef, tmps.getD b undef]) w := by
  have hp' : tmps[p]?.getD undef = .pointer (some ⟨g, 0, none⟩) := by simpa using hp
  simp [results, h, hp', asAddr, run_loadVar_row w g t ty cs fr d hg hu hd hi]
/-- Kept where another block, of another type, alone is turned. -/
theorem Own.other {w w' : World} {base : Nat} {e : TypeId} {A : Option Addr} {n c : Nat} {f : Nat → Int} (h : Own w base e A n c f) {q : Nat} {cs : Array Value} {t : TypeId} {fr : Nat × Nat} (hq : w.heap[q]? = some (.cells cs t fr)) (hte : t ≠ e) (hw : ∀ k, k ≠ q → w'.heap[k]? = w.heap[k]?) : Own w' base e A n c f := by
  refine ⟨h.1, ?_⟩
  rcases h.2 with hh | ⟨g, cap, cur, hv, hg, hh, r⟩
  · exact .inl hh
  · have hne : g ≠ q := fun e1 => by
      subst e1
      rw [hq] at hh
      injection hh with hh
      injection hh with _ hh
      exact hte hh
    exact .inr ⟨g, cap, cur, hv, hg, (hw g hne).trans hh, r⟩
theorem Own.apart {w w2 : World} {base : Nat} {e : TypeId} {A A' : Option Addr} {n c n' c' : Nat} {f f' : Nat → Int} (h : Own w base e A n c f) (h' : Own w2 w.heap.size e A' n' c' f') : ∀ g, Value.ownBlock (.slice A n c) = some g → Value.ownBlock (.slice A' n' c') ≠ some g := fun g hg hg' => by
  have h1 := World.ownsRow.lt h g hg
  have h2 := h'.at_ g hg'
  omega
/-- Values laid into a block's cells, one behind the other. -/
def laid (cs : Array Value) (o : Nat) : List Value → Array Value
  | [] => cs
  | v :: r => laid (cs.setIfInBounds o v) (o + 1) r
theorem blk_setCells {g : Nat} {t : TypeId} : ∀ (vs : List Value) (o : Nat) (w : World) (cs : Array Value), w.heap[g]? = some (.cells cs t (0, 0)) → (w.setCells g o vs).heap[g]? = some (.cells (laid cs o vs) t (0, 0))
  | [], _, _, _, h => h
  | v :: r, o, _, _, h => blk_setCells r (o + 1) _ _ (blk_set h o v)
theorem below_setCells {b B : Nat} {a : World} (hb : B ≤ b) : ∀ (vs : List Value) (o : Nat) (w : World), Below B a w → Below B a (w.setCells b o vs)
  | [], _, _, h => h
  | v :: r, o, _, h => below_setCells hb r (o + 1) _ (h.setCell (by exact hb) v)
theorem other_setCells {b k : Nat} (hk : k ≠ b) : ∀ (vs : List Value) (o : Nat) (w : World), (w.setCells b o vs).heap[k]? = w.heap[k]?
  | [], _, _ => rfl
  | v :: r, o, w => (other_setCells hk r (o + 1) _).trans (Below.heap_setCell w ⟨b, o, none⟩ v k hk)
theorem blk_there {w : World} {g : Nat} {cs : Array Value} {t : TypeId} (h : w.heap[g]? = some (.cells cs t (0, 0))) {o k : Nat} (hk : o + k ≤ cs.size) : w.there g o k := fun j hj => by
  refine ⟨?_, blk_free h _⟩
  rw [blk_cell h (o + j), Array.getElem?_eq_getElem (by omega)]
  rfl
/-- A new slice without bytes; bytes of the call's own; a new header. -/
def mkF (w : World) : Fact := fun v W => ∃ z, v = .slice (some ⟨z, 0, none⟩) 0 0 ∧ Own W w.heap.size 5 (some ⟨z, 0, none⟩) 0 0 (fun _ => 0)
def ownF (w : World) (n : Nat) (f : Nat → Int) : Fact := fun v W => ∃ O co, v = .slice O n co ∧ Own W w.heap.size 5 O n co f
theorem stb_mk (w : World) : Stb (mkF w) := fun _ _ _ ⟨z, h, ho⟩ hb => ⟨z, h, ho.below hb⟩
theorem stb_own (w : World) (n : Nat) (f : Nat → Int) : Stb (ownF w n f) := fun _ _ _ ⟨O, co, h, ho⟩ hb => ⟨O, co, h, ho.below hb⟩
theorem slice_both (b off n c lo hi : Nat) (h1 : lo ≤ hi) (h2 : hi ≤ n) (h3 : n ≤ c) (_ : c ≤ 9223372036854775807) : ∃ A : Option Addr,
    (∀ W, (Instr.sliceAt 42 (.slice (some ⟨b, off, none⟩) n c) (some (.int .i64 (lo : Int))) (some (.int .i64 (hi : Int))) none).run Try.prog W = .ok (.slice A (hi - lo) (c - lo)) W) ∧
    (∀ (W : World) (B : Nat) (f : Nat → Int), Rd W B (some ⟨b, off, none⟩) n f → Rd W B A (hi - lo) (fun k => f (lo + k))) := by
  have i1 : (0 : Int) ≤ (lo : Int) := by omega
  have i2 : (lo : Int) ≤ (hi : Int) := by omega
  have i3 : (hi : Int) ≤ (c : Int) := by omega
  have i4 : (0 : Int) ≤ (hi : Int) := by omega
  by_cases h : c = lo
  · have e : hi = lo := by omega
    subst e
    subst h
    refine ⟨some ⟨b, off, none⟩, fun W => ?_, fun W B f hr => .inl (by omega)⟩
    go_simp
  · refine ⟨some ⟨b, off + lo, none⟩, fun W => ?_, fun W B f hr => ?_⟩
    · go_simp
    · rcases hr with h0 | ⟨b', off', e, hb, hc⟩
      · exact .inl (by omega)
      · injection e with e
        injection e with e1 e2
        subst e1
        subst e2
        exact .inr ⟨b, off + lo, rfl, hb, fun k hk => by rw [Nat.add_assoc]; exact hc _ (by omega)⟩
theorem slice_to (A : Option Addr) (n c hi : Nat) (h2 : hi ≤ n) (h3 : n ≤ c) (_h4 : c ≤ 9223372036854775807) : ∃ D : Option Addr,
    (∀ W, (Instr.sliceAt 42 (.slice A n c) none (some (.int .i64 (hi : Int))) none).run Try.prog W = .ok (.slice D hi c) W) ∧ (∀ (W : World) (B : Nat) (f : Nat → Int), Rd W B A n f → Rd W B D hi f) := by
  have i1 : (0 : Int) ≤ (hi : Int) := by omega
  have i2 : (hi : Int) ≤ (c : Int) := by omega
  have i3 : (hi : Int) ≤ (n : Int) := by omega
  have hid : ∀ A : Option Addr, Option.map (fun x => Addr.add x 0) A = A := fun A => by
    rcases A with _ | ⟨b, o, i⟩
    · rfl
    · cases i <;> simp [Addr.add]
  refine ⟨if c = 0 then A else Option.map (fun x => x.add 0) A, fun W => ?_, fun W B f hr => ?_⟩
  · go_simp
  · rw [hid, ite_self]
    exact hr.less h2
theorem slice_any (A : Option Addr) (n c lo : Nat) (h2 : lo ≤ n) (h3 : n ≤ c) (_h4 : c ≤ 9223372036854775807) : ∃ D : Option Addr,
    (∀ W, (Instr.sliceAt 42 (.slice A n c) (some (.int .i64 (lo : Int))) none none).run Try.prog W = .ok (.slice D (n - lo) (c - lo)) W) ∧ (∀ (W : World) (B : Nat) (f : Nat → Int), Rd W B A n f → Rd W B D (n - lo) (fun k => f (lo + k))) := by
  have i1 : (0 : Int) ≤ (lo : Int) := by omega
  have i2 : (lo : Int) ≤ (n : Int) := by omega
  have i3 : (n : Int) ≤ (c : Int) := by omega
  have i4 : (0 : Int) ≤ (n : Int) := by omega
  have i5 : (lo : Int) ≤ (c : Int) := by omega
  refine ⟨if c = lo then A else Option.map (fun x => x.add lo) A, fun W => ?_, fun W B f hr => hr.cut h2 h3⟩
  go_simp
theorem slice_from (b off n c lo : Nat) (h2 : lo ≤ n) (h3 : n ≤ c) (_ : c ≤ 9223372036854775807) : ∃ D : Option Addr,
    (∀ W, (Instr.sliceAt 42 (.slice (some ⟨b, off, none⟩) n c) (some (.int .i64 (lo : Int))) none none).run Try.prog W = .ok (.slice D (n - lo) (c - lo)) W) ∧ (0 < n - lo → D = some ⟨b, off + lo, none⟩) := by
  have i1 : (0 : Int) ≤ (lo : Int) := by omega
  have i2 : (lo : Int) ≤ (n : Int) := by omega
  have i3 : (n : Int) ≤ (c : Int) := by omega
  have i4 : (0 : Int) ≤ (n : Int) := by omega
  have i5 : (lo : Int) ≤ (c : Int) := by omega
  by_cases h : c = lo
  · have e : n = lo := by omega
    subst e
    subst h
    refine ⟨some ⟨b, off, none⟩, fun W => ?_, fun hq => by omega⟩
    go_simp
  · refine ⟨some ⟨b, off + lo, none⟩, fun W => ?_, fun _ => rfl⟩
    go_simp
theorem made_own2 (w : World) (base : Nat) (e : TypeId) (n c : Nat) (hn : n ≤ c) (hc : c ≤ 140737488355328) (hb : base ≤ w.heap.size) (g : Nat) (hg : g = w.heap.size) : Own (w.alloc (.cells (madeCells (Value.int .u8 0).cells c) e)) base e (some ⟨g, 0, none⟩) n c (fun _ => 0) := by
  subst hg
  refine ⟨by simp [nums_len], .inr ⟨w.heap.size, c, _, rfl, hb, heap_alloc_new w _, hn, by unfold maxLen; omega, by simp [size_madeCells], ?_⟩⟩
  refine List.ext_getElem? fun k => ?_
  by_cases hk : k < n
  · have hkc : k < c := by omega
    simp [hk, nums, madeCells, Value.cells, hkc]
    rw [Nat.mod_one]
    rfl
  · rw [List.getElem?_eq_none (by simp [size_madeCells]; omega), List.getElem?_eq_none (by simp [nums_len]; omega)]
theorem slice_at (b off n c lo hi : Nat) (h1 : lo ≤ hi) (h2 : hi ≤ n) (h3 : n ≤ c) (_ : c ≤ 9223372036854775807) (h : lo < c) (W : World) :
    (Instr.sliceAt 42 (.slice (some ⟨b, off, none⟩) n c) (some (.int .i64 (lo : Int))) (some (.int .i64 (hi : Int))) none).run Try.prog W = .ok (.slice (some ⟨b, off + lo, none⟩) (hi - lo) (c - lo)) W := by
  have i1 : (0 : Int) ≤ (lo : Int) := by omega
  have i2 : (lo : Int) ≤ (hi : Int) := by omega
  have i3 : (hi : Int) ≤ (c : Int) := by omega
  have i4 : (0 : Int) ≤ (hi : Int) := by omega
  have h' : ¬ c = lo := by omega
  go_simp
theorem own_new {w : World} {base : Nat} {e : TypeId} {cs : Array Value} (n : Nat) (f : Nat → Int) (hb : base ≤ w.heap.size) (hn : n ≤ 140737488355328) (hl : cs.toList = (nums n f).map (Value.int .u8)) (g : Nat) (hg : g = w.heap.size) : Own (w.alloc (.cells cs e)) base e (some ⟨g, 0, none⟩) n n f := by
  subst hg
  have hs : cs.size = n := by
    have q := congrArg List.length hl
    simpa [nums_len] using q
  exact ⟨by simp [nums_len], .inr ⟨w.heap.size, n, _, rfl, hb, heap_alloc_new w _, Nat.le_refl _, by unfold maxLen; omega, by simp [hs], by rw [hl, List.take_of_length_le (by simp [nums_len])]⟩⟩
def four (x y z u : Int) (k : Nat) : Int := if k = 0 then x else if k = 1 then y else if k = 2 then z else u
theorem rd_new4 (w : World) (B g : Nat) (hg : g = w.heap.size) (hB : g < B) (x y z u : Int) (e : TypeId) : Rd (w.alloc (.cells #[.int .u8 x, .int .u8 y, .int .u8 z, .int .u8 u] e)) B (some ⟨g, 0, none⟩) 4 (four x y z u) := by
  subst hg
  refine blk_rd (heap_alloc_new w _) hB fun k hk => ?_
  match k, hk with
  | 0, _ => rfl
  | 1, _ => rfl
  | 2, _ => rfl
  | 3, _ => rfl
/-- m numbers of h, laid over f from place o on. -/
def over (o m : Nat) (h f : Nat → Int) (k : Nat) : Int := if o ≤ k ∧ k < o + m then h (k - o) else f k
theorem over_byt {o m : Nat} {h f : Nat → Int} (hh : Byt h) (hf : Byt f) : Byt (over o m h f) := fun k => by
  unfold over
  split
  · exact hh _
  · exact hf _
theorem own_cells {base g n c : Nat} {e : TypeId} {h : Nat → Int} : ∀ (m o : Nat) (w : World) (f : Nat → Int) (i : Nat), Own w base e (some ⟨g, 0, none⟩) n c f →
    Own (w.setCells g (o + i) ((nums m fun k => h (i + k)).map (Value.int .u8))) base e (some ⟨g, 0, none⟩) n c (over (o + i) m (fun k => h (i + k)) f)
  | 0, o, w, f, i, H => by
    have e1 : over (o + i) 0 (fun k => h (i + k)) f = f := by
      funext k
      unfold over
      rw [if_neg (by omega)]
    rw [e1]
    exact H
  | m + 1, o, w, f, i, H => by
    have e1 : (nums (m + 1) fun k => h (i + k)) = h i :: nums m fun k => h (i + 1 + k) := by
      unfold nums
      rw [List.range_succ_eq_map, List.map_cons, List.map_map]
      congr 1
      exact List.map_congr_left fun k _ => by
        show h (i + (k + 1)) = h (i + 1 + k)
        congr 1
        omega
    rw [e1]
    have q := own_cells (h := h) m o (w.setCell ⟨g, o + i, none⟩ (.int .u8 (h i))) _ (i + 1) (H.set_ (o + i) (h i))
    refine Own.same q fun k hk => ?_
    unfold over upd
    by_cases a : o + i ≤ k ∧ k < o + i + (m + 1)
    · rw [if_pos a]
      by_cases b : k = o + i
      · subst b
        rw [if_neg (by omega), if_pos rfl]
        exact congrArg h (by omega)
      · rw [if_pos (by omega)]
        exact congrArg h (by omega)
    · rw [if_neg a, if_neg (by omega), if_neg (by omega)]
theorem size_setCells {b : Nat} : ∀ (vs : List Value) (o : Nat) (w : World), (w.setCells b o vs).heap.size = w.heap.size
  | [], _, _ => rfl
  | v :: r, o, w => (size_setCells r (o + 1) _).trans (by simp)
/-- 'copy(b[o:..], s)' into a slice of the call's own. -/
theorem run_copy_own {P : Program} {w : World} (base t ty e : TypeId) (ht : P.underlying t = some (.slice e)) (hs : (P.info? e).map (·.size) = some 1) {g n c : Nat} {f : Nat → Int} (hown : Own w base e (some ⟨g, 0, none⟩) n c f)
    {o dl dc : Nat} {D : Option Addr} (hD : 0 < dl → D = some ⟨g, o, none⟩) (hfit : o + dl ≤ n) {B m c' : Nat} {A : Option Addr} {h : Nat → Int} (hr : Rd w B A m h) :
    ∃ k, k = min m dl ∧ (Builtin.copy_ #[t, t] ty #[.slice D dl dc, .slice A m c']).run P w = .ok (goInt k) (w.setCells g o ((nums k h).map (Value.int .u8))) ∧ Own (w.setCells g o ((nums k h).map (Value.int .u8))) base e (some ⟨g, 0, none⟩) n c (over o k h f) := by
  refine ⟨min m dl, rfl, ?_, ?_⟩
  · by_cases h0 : min m dl = 0
    · rw [h0]
      have := run_copy_none (P := P) w t t ty e D A dl dc m c' ht hs h0
      rw [this]
      rfl
    · have hD' := hD (by omega)
      subst hD'
      rcases hr with hm | ⟨b, off, rfl, hlt, hc⟩
      · omega
      · obtain ⟨g', hg', _, _, hcell, hfro⟩ := hown.lies (by omega)
        injection hg' with hg'
        injection hg' with hg'
        subst hg'
        have := run_copy_cells (P := P) w t t ty e g o dl dc ⟨b, off, none⟩ m c' ((nums (min m dl) h).map (Value.int .u8)) ht hs (by simp [nums_len]) (fun j v hv => by
            have hj : j < min m dl := by
              rcases Nat.lt_or_ge j (min m dl) with q | q
              · exact q
              · rw [List.getElem?_eq_none (by simpa [nums_len] using q)] at hv; cases hv
            have hplain : (⟨b, off, none⟩ : Addr).add j = ⟨b, off + j, none⟩ := by unfold Addr.add; split <;> simp_all
            rw [hplain, hc j (by omega)]
            simpa [nums, List.getElem?_map, List.getElem?_range hj] using hv) (fun j hj => by
            have hj' : j < min m dl := by simpa [nums_len] using hj
            rw [hcell (o + j) (by omega)]
            rfl) (fun j _ => hfro (o + j)) (fun v hv => by
            simp at hv
            obtain ⟨x, _, rfl⟩ := hv
            rfl)
        rw [this]
        simp [nums_len]
  · have q := own_cells (h := h) (min m dl) o w f 0 hown
    have e1 : (fun k => h (0 + k)) = h := by funext k; rw [Nat.zero_add]
    rw [Nat.add_zero, e1] at q
    exact q
theorem step_copy_rd {P : Program} {w : World} {ops : Array Oper} {op : Oper} {a : Act} {K : Act → World → Prop} {Q : Exit → Act → World → Prop} {E : Prop} (hgd : Region.wanted op (yielded ops a.tmps) = true) (d s : Operand) (t : TypeId)
    (hop : op.op = .call { callee := .builtin .copy, args := #[d, s], argTypes := #[t, t] })
    (base : Nat) (e : TypeId) (ht : P.underlying t = some (.slice e)) (hs : (P.info? e).map (·.size) = some 1) {g n c : Nat} {f : Nat → Int} (hown : Own w base e (some ⟨g, 0, none⟩) n c f)
    {D : Option Addr} {dl dc : Nat} (hd : a.eval d = .slice D dl dc) (o : Nat) (hD : 0 < dl → D = some ⟨g, o, none⟩) (hfit : o + dl ≤ n) {B m c' : Nat} {A : Option Addr} {h : Nat → Int} (hx : a.eval s = .slice A m c') (hr : Rd w B A m h)
    (k : Nat) (hk : k = min m dl) (H : Own (w.setCells g o ((nums k h).map (Value.int .u8))) base e (some ⟨g, 0, none⟩) n c (over o k h f) → K (a.put op.dst (goInt k)) (w.setCells g o ((nums k h).map (Value.int .u8)))) :
    if Region.wanted op (yielded ops a.tmps) = true then Oper.wp P op a w K Q else E := by
  rw [if_pos hgd]
  obtain ⟨k', hk', hrun, h2⟩ := run_copy_own (P := P) base t op.type e ht hs hown (dc := dc) hD hfit hr (c' := c')
  obtain rfl : k = k' := hk.trans hk'.symm
  unfold Oper.wp execOp
  simp only [hop, resolve, invoke, builtin, Sem.run_bind, Sem.run_pure, Result.andThen_ok, List.map_toArray, List.map_cons, List.map_nil, hd, hx, hrun]
  exact H h2
/-- A whole struct, loaded behind a guard or not. -/
theorem wpList_load_roww {P : Program} {ops : Array Oper} {rest : List Oper} {op : Oper} {a : Act} {w : World} {Q : Exit → Act → World → Prop} (hw : Region.wanted op (yielded ops a.tmps) = true) (ty : TypeId) (x : Operand) (ho : op.op = .load ty x)
    (g : Nat) (hx : a.eval x = .pointer (some ⟨g, 0, none⟩)) (t : TypeId) (cs : Array Value) (fr : Nat × Nat) (d : TypeDesc) (hg : w.heap[g]? = some (.cells cs t fr)) (hu : P.underlying ty = some d)
    (hd : (match d with | .struct _ | .array _ _ => true | _ => false) = true) (hi : (P.info? ty).map (·.size) = some cs.size) (h : wpList P ops Q rest (a.put op.dst (.agg cs)) w) : wpList P ops Q (op :: rest) a w := by
  refine BigFrame.wpList_want hw fun K hK => ?_
  unfold Oper.wp execOp
  simp only [ho, hx, Instr.loadAt, Instr.sureAddr, Sem.run_bind, Sem.run_pure, Result.andThen_ok, run_loadVar_row w g t ty cs fr d hg hu hd hi]
  exact hK _ _ h
theorem zer_byt : Byt (fun _ => 0) := fun _ => ⟨Int.le_refl 0, (by decide : (0 : Int) ≤ 255)⟩
/-- Bytes of the call's own, whichever. -/
def Kp (W : World) (B : Nat) (A : Option Addr) (n c : Nat) : Prop := ∃ f, Byt f ∧ Own W B 5 A n c f
theorem Kp.below {W W' : World} {B : Nat} {A : Option Addr} {n c : Nat} (h : Kp W B A n c) (hb : Below W.heap.size W W') : Kp W' B A n c := by
  obtain ⟨f, hf, ho⟩ := h
  exact ⟨f, hf, ho.below hb⟩
theorem Kp.set {W : World} {B : Nat} {A : Option Addr} {n c : Nat} (h : Kp W B A n c) (g i : Nat) (v : Int) (hv : 0 ≤ v ∧ v ≤ 255) : Kp (W.setCell ⟨g, i, none⟩ (.int .u8 v)) B A n c := by
  obtain ⟨f, hf, ho⟩ := h
  have ho' := ho
  rcases ho.2 with hh | ⟨g', cap, cur, hv', hg, hh, r⟩
  · exact ⟨f, hf, ho.1, .inl hh⟩
  · by_cases e : g' = g
    · subst e
      injection hv' with h1 h2 h3
      subst h1
      exact ⟨_, upd_byt hf i hv, ho'.set_ i v⟩
    · exact ⟨f, hf, ho.1, .inr ⟨g', cap, cur, hv', hg, (Below.heap_setCell W ⟨g, i, none⟩ _ g' e).trans hh, r⟩⟩
theorem Own.ne {W : World} {B g n c q : Nat} {f : Nat → Int} {cs : Array Value} {t : TypeId} {fr : Nat × Nat} (h : Own W B 5 (some ⟨g, 0, none⟩) n c f) (hq : W.heap[q]? = some (.cells cs t fr)) (hte : t ≠ 5) : q ≠ g := by
  rintro rfl
  rcases h.2 with ⟨hh, _⟩ | ⟨g', cap, cur, hv, _, hh, _⟩
  · cases hh
  · injection hv with h1 _ _
    injection h1 with h1
    injection h1 with h1
    subst h1
    rw [hq] at hh
    injection hh with hh
    injection hh with _ hh
    exact hte hh
end Go.Proofs.Ythjghofjdcepmaa
/- The blocks that a walk made, in the order of their making: one fact for all of them, over any program. -/
namespace Go.Proofs.Ythjghofjdcepmaa
open Go.RowKit
structure Mem (w W : World) (L : List (Nat × Obj)) : Prop where
  all : ∀ p ∈ L, W.heap[p.1]? = some p.2
  lo : ∀ p ∈ L, w.heap.size ≤ p.1
  inc : L.Pairwise fun a b => a.1 < b.1
  below : Below w.heap.size w W
theorem Mem.nil (w : World) : Mem w w [] := ⟨fun _ h => (nomatch h), fun _ h => (nomatch h), .nil, Below.refl _ _⟩
theorem Mem.get {w W : World} {L : List (Nat × Obj)} (h : Mem w W L) (k : Nat) {g : Nat} {o : Obj} (hk : L[k]? = some (g, o)) : W.heap[g]? = some o := h.all (g, o) (List.mem_of_getElem? hk)
theorem Mem.low {w W : World} {L : List (Nat × Obj)} (h : Mem w W L) (k : Nat) {g : Nat} {o : Obj} (hk : L[k]? = some (g, o)) : w.heap.size ≤ g := h.lo (g, o) (List.mem_of_getElem? hk)
theorem Mem.step {w W W' : World} {L : List (Nat × Obj)} (h : Mem w W L) (hb : Below W.heap.size W W') : Mem w W' L :=
  ⟨fun p hp => (hb.block _ (lt_heap (h.all p hp))).trans (h.all p hp), h.lo, h.inc, h.below.trans (hb.mono h.below.size)⟩
theorem Mem.drew {w W : World} {L : List (Nat × Obj)} (h : Mem w W L) : Mem w W.drew L := ⟨h.all, h.lo, h.inc, h.below.drew⟩
theorem Mem.drewN {w W : World} {L : List (Nat × Obj)} (h : Mem w W L) (k : Nat) : Mem w (W.drewN k) L := ⟨h.all, h.lo, h.inc, below_drewN h.below k⟩
theorem Mem.alloc {w W : World} {L : List (Nat × Obj)} (h : Mem w W L) (o : Obj) : Mem w (W.alloc o) (L ++ [(W.heap.size, o)]) := by
  refine ⟨fun p hp => ?_, fun p hp => ?_, ?_, h.below.alloc h.below.size o⟩
  · rcases List.mem_append.1 hp with q | q
    · exact blk_old (h.all p q) o
    · obtain rfl := List.mem_singleton.1 q
      exact heap_alloc_new W o
  · rcases List.mem_append.1 hp with q | q
    · exact h.lo p q
    · obtain rfl := List.mem_singleton.1 q
      exact h.below.size
  · refine List.pairwise_append.2 ⟨h.inc, List.pairwise_singleton .., fun a ha b hb => ?_⟩
    obtain rfl := List.mem_singleton.1 hb
    exact lt_heap (h.all a ha)
/-- A block that is made and named. -/
theorem Mem.new {w W : World} {L : List (Nat × Obj)} (h : Mem w W L) (o : Obj) (q : Nat) (hq : q = W.heap.size) : Mem w (W.alloc o) (L ++ [(q, o)]) := by
  subst hq
  exact h.alloc o
theorem Mem.turn {w W W' : World} {L : List (Nat × Obj)} (h : Mem w W L) (k : Nat) {g : Nat} {o : Obj} (hk : L[k]? = some (g, o)) (o' : Obj) (hg : W'.heap[g]? = some o') (hw : ∀ j, j ≠ g → W'.heap[j]? = W.heap[j]?) (hb : Below w.heap.size w W') : Mem w W' (L.set k (g, o')) := by
  obtain ⟨hlt, he⟩ := List.getElem?_eq_some_iff.1 hk
  have hp := List.pairwise_iff_getElem.1 h.inc
  have key : ∀ i (hi : i < (L.set k (g, o')).length), W'.heap[(L.set k (g, o'))[i].1]? = some (L.set k (g, o'))[i].2 ∧ w.heap.size ≤ (L.set k (g, o'))[i].1 := fun i hi => by
    have hi' : i < L.length := by simpa using hi
    rw [List.getElem_set]
    by_cases e : k = i
    · subst e
      rw [if_pos rfl]
      exact ⟨hg, h.low k hk⟩
    · rw [if_neg e]
      refine ⟨?_, h.lo _ (List.getElem_mem hi')⟩
      rw [hw _ ?_]
      · exact h.all _ (List.getElem_mem hi')
      · have e2 : L[k].1 = g := by rw [he]
        rcases Nat.lt_or_gt_of_ne e with q | q
        · have := hp k i hlt hi' q
          omega
        · have := hp i k hi' hlt q
          omega
  refine ⟨fun p hp => ?_, fun p hp => ?_, ?_, hb⟩
  · obtain ⟨i, hi, rfl⟩ := List.getElem_of_mem hp
    exact (key i hi).1
  · obtain ⟨i, hi, rfl⟩ := List.getElem_of_mem hp
    exact (key i hi).2
  · refine List.pairwise_iff_getElem.2 fun i j hi hj hij => ?_
    have hi' : i < L.length := by simpa using hi
    have hj' : j < L.length := by simpa using hj
    have e1 : ∀ i (hi : i < (L.set k (g, o')).length) (hi' : i < L.length), (L.set k (g, o'))[i].1 = L[i].1 := fun i hi hi' => by
      rw [List.getElem_set]
      split
      · rename_i e
        subst e
        rw [he]
      · rfl
    rw [e1 i hi hi', e1 j hj hj']
    exact hp i j hi' hj' hij
theorem Mem.row {w W : World} {L : List (Nat × Obj)} (h : Mem w W L) (k : Nat) {g : Nat} {cs : Array Value} {t : TypeId} (hk : L[k]? = some (g, .cells cs t (0, 0))) (new : Array Value) : Mem w (W.setRow g new) (L.set k (g, .cells new t (0, 0))) :=
  h.turn k hk _ (setRow_heap W g _ new _ _ (h.get k hk)) (fun j hj => setRow_other W g j new hj) (below_setRow h.below (h.low k hk) new)
theorem Mem.set {w W : World} {L : List (Nat × Obj)} (h : Mem w W L) (k : Nat) {g : Nat} {cs : Array Value} {t : TypeId} (hk : L[k]? = some (g, .cells cs t (0, 0))) (i : Nat) (v : Value) : Mem w (W.setCell ⟨g, i, none⟩ v) (L.set k (g, .cells (cs.setIfInBounds i v) t (0, 0))) :=
  h.turn k hk _ (blk_set (h.get k hk) i v) (fun j hj => Below.heap_setCell W ⟨g, i, none⟩ v j hj) (h.below.setCell (h.low k hk) v)
theorem Mem.cells {w W : World} {L : List (Nat × Obj)} (h : Mem w W L) (k : Nat) {g : Nat} {cs : Array Value} {t : TypeId} (hk : L[k]? = some (g, .cells cs t (0, 0))) (o : Nat) (vs : List Value) : Mem w (W.setCells g o vs) (L.set k (g, .cells (laid cs o vs) t (0, 0))) :=
  h.turn k hk _ (blk_setCells vs o W cs (h.get k hk)) (fun _j hj => other_setCells hj vs o W) (below_setCells (h.low k hk) vs o W h.below)
/-- Bytes that came in, behind it. -/
theorem Mem.rd {w W : World} {L : List (Nat × Obj)} (h : Mem w W L) {A : Option Addr} {n : Nat} {f : Nat → Int} (hr : Rd w w.heap.size A n f) : Rd W W.heap.size A n f := (hr.keep h.below).more h.below.size
theorem Mem.cell {w W : World} {L : List (Nat × Obj)} (h : Mem w W L) {b o : Nat} (hb : b < w.heap.size) {v : Value} (hc : w.cell? ⟨b, o, none⟩ = some v) : W.cell? ⟨b, o, none⟩ = some v := (h.below.cell (p := ⟨b, o, none⟩) hb).trans hc
/-- .. of the call's own: kept where one of the blocks, of another type, alone is turned. -/
theorem Own.besides {w W W' : World} {L : List (Nat × Obj)} {base : Nat} {e : TypeId} {A : Option Addr} {n c : Nat} {f : Nat → Int} (ho : Own W base e A n c f) (h : Mem w W L) (k : Nat) {g : Nat} {cs : Array Value} {t : TypeId} (hk : L[k]? = some (g, .cells cs t (0, 0))) (hte : t ≠ e) (hw : ∀ j, j ≠ g → W'.heap[j]? = W.heap[j]?) : Own W' base e A n c f :=
  ho.other (h.get k hk) hte hw
theorem Mem.old {w W : World} {L : List (Nat × Obj)} (h : Mem w W L) {g : Nat} {o : Obj} (hg : w.heap[g]? = some o) : W.heap[g]? = some o := (h.below.block _ (lt_heap hg)).trans hg
theorem Mem.rdo {w W : World} {L : List (Nat × Obj)} (h : Mem w W L) {A : Option Addr} {n : Nat} {f : Nat → Int} (hr : Rd w w.heap.size A n f) : Rd W W.heap.size A n f := h.rd hr
end Go.Proofs.Ythjghofjdcepmaa
/- Bytes of the call's own beside the blocks that a walk made; an append onto a slice that is full turns nothing old. -/
namespace Go.Proofs.Ythjghofjdcepmaa
set_option maxRecDepth 100000
open Go.RowKit
theorem run_append_full {P : Program} {w : World} (base : Nat) (t ty e : TypeId) (i : TypeInfo) (ht : P.underlying t = some (.slice e)) (hi : P.info? e = some i) (hz : i.zero = some (.int .u8 0)) (hsize : i.size = 1) (hby : i.bytes = 1)
    {g0 k : Nat} {h0 : Nat → Int} (hown : Own w base e (some ⟨g0, 0, none⟩) k k h0) (hk : 0 < k) {B m c' : Nat} {A' : Option Addr} {g : Nat → Int} (hr : Rd w B A' m g) (hlen : k + m ≤ 70368744177664) (hbase : base ≤ w.heap.size) :
    ∃ A2 c2 w', (Builtin.append_ #[t, t] ty #[.slice (some ⟨g0, 0, none⟩) k k, .slice A' m c']).run P w = .ok (.slice A2 (k + m) c2) w' ∧ Own w' base e A2 (k + m) c2 (cat k h0 g) ∧ Below w.heap.size w w' := by
  have hl0 : ∀ (x : Addr), (loadCells x 0).run P w = .ok #[] w := fun x => by simpa using run_loadCells_list (P := P) w x [] (by simp)
  rcases Nat.eq_zero_or_pos m with rfl | hm
  · refine ⟨some ⟨g0, 0, none⟩, k, w, ?_, ?_, Below.refl _ _⟩
    · cases A' <;> simp [Builtin.append_, run_underlying ht, sizeOf, typeInfo, hi, Builtin.lenOf, Builtin.firstCells, storeCells, hl0]
    · exact hown.same fun j hj => by unfold cat; rw [if_pos (by omega)]
  · rcases hr with h | ⟨b, off, rfl, hlt, hc⟩
    · omega
    · obtain ⟨g1, hg1, _, _, hcell, _⟩ := hown.lies hk
      injection hg1 with hg1
      injection hg1 with hg1
      subst hg1
      have hl : ((nums m g).map (Value.int .u8)).length = m * i.size := by rw [hsize]; simp [nums_len]
      have hlo : ((nums k h0).map (Value.int .u8)).length = k * i.size := by rw [hsize]; simp [nums_len]
      have add : ∀ b off j : Nat, (⟨b, off, none⟩ : Addr).add j = ⟨b, off + j, none⟩ := fun b off j => by unfold Addr.add; split <;> simp_all
      have hnews : ∀ j v, ((nums m g).map (Value.int .u8))[j]? = some v → w.cell? ((⟨b, off, none⟩ : Addr).add j) = some v := fun j v hv => by
        have hj : j < m := by
          rcases Nat.lt_or_ge j m with q | q
          · exact q
          · rw [List.getElem?_eq_none (by simpa [nums_len] using q)] at hv; cases hv
        rw [add, hc j hj]
        simpa [nums, List.getElem?_map, List.getElem?_range hj] using hv
      have holds : ∀ j v, ((nums k h0).map (Value.int .u8))[j]? = some v → w.cell? ((⟨g0, 0, none⟩ : Addr).add j) = some v := fun j v hv => by
        have hj : j < k := by
          rcases Nat.lt_or_ge j k with q | q
          · exact q
          · rw [List.getElem?_eq_none (by simpa [nums_len] using q)] at hv; cases hv
        rw [add, Nat.zero_add, hcell j hj]
        simpa [nums, List.getElem?_map, List.getElem?_range hj] using hv
      have hrun := run_append_grow (P := P) w t ty e i (.int .u8 0) ht hi hz ⟨g0, 0, none⟩ k k ((nums k h0).map (Value.int .u8)) hlo holds ⟨b, off, none⟩ m c' ((nums m g).map (Value.int .u8)) hl hnews (by omega) (by omega) (by
        have := nextslicecap_le (need := k + m) (old := k) (by omega)
        rw [hby]
        omega)
      refine ⟨_, _, _, hrun, ?_, ?_⟩
      · have hge := grownCap_ge w (k + m) k e
        have hcm : grownCap w (k + m) k e ≤ maxLen := grownCap_le_maxLen w (k + m) k e (by unfold maxLen; omega)
        refine ⟨by simp [nums_len], .inr ⟨w.heap.size, _, _, rfl, hbase, heap_alloc_new w.drew _, hge, hcm, ?_, ?_⟩⟩
        · simp [size_zeroCells, nums_len, Value.cells]
          omega
        · have e1 : ((nums k h0).map (Value.int .u8) ++ (nums m g).map (Value.int .u8)) = (nums (k + m) (cat k h0 g)).map (Value.int .u8) := by rw [nums_cat, List.map_append]
          have e2 : ((nums (k + m) (cat k h0 g)).map (Value.int .u8)).length = k + m := by simp [nums_len]
          rw [Array.toList_append, Array.toList_append, List.toList_toArray, List.toList_toArray, e1]
          rw [List.take_append_of_le_length (by rw [e2]; omega), List.take_of_length_le (by rw [e2]; omega)]
      · exact (below_alloc w.drew _ : Below w.drew.heap.size w.drew _) |> fun q => ⟨q.os, q.tape, q.output, q.size, q.block⟩
/-- The blocks L below B, and bytes of the call's own from B on. -/
structure MO (w W : World) (L : List (Nat × Obj)) (B : Nat) (A : Option Addr) (n c : Nat) (f : Nat → Int) : Prop where
  mem : Mem w W L
  own : Own W B 5 A n c f
  up : ∀ p ∈ L, p.1 < B
  le : B ≤ W.heap.size
  wle : w.heap.size ≤ B
theorem Mem.besides {w W W' : World} {L : List (Nat × Obj)} {B : Nat} (h : Mem w W L) (up : ∀ p ∈ L, p.1 < B) (hw : w.heap.size ≤ B) (hb : Below B W W') : Mem w W' L :=
  ⟨fun p hp => (hb.block _ (up p hp)).trans (h.all p hp), h.lo, h.inc, h.below.trans (hb.mono hw)⟩
theorem Mem.top {w W : World} {L : List (Nat × Obj)} (h : Mem w W L) : ∀ p ∈ L, p.1 < W.heap.size := fun p hp => lt_heap (h.all p hp)
theorem MO.start {w W W' : World} {L : List (Nat × Obj)} {A : Option Addr} {n c : Nat} {f : Nat → Int} (h : Mem w W L) (hb : Below W.heap.size W W') (ho : Own W' W.heap.size 5 A n c f) : MO w W' L W.heap.size A n c f :=
  ⟨h.step hb, ho, h.top, hb.size, h.below.size⟩
theorem MO.step {w W W' : World} {L : List (Nat × Obj)} {B : Nat} {A : Option Addr} {n c : Nat} {f : Nat → Int} (h : MO w W L B A n c f) (hb : Below W.heap.size W W') : MO w W' L B A n c f :=
  ⟨h.mem.step hb, h.own.below hb, h.up, Nat.le_trans h.le hb.size, h.wle⟩
theorem MO.alloc {w W : World} {L : List (Nat × Obj)} {B : Nat} {A : Option Addr} {n c : Nat} {f : Nat → Int} (h : MO w W L B A n c f) (o : Obj) : MO w (W.alloc o) L B A n c f := h.step (below_alloc _ _)
theorem MO.app {w W W' : World} {L : List (Nat × Obj)} {B : Nat} {A A' : Option Addr} {n c n' c' : Nat} {f f' : Nat → Int} (h : MO w W L B A n c f) (ho : Own W' B 5 A' n' c' f') (hg : W.grownBy W' (Value.ownBlock (.slice A n c))) : MO w W' L B A' n' c' f' := by
  have hb : Below B W W' := (Below.refl _ _).grown hg h.le (fun k hk => h.own.at_ k hk)
  exact ⟨h.mem.besides h.up h.wle hb, ho, h.up, Nat.le_trans h.le hb.size, h.wle⟩
theorem MO.same {w W : World} {L : List (Nat × Obj)} {B : Nat} {A : Option Addr} {n c : Nat} {f g : Nat → Int} (h : MO w W L B A n c f) (hg : ∀ k, k < n → g k = f k) : MO w W L B A n c g := ⟨h.mem, h.own.same hg, h.up, h.le, h.wle⟩
theorem MO.set {w W : World} {L : List (Nat × Obj)} {B g n c : Nat} {f : Nat → Int} (h : MO w W L B (some ⟨g, 0, none⟩) n c f) (hn : 0 < n) (p : Nat) (v : Int) : MO w (W.setCell ⟨g, p, none⟩ (.int .u8 v)) L B (some ⟨g, 0, none⟩) n c (upd f p v) := by
  obtain ⟨g1, hg1, hB, _, _, _⟩ := h.own.lies hn
  injection hg1 with hg1
  injection hg1 with hg1
  subst hg1
  have hb : Below B W (W.setCell ⟨g, p, none⟩ (.int .u8 v)) := (Below.refl _ _).setCell hB _
  exact ⟨h.mem.besides h.up h.wle hb, h.own.set_ p v, h.up, Nat.le_trans h.le hb.size, h.wle⟩
theorem MO.below {w W : World} {L : List (Nat × Obj)} {B : Nat} {A : Option Addr} {n c : Nat} {f : Nat → Int} (h : MO w W L B A n c f) : Below w.heap.size w W := h.mem.below
/-- Where it lies. -/
theorem MO.at_ {w W : World} {L : List (Nat × Obj)} {B : Nat} {A : Option Addr} {n c : Nat} {f : Nat → Int} (h : MO w W L B A n c f) (hn : 0 < n) : ∃ g, A = some ⟨g, 0, none⟩ := by
  obtain ⟨g, hg, _⟩ := h.own.lies hn
  exact ⟨g, hg⟩
theorem MO.cells {w W : World} {L : List (Nat × Obj)} {B g n c : Nat} {f : Nat → Int} (h : MO w W L B (some ⟨g, 0, none⟩) n c f) (k : Nat) (hk : k < n) : W.cell? ⟨g, k, none⟩ = some (.int .u8 (f k)) ∧ W.frozen? ⟨g, k, none⟩ = false := by
  obtain ⟨g1, hg1, _, _, hc, hf⟩ := h.own.lies (by omega)
  injection hg1 with hg1
  injection hg1 with hg1
  subst hg1
  exact ⟨hc k hk, hf k⟩
end Go.Proofs.Ythjghofjdcepmaa
