import Derived.Test.YthjgecdnlpdcdaaM7
import Derived.Laws.StructEq
import Derived.Test.YthjgecdnlpdcdaaM0
import Derived.Laws.BitsAllLaws
/- Two arrays of bytes compared, over any program. -/
namespace Go.Proofs.Ythjgecdnlpdcdaa
open Go.RowKit
/-- Are m numbers the same, from place i on? -/
def eqs (x y : Nat → Int) (i : Nat) : Nat → Bool
  | 0 => true
  | m + 1 => x i == y i && eqs x y (i + 1) m
theorem eqs_iff (x y : Nat → Int) : ∀ m i, eqs x y i m = true ↔ ∀ k, i ≤ k → k < i + m → x k = y k
  | 0, i => by simp [eqs]; omega
  | m + 1, i => by
    simp only [eqs, Bool.and_eq_true, beq_iff_eq, eqs_iff x y m (i + 1)]
    constructor
    · rintro ⟨h, hr⟩ k h1 h2
      by_cases e : k = i
      · subst e; exact h
      · exact hr k (by omega) (by omega)
    · exact fun h => ⟨h i (Nat.le_refl _) (by omega), fun k h1 h2 => h k (by omega) (by omega)⟩
theorem equal_bytes {P : Program} (d : Nat) (t e : TypeId) (n : Nat) (xs ys : Array Value) (x y : Nat → Int) (ht : P.underlying t = some (.array n e)) (he : P.underlying e = some (.int .u8)) (hs : (P.info? e).map (·.size) = some 1)
    (hx : ∀ k, k < n → xs[k]? = some (.int .u8 (x k))) (hy : ∀ k, k < n → ys[k]? = some (.int .u8 (y k))) (w : World) :
    (Op.equalIn (d + 2) t (.agg xs) (.agg ys)).run P w = .ok (eqs x y 0 n) w := by
  have e5 : ∀ (a b : Int) (w : World), (Op.equalIn (d + 1) e (.int .u8 a) (.int .u8 b)).run P w = .ok (a == b) w := fun a b w => run_equalIn_int w d e .u8 .u8 a b he
  have hsz : ∀ w, (sizeOf e).run P w = .ok 1 w := fun w => by
    cases hq : P.info? e with
    | none => simp [hq] at hs
    | some i =>
      have h1 : i.size = 1 := by simpa [hq] using hs
      simp [sizeOf, typeInfo, hq, h1]
  have hagg : ∀ w, (isAgg e).run P w = .ok false w := fun w => by
    unfold isAgg
    rw [Sem.run_bind, run_underlying he w]
    rfl
  have hp : ∀ (zs : Array Value) (z : Nat → Int) (k : Nat) (w : World), zs[k]? = some (.int .u8 (z k)) → (part e zs (k * 1)).run P w = .ok (.int .u8 (z k)) w := fun zs z k w hk => by
    rw [Nat.mul_one]
    unfold part
    simp [Sem.run_bind, hagg, hk]
  rw [Op.equalIn]
  simp only [Sem.run_bind, run_underlying ht, Result.andThen_ok, hsz]
  rw [Std.Legacy.Range.forIn_eq_forIn_range']
  have hr : List.range' (Std.Legacy.Range.mk 0 n 1 (by decide)).start (Std.Legacy.Range.mk 0 n 1 (by decide)).size (Std.Legacy.Range.mk 0 n 1 (by decide)).step = List.range' 0 n := by simp [Std.Legacy.Range.size]
  rw [hr]
  have key : ∀ m i (w : World), i + m ≤ n → ((forIn (List.range' i m) ((none : Option Bool), ()) fun k (_ : Option Bool × Unit) => do
      let a ← part e xs (k * 1)
      let b ← part e ys (k * 1)
      let r ← Op.equalIn (d + 1) e a b
      if (!r) = true then pure (ForInStep.done (some false, ())) else pure (ForInStep.yield (none, ()))) : Sem _).run P w = .ok (if eqs x y i m = true then (none, ()) else (some false, ())) w := by
    intro m
    induction m with
    | zero =>
      intro i w _
      simp [eqs]
    | succ m ih =>
      intro i w hi
      rw [List.range'_succ]
      simp only [List.forIn_cons, Sem.run_bind, hp xs x i _ (hx i (by omega)), hp ys y i _ (hy i (by omega)), e5, Result.andThen_ok]
      by_cases hq : x i = y i
      · have hb : (x i == y i) = true := by simpa using hq
        simp only [hb, Bool.not_true, Bool.false_eq_true, if_false, Sem.run_pure, Result.andThen_ok]
        rw [ih (i + 1) w (by omega)]
        simp [eqs, hq]
      · have hb : (x i == y i) = false := by simpa using hq
        simp only [hb, Bool.not_false, if_true, Sem.run_pure, Result.andThen_ok]
        simp [eqs, hq]
  rw [key n 0 w (by omega)]
  simp only [Result.andThen_ok]
  cases eqs x y 0 n <;> rfl
theorem eqs_self (x : Nat → Int) (n : Nat) : eqs x x 0 n = true := (eqs_iff x x n 0).2 fun _ _ _ => rfl
end Go.Proofs.Ythjgecdnlpdcdaa
/- Bits: numbers that are joined by '|', and cut by '&', over every kind that the program uses. -/
namespace Go.Proofs.Ythjgecdnlpdcdaa
open Go.RowKit
theorem toNat_ofInt (n X : Nat) (h : X < 2 ^ n) : (BitVec.ofInt n (X : Int)).toNat = X := by
  rw [BitVec.ofInt_natCast, BitVec.toNat_ofNat]
  exact Nat.mod_eq_of_lt h
theorem or_nat (k : IntKind) (X Y : Nat) (hX : X < 2 ^ k.bits) (hY : Y < 2 ^ k.bits) : bits .or k (X : Int) (Y : Int) = k.wrap ((X ||| Y : Nat) : Int) := by
  show k.wrap ((BitVec.ofInt k.bits (X : Int) ||| BitVec.ofInt k.bits (Y : Int)).toNat : Int) = _
  rw [BitVec.toNat_or, toNat_ofInt _ _ hX, toNat_ofInt _ _ hY]
theorem and_nat (k : IntKind) (X Y : Nat) (hX : X < 2 ^ k.bits) (hY : Y < 2 ^ k.bits) : bits .and k (X : Int) (Y : Int) = k.wrap ((X &&& Y : Nat) : Int) := by
  show k.wrap ((BitVec.ofInt k.bits (X : Int) &&& BitVec.ofInt k.bits (Y : Int)).toNat : Int) = _
  rw [BitVec.toNat_and, toNat_ofInt _ _ hX, toNat_ofInt _ _ hY]
/-- 'x * p | y', y below p, a power of two: the sum. -/
theorem or_join (k : IntKind) (M : Nat) (hM : M ≤ 2 ^ k.bits) (hw : ∀ n : Nat, n < M → k.wrap (n : Int) = n) (x y : Int) (p i : Nat) (hp : p = 2 ^ i) (hx : 0 ≤ x) (hy : 0 ≤ y) (hy' : y < (p : Int)) (hb : x * (p : Int) + y < (M : Int)) :
    bits .or k (x * (p : Int)) y = x * (p : Int) + y := by
  obtain ⟨X, rfl⟩ := Int.eq_ofNat_of_zero_le hx
  obtain ⟨Y, rfl⟩ := Int.eq_ofNat_of_zero_le hy
  have h := Nat.shiftLeft_add_eq_or_of_lt (i := i) (b := Y) (by rw [← hp]; omega) X
  rw [Nat.shiftLeft_eq, ← hp] at h
  have hb' : X * p + Y < M := by
    have : ((X * p + Y : Nat) : Int) < (M : Int) := by simpa using hb
    omega
  have e := or_nat k (X * p) Y (by omega) (by omega)
  rw [← h, hw _ hb'] at e
  simpa using e
/-- 'x & (p - 1)', p a power of two: the rest. -/
theorem and_rest (k : IntKind) (M : Nat) (hM : M ≤ 2 ^ k.bits) (hw : ∀ n : Nat, n < M → k.wrap (n : Int) = n) (x : Int) (m p i : Nat) (hp : p = 2 ^ i) (hm : m + 1 = p) (hx : 0 ≤ x) (hx' : x < (M : Int)) (hpM : p ≤ M) :
    bits .and k x (m : Int) = x % (p : Int) := by
  obtain ⟨X, rfl⟩ := Int.eq_ofNat_of_zero_le hx
  have e := and_nat k X m (by omega) (by omega)
  have h : X &&& m = X % p := by
    have hm' : m = 2 ^ i - 1 := by omega
    rw [hm', hp]
    exact Nat.and_two_pow_sub_one_eq_mod X i
  have hlt : X % p < M := Nat.lt_of_lt_of_le (Nat.mod_lt _ (by omega)) hpM
  rw [h, hw _ hlt] at e
  rw [e]
  simp
theorem wr_u8 (n : Nat) (h : n < 256) : IntKind.u8.wrap (n : Int) = n := by rw [IntKind.wrap_u8']; omega
theorem wr_u16 (n : Nat) (h : n < 65536) : IntKind.u16.wrap (n : Int) = n := by rw [IntKind.wrap_u16]; omega
theorem wr_u32 (n : Nat) (h : n < 4294967296) : IntKind.u32.wrap (n : Int) = n := by rw [IntKind.wrap_u32']; omega
theorem wr_i64 (n : Nat) (h : n < 9223372036854775808) : IntKind.i64.wrap (n : Int) = n := by rw [IntKind.wrap_i64]; omega
theorem or_u8 (x y : Int) (p i : Nat) (hp : p = 2 ^ i) (hx : 0 ≤ x) (hy : 0 ≤ y) (hy' : y < (p : Int)) (hb : x * (p : Int) + y < 256) : bits .or .u8 (x * (p : Int)) y = x * (p : Int) + y := or_join .u8 256 (by decide) wr_u8 x y p i hp hx hy hy' hb
theorem or_u16 (x y : Int) (p i : Nat) (hp : p = 2 ^ i) (hx : 0 ≤ x) (hy : 0 ≤ y) (hy' : y < (p : Int)) (hb : x * (p : Int) + y < 65536) : bits .or .u16 (x * (p : Int)) y = x * (p : Int) + y := or_join .u16 65536 (by decide) wr_u16 x y p i hp hx hy hy' hb
theorem or_u32 (x y : Int) (p i : Nat) (hp : p = 2 ^ i) (hx : 0 ≤ x) (hy : 0 ≤ y) (hy' : y < (p : Int)) (hb : x * (p : Int) + y < 4294967296) : bits .or .u32 (x * (p : Int)) y = x * (p : Int) + y := or_join .u32 4294967296 (by decide) wr_u32 x y p i hp hx hy hy' hb
theorem or_i64 (x y : Int) (p i : Nat) (hp : p = 2 ^ i) (hx : 0 ≤ x) (hy : 0 ≤ y) (hy' : y < (p : Int)) (hb : x * (p : Int) + y < 9223372036854775808) : bits .or .i64 (x * (p : Int)) y = x * (p : Int) + y := or_join .i64 9223372036854775808 (by decide) wr_i64 x y p i hp hx hy hy' hb
theorem and_u8 (x : Int) (m p i : Nat) (hp : p = 2 ^ i) (hm : m + 1 = p) (hx : 0 ≤ x) (hx' : x < 256) (hpM : p ≤ 256) : bits .and .u8 x (m : Int) = x % (p : Int) := and_rest .u8 256 (by decide) wr_u8 x m p i hp hm hx hx' hpM
end Go.Proofs.Ythjgecdnlpdcdaa
