/- Bits: numbers that are joined by '|', and cut by '&', over every kind that the program uses. -/
import Derived.Test.YtdeghjhlbhpopaaBytes
import Derived.Laws.BitsAllLaws
namespace Go.Proofs.Ytdeghjhlbhpopaa
open Go.RowKit
theorem toNat_ofInt (n X : Nat) (h : X < 2 ^ n) : (BitVec.ofInt n (X : Int)).toNat = X := by
  rw [BitVec.ofInt_natCast, BitVec.toNat_ofNat]
  exact Nat.mod_eq_of_lt h
theorem or_nat (k : IntKind) (X Y : Nat) (hX : X < 2 ^ k.bits) (hY : Y < 2 ^ k.bits) : bits .or k (X : Int) (Y : Int) = k.wrap ((X ||| Y : Nat) : Int) := by
  show k.wrap ((BitVec.ofInt k.bits (X : Int) ||| BitVec.ofInt k.bits (Y : Int)).toNat : Int) = _
  rw [BitVec.toNat_or, toNat_ofInt _ _ hX, toNat_ofInt _ _ hY]
theorem and_nat (k : IntKind) (X Y : Nat) (hX : X < 2 ^ k.bits) (hY : Y < 2 ^ k.bits) : bits .and k (X : Int) (Y : Int) = k.wrap ((X &&& Y : Nat) : Int) := by
  show k.wrap ((BitVec.ofInt k.bits (X : Int) &&& BitVec.ofInt k.bits (Y : Int)).toNat : Int) = _
  rw [BitVec.toNat_and, toNat_ofInt _ _ hX, toNat_ofInt _ _ hY]
/-- 'x * p | y', y below p, a power of two: the sum. -/
theorem or_join (k : IntKind) (M : Nat) (hM : M ≤ 2 ^ k.bits) (hw : ∀ n : Nat, n < M → k.wrap (n : Int) = n) (x y : Int) (p i : Nat) (hp : p = 2 ^ i) (hx : 0 ≤ x) (hy : 0 ≤ y) (hy' : y < (p : Int)) (hb : x * (p : Int) + y < (M : Int)) :
    bits .or k (x * (p : Int)) y = x * (p : Int) + y := by
  obtain ⟨X, rfl⟩ := Int.eq_ofNat_of_zero_le hx
  obtain ⟨Y, rfl⟩ := Int.eq_ofNat_of_zero_le hy
  have h := Nat.shiftLeft_add_eq_or_of_lt (i := i) (b := Y) (by rw [← hp]; omega) X
  rw [Nat.shiftLeft_eq, ← hp] at h
  have hb' : X * p + Y < M := by
    have : ((X * p + Y : Nat) : Int) < (M : Int) := by simpa using hb
    omega
  have e := or_nat k (X * p) Y (by omega) (by omega)
  rw [← h, hw _ hb'] at e
  simpa using e
/-- 'x & (p - 1)', p a power of two: the rest. -/
theorem and_rest (k : IntKind) (M : Nat) (hM : M ≤ 2 ^ k.bits) (hw : ∀ n : Nat, n < M → k.wrap (n : Int) = n) (x : Int) (m p i : Nat) (hp : p = 2 ^ i) (hm : m + 1 = p) (hx : 0 ≤ x) (hx' : x < (M : Int)) (hpM : p ≤ M) :
    bits .and k x (m : Int) = x % (p : Int) := by
  obtain ⟨X, rfl⟩ := Int.eq_ofNat_of_zero_le hx
  have e := and_nat k X m (by omega) (by omega)
  have h : X &&& m = X % p := by
    have hm' : m = 2 ^ i - 1 := by omega
    rw [hm', hp]
    exact Nat.and_two_pow_sub_one_eq_mod X i
  have hlt : X % p < M := Nat.lt_of_lt_of_le (Nat.mod_lt _ (by omega)) hpM
  rw [h, hw _ hlt] at e
  rw [e]
  simp
theorem wr_u8 (n : Nat) (h : n < 256) : IntKind.u8.wrap (n : Int) = n := by rw [IntKind.wrap_u8']; omega
theorem wr_u16 (n : Nat) (h : n < 65536) : IntKind.u16.wrap (n : Int) = n := by rw [IntKind.wrap_u16]; omega
theorem wr_u32 (n : Nat) (h : n < 4294967296) : IntKind.u32.wrap (n : Int) = n := by rw [IntKind.wrap_u32']; omega
theorem wr_u64 (n : Nat) (h : n < 18446744073709551616) : IntKind.u64.wrap (n : Int) = n := by simp only [IntKind.wrap_u64]; omega
theorem wr_i64 (n : Nat) (h : n < 9223372036854775808) : IntKind.i64.wrap (n : Int) = n := by rw [IntKind.wrap_i64]; omega
theorem or_u8 (x y : Int) (p i : Nat) (hp : p = 2 ^ i) (hx : 0 ≤ x) (hy : 0 ≤ y) (hy' : y < (p : Int)) (hb : x * (p : Int) + y < 256) : bits .or .u8 (x * (p : Int)) y = x * (p : Int) + y := or_join .u8 256 (by decide) wr_u8 x y p i hp hx hy hy' hb
theorem or_u16 (x y : Int) (p i : Nat) (hp : p = 2 ^ i) (hx : 0 ≤ x) (hy : 0 ≤ y) (hy' : y < (p : Int)) (hb : x * (p : Int) + y < 65536) : bits .or .u16 (x * (p : Int)) y = x * (p : Int) + y := or_join .u16 65536 (by decide) wr_u16 x y p i hp hx hy hy' hb
theorem or_u32 (x y : Int) (p i : Nat) (hp : p = 2 ^ i) (hx : 0 ≤ x) (hy : 0 ≤ y) (hy' : y < (p : Int)) (hb : x * (p : Int) + y < 4294967296) : bits .or .u32 (x * (p : Int)) y = x * (p : Int) + y := or_join .u32 4294967296 (by decide) wr_u32 x y p i hp hx hy hy' hb
theorem or_u64 (x y : Int) (p i : Nat) (hp : p = 2 ^ i) (hx : 0 ≤ x) (hy : 0 ≤ y) (hy' : y < (p : Int)) (hb : x * (p : Int) + y < 18446744073709551616) : bits .or .u64 (x * (p : Int)) y = x * (p : Int) + y := or_join .u64 18446744073709551616 (by decide) wr_u64 x y p i hp hx hy hy' hb
theorem or_i64 (x y : Int) (p i : Nat) (hp : p = 2 ^ i) (hx : 0 ≤ x) (hy : 0 ≤ y) (hy' : y < (p : Int)) (hb : x * (p : Int) + y < 9223372036854775808) : bits .or .i64 (x * (p : Int)) y = x * (p : Int) + y := or_join .i64 9223372036854775808 (by decide) wr_i64 x y p i hp hx hy hy' hb
theorem and_u8 (x : Int) (m p i : Nat) (hp : p = 2 ^ i) (hm : m + 1 = p) (hx : 0 ≤ x) (hx' : x < 256) (hpM : p ≤ 256) : bits .and .u8 x (m : Int) = x % (p : Int) := and_rest .u8 256 (by decide) wr_u8 x m p i hp hm hx hx' hpM
theorem and_u16 (x : Int) (m p i : Nat) (hp : p = 2 ^ i) (hm : m + 1 = p) (hx : 0 ≤ x) (hx' : x < 65536) (hpM : p ≤ 65536) : bits .and .u16 x (m : Int) = x % (p : Int) := and_rest .u16 65536 (by decide) wr_u16 x m p i hp hm hx hx' hpM
theorem and_u32 (x : Int) (m p i : Nat) (hp : p = 2 ^ i) (hm : m + 1 = p) (hx : 0 ≤ x) (hx' : x < 4294967296) (hpM : p ≤ 4294967296) : bits .and .u32 x (m : Int) = x % (p : Int) := and_rest .u32 4294967296 (by decide) wr_u32 x m p i hp hm hx hx' hpM
theorem and_u64 (x : Int) (m p i : Nat) (hp : p = 2 ^ i) (hm : m + 1 = p) (hx : 0 ≤ x) (hx' : x < 18446744073709551616) (hpM : p ≤ 18446744073709551616) : bits .and .u64 x (m : Int) = x % (p : Int) := and_rest .u64 18446744073709551616 (by decide) wr_u64 x m p i hp hm hx hx' hpM
theorem and_i64 (x : Int) (m p i : Nat) (hp : p = 2 ^ i) (hm : m + 1 = p) (hx : 0 ≤ x) (hx' : x < 9223372036854775808) (hpM : p ≤ 9223372036854775808) : bits .and .i64 x (m : Int) = x % (p : Int) := and_rest .i64 9223372036854775808 (by decide) wr_i64 x m p i hp hm hx hx' hpM
example (x y : Int) (h : 0 ≤ x ∧ x < 16) (h' : 0 ≤ y ∧ y < 16) : bits .or .u8 (x * 16) y = x * 16 + y := or_u8 x y 16 4 rfl (by omega) (by omega) (by omega) (by omega)
example (x : Int) (h : 0 ≤ x ∧ x < 256) : bits .and .u8 x 15 = x % 16 := and_u8 x 15 16 4 rfl rfl (by omega) (by omega) (by omega)
end Go.Proofs.Ytdeghjhlbhpopaa
