/- Stage 12: numbers mixed, hashes of bytes, in pure words; a number mixed is told back. -/
import Derived.Test.YtfchmmojhfjibaaBytes
namespace Go.Proofs.Ytfchmmojhfjibaa
set_option maxRecDepth 100000
/-- A product modulo 2^64. -/
def mulW (a b : Nat) : Nat := a * b % 18446744073709551616
def mixN (n : Nat) : Nat :=
  let a := mulW (n ^^^ n >>> 30) 0xbf58476d1ce4e5b9
  let b := mulW (a ^^^ a >>> 27) 0x94d049bb133111eb
  b ^^^ b >>> 31
def fnvN (f : Nat → Nat) : Nat → Nat
  | 0 => 14695981039346656037
  | k + 1 => mulW (fnvN f k ^^^ f k) 1099511628211
def seedN (seed : Nat) (f : Nat → Nat) (m : Nat) : Nat := mixN (fnvN f m ^^^ mixN seed)
def turnN (n k : Nat) : Nat → Nat
  | 0 => n
  | r + 1 => n ^^^ (turnN n k r) >>> k
theorem mulW_lt (a b : Nat) : mulW a b < 18446744073709551616 := Nat.mod_lt _ (by decide)
theorem xorW_lt {a b : Nat} (ha : a < 18446744073709551616) (hb : b < 18446744073709551616) : a ^^^ b < 18446744073709551616 := Nat.xor_lt_two_pow (n := 64) ha hb
theorem shrW_lt {a : Nat} (ha : a < 18446744073709551616) (k : Nat) : a >>> k < 18446744073709551616 := by
  rw [Nat.shiftRight_eq_div_pow]
  exact Nat.lt_of_le_of_lt (Nat.div_le_self _ _) ha
theorem turn_step (x k : Nat) : ∀ r, turnN (x ^^^ x >>> k) k r = x ^^^ x >>> (k * (r + 1))
  | 0 => by rw [Nat.zero_add, Nat.mul_one]; rfl
  | r + 1 => by
    show (x ^^^ x >>> k) ^^^ (turnN (x ^^^ x >>> k) k r) >>> k = _
    rw [turn_step x k r, Nat.shiftRight_xor_distrib, ← Nat.shiftRight_add, show k * (r + 1) + k = k * (r + 1 + 1) by rw [Nat.mul_succ k (r + 1)], Nat.xor_assoc, ← Nat.xor_assoc (x >>> k), Nat.xor_self, Nat.zero_xor]
theorem mix_lt (n : Nat) : mixN n < 18446744073709551616 := xorW_lt (mulW_lt _ _) (shrW_lt (mulW_lt _ _) _)
theorem fnv_lt (f : Nat → Nat) : ∀ k, fnvN f k < 18446744073709551616
  | 0 => by
    show 14695981039346656037 < 18446744073709551616
    decide
  | k + 1 => mulW_lt _ _
/-- A product by adding and doubling: out + a * b stays. -/
theorem times_step (out a b : Nat) : ((if b % 2 = 1 then (out + a) % 18446744073709551616 else out) + (a + a) % 18446744073709551616 * (b / 2)) % 18446744073709551616 = (out + a * b) % 18446744073709551616 := by
  have e := Nat.div_add_mod b 2
  have key : out + a * b = (if b % 2 = 1 then out + a else out) + (a + a) * (b / 2) := by
    have h2 : a * b = a * (2 * (b / 2) + b % 2) := by rw [e]
    rw [h2, Nat.mul_add, ← Nat.mul_assoc, show a * 2 = a + a by omega]
    split
    · rename_i h1; rw [h1, Nat.mul_one]; omega
    · have h0 : b % 2 = 0 := by omega
      rw [h0, Nat.mul_zero]; omega
  rw [key]
  split <;> simp [Nat.add_mod, Nat.mul_mod]
end Go.Proofs.Ytfchmmojhfjibaa
