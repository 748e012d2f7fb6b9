/- The document's Num (seg). -/
import Derived.Test.YtfaelihfjmaekaaSegSpec
import Derived.Test.YtfaelihfjmaekaaGen
namespace Go.Proofs.Ytfaelihfjmaekaa
open Go.RowKit
/-- A number of some bytes; what is left of one; its bytes. -/
def numk (f : Nat → Int) (a : Nat) : Nat → Int
  | 0 => 0
  | k + 1 => numk f a k * 256 + f (a + k)
theorem numk_2 (f : Nat → Int) (a : Nat) : numk f a 2 = w2 f a := by
  unfold w2
  show (0 * 256 + f (a + 0)) * 256 + f (a + 1) = _
  rw [Nat.add_zero]
  omega
theorem numk_4 (f : Nat → Int) (a : Nat) : numk f a 4 = w4 f a := by
  unfold w4
  show (((0 * 256 + f (a + 0)) * 256 + f (a + 1)) * 256 + f (a + 2)) * 256 + f (a + 3) = _
  rw [Nat.add_zero]
  omega
theorem numk_bd {f : Nat → Int} (hf : Byt f) (a k : Nat) (hk : k < 4) : 0 ≤ numk f a k ∧ numk f a k ≤ 16777215 := by
  have b0 := hf a
  have b1 := hf (a + 1)
  have b2 := hf (a + 2)
  obtain rfl | rfl | rfl | rfl : k = 0 ∨ k = 1 ∨ k = 2 ∨ k = 3 := by omega
  · exact ⟨Int.le_refl 0, (by decide : (0 : Int) ≤ 16777215)⟩
  · show 0 ≤ 0 * 256 + f (a + 0) ∧ 0 * 256 + f (a + 0) ≤ 16777215
    rw [Nat.add_zero]
    omega
  · rw [numk_2]
    unfold w2
    omega
  · show 0 ≤ numk f a 2 * 256 + f (a + 2) ∧ numk f a 2 * 256 + f (a + 2) ≤ 16777215
    rw [numk_2]
    unfold w2
    omega
set_option maxHeartbeats 1000000 in
theorem rnum_any (A : Option Addr) (n c a m : Nat) (f : Nat → Int) (hf : Byt f) (hm : m ≤ 4) (ham : a + m ≤ n) (hn : n ≤ 4611686018427387904) (w : World) (B : Nat) (hr : Rd w B A n f) :
    Calls Try.prog 20 #[.slice A n c, .int .i64 (a : Int), .int .i64 (m : Int)] w fun e w' => e = .returned (.int .u32 (numk f a m)) ∧ w = w' := by
  have HR := Lib.hid hr
  have HF := Lib.hid hf
  clear hr hf
  go_enter Try.func20, Try.ntmps20
  go_wp2
  go_loopw [7, 8] (fun x y wr => ∃ k : Nat, k ≤ m ∧ x = .int .u32 (numk f a k) ∧ y = .int .i64 (k : Int) ∧ w = wr) (fun _ y _ => m - (intOf y).toNat)
  case atStart => exact ⟨0, by omega, rfl, rfl, by first | rfl | trivial⟩
  case round =>
    obtain ⟨k, hk, rfl, rfl, rfl⟩ := hrel
    by_cases hlt : k < m
    · rcases HR.out with h0 | ⟨b, off, rfl, hbb, hcell⟩
      · omega
      have hx := hcell (a + k) (by omega)
      obtain ⟨q0, q1⟩ := numk_bd HF.out a k (by omega)
      obtain ⟨q3, q4⟩ := HF.out (a + k)
      have i0 : (k : Int) < (m : Int) := by omega
      have i1 : (0 : Int) ≤ (a : Int) + (k : Int) := by omega
      have i2 : (a : Int) + (k : Int) < (n : Int) := by omega
      have i3 : ((a : Int) + (k : Int)).toNat = a + k := by omega
      have i4 : IntKind.u32.wrap (numk f a k * 256) = numk f a k * 256 := by rw [IntKind.wrap_u32']; omega
      have i5 : IntKind.u32.wrap (f (a + k)) = f (a + k) := by rw [IntKind.wrap_u32']; omega
      have i6 : IntKind.u32.wrap (numk f a k * 256 + f (a + k)) = numk f a k * 256 + f (a + k) := by rw [IntKind.wrap_u32']; omega
      have i7 : IntKind.i64.wrap ((k : Int) + 1) = (k : Int) + 1 := by rw [IntKind.wrap_i64]; omega
      have i8 : IntKind.i64.wrap ((a : Int) + (k : Int)) = (a : Int) + (k : Int) := by rw [IntKind.wrap_i64]; omega
      clear q0 q1 q3 q4 hcell
      go_wp2
      go_roundw
      case rel => exact ⟨k + 1, by omega, rfl, by simp, by first | rfl | trivial⟩
      case measure => simp [intOf]; omega
    · obtain rfl : k = m := by omega
      go_wp2
      go_ret
      exact ⟨rfl, rfl⟩
end Go.Proofs.Ytfaelihfjmaekaa
