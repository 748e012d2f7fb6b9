/- The program's small functions of layer 3: headLen, word, fits, and the closure that lays a number. -/
import Derived.Test.YtmmmednghdnhnaaRI4a
import Derived.Test.YtmmmednghdnhnaaArrEq
import Derived.Laws.Cover3
import Derived.Laws.BitsAllLaws
namespace Go.Proofs.Ytmmmednghdnhnaa
open Go.RowKit
theorem and15 (x : Int) (h : 0 ≤ x) (h' : x ≤ 255) : bits .and .u8 x 15 = x % 16 := by
  obtain ⟨n, rfl⟩ := Int.eq_ofNat_of_zero_le h
  have e := u8_and_nat n 15 (by omega) (by omega)
  have q : n &&& 15 = n % 16 := Nat.and_two_pow_sub_one_eq_mod n 4
  rw [q] at e
  exact e
set_option maxHeartbeats 400000 in
theorem headLen_any (b off n c : Nat) (f : Nat → Int) (hf : Byt f) (hn : 0 < n) (w : World) (hc : w.cell? ⟨b, off, none⟩ = some (.int .u8 (f 0))) :
    Calls Try.prog 16 #[.slice (some ⟨b, off, none⟩) n c] w fun e w' => e = .returned (.int .i64 (f 0 % 16 * 4)) ∧ w = w' := by
  obtain ⟨p0, q0⟩ := hf 0
  have i0 : (0 : Int) < (n : Int) := by omega
  have ha := and15 (f 0) p0 q0
  have hm : 0 ≤ f 0 % 16 ∧ f 0 % 16 ≤ 15 := by omega
  obtain ⟨m0, m1⟩ := hm
  generalize f 0 % 16 = m at *
  go_enter Try.func16, Try.ntmps16
  go_wp2
  go_ret
  exact ⟨rfl, rfl⟩
set_option maxHeartbeats 400000 in
theorem word_any (b off n c a : Nat) (f : Nat → Int) (hf : Byt f) (ha : a + 1 < n) (hn : n ≤ 4611686018427387904) (w : World) (hc : ∀ k, k < n → w.cell? ⟨b, off + k, none⟩ = some (.int .u8 (f k))) :
    Calls Try.prog 17 #[.slice (some ⟨b, off, none⟩) n c, .int .i64 (a : Int)] w fun e w' => e = .returned (.int .u16 (f a * 256 + f (a + 1))) ∧ Below w.heap.size w w' := by
  have h0 := hc a (by omega)
  have h1 := hc (a + 1) (by omega)
  obtain ⟨p0, q0⟩ := hf a
  obtain ⟨p1, q1⟩ := hf (a + 1)
  clear hc hf
  have i0 : (0 : Int) ≤ (a : Int) := by omega
  have i1 : (a : Int) < (n : Int) := by omega
  have i2 : (0 : Int) ≤ (a : Int) + 1 := by omega
  have i3 : (a : Int) + 1 < (n : Int) := by omega
  have i4 : ((a : Int)).toNat = a := by omega
  have i5 : ((a : Int) + 1).toNat = a + 1 := by omega
  have w1' : IntKind.u16.wrap (f a) = f a := by simp only [IntKind.wrap_u16]; omega
  have w2' : IntKind.u16.wrap (f (a + 1)) = f (a + 1) := by simp only [IntKind.wrap_u16]; omega
  have w3' : IntKind.u16.wrap (f a * 256) = f a * 256 := by simp only [IntKind.wrap_u16]; omega
  have w4' := or_hi (f a) (f (a + 1)) p0 q0 p1 q1
  go_enter Try.func17, Try.ntmps17
  go_wp2
  go_quiet (fail)
  go_wp2
  go_ret
  exact ⟨rfl, below_drewN (Below.refl _ _) _⟩
end Go.Proofs.Ytmmmednghdnhnaa
