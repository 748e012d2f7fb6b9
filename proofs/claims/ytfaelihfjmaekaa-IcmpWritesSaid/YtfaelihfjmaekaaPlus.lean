/- Contracts of the small functions of layer 1: adding in ones' complement, in the program and in the document's answer. -/
import Derived.Test.YtfaelihfjmaekaaRows
import Derived.WalkKit
import Derived.WalkSpells
import Derived.WalkLawsBesides
import Derived.Laws.BitsAllLaws
namespace Go.Proofs.Ytfaelihfjmaekaa
open Go.RowKit

/-- Ones' complement addition of two words, as numbers. -/
def pl (a b : Int) : Int := if a + b > 65535 then a + b - 65535 else a + b
theorem ret_int {k : IntKind} {a b : Int} (h : a = b) : Ending.returned (.int k a) = .returned (.int k b) := by rw [h]

set_option maxHeartbeats 400000 in
theorem plus_any (a b : Int) (w : World) (ha : 0 ≤ a) (ha' : a ≤ 65535) (hb : 0 ≤ b) (hb' : b ≤ 65535) :
    Calls Try.prog 40 #[.int .u16 a, .int .u16 b] w fun e w' => e = .returned (.int .u16 (pl a b)) ∧ w = w' := by
  go_enter Try.func40, Try.ntmps40
  go_wp2
  go_ret
  refine ⟨ret_int ?_, rfl⟩
  unfold pl
  simp only [IntKind.wrap_u16]
  split <;> omega

set_option maxHeartbeats 400000 in
theorem rplus_any (a b : Int) (w : World) (ha : 0 ≤ a) (ha' : a ≤ 65535) (hb : 0 ≤ b) (hb' : b ≤ 65535) :
    Calls Try.prog 50 #[.int .u16 a, .int .u16 b] w fun e w' => e = .returned (.int .u16 (pl a b)) ∧ w = w' := by
  go_enter Try.func50, Try.ntmps50
  go_wp2
  all_goals
    go_ret
    refine ⟨ret_int ?_, rfl⟩
    unfold pl
    split <;> omega

theorem xor_max (s : Int) (ha : 0 ≤ s) (ha' : s ≤ 65535) : bits .xor .u16 IntKind.u16.max s = 65535 - s := by
  obtain ⟨n, rfl⟩ := Int.eq_ofNat_of_zero_le ha
  have hn : n < 65536 := by omega
  have hm : IntKind.u16.max = ((65535 : Nat) : Int) := rfl
  rw [hm, u16_xor_nat 65535 n (by omega) hn]
  have h : 65535 ^^^ n = 65535 - n := by
    have e := congrArg BitVec.toNat (BitVec.allOnes_xor (x := BitVec.ofNat 16 n))
    rw [BitVec.toNat_xor, BitVec.toNat_not, BitVec.toNat_allOnes, BitVec.toNat_ofNat, Nat.mod_eq_of_lt (by omega)] at e
    exact e
  rw [h]
  omega
theorem or_hi (x y : Int) (hx : 0 ≤ x) (hx' : x ≤ 255) (hy : 0 ≤ y) (hy' : y ≤ 255) : bits .or .u16 (x * 256) y = x * 256 + y := by
  obtain ⟨n, rfl⟩ := Int.eq_ofNat_of_zero_le hx
  obtain ⟨m, rfl⟩ := Int.eq_ofNat_of_zero_le hy
  have h := Nat.shiftLeft_add_eq_or_of_lt (i := 8) (b := m) (by omega) n
  rw [Nat.shiftLeft_eq, show (2:Nat) ^ 8 = 256 from rfl] at h
  have e := u16_or_nat (n * 256) m (by omega) (by omega)
  rw [← h] at e
  have c : ((n * 256 : Nat) : Int) = (n : Int) * 256 := by omega
  have d : ((n * 256 + m : Nat) : Int) = (n : Int) * 256 + (m : Int) := by rw [Int.natCast_add, c]
  rw [c, d] at e
  exact e

set_option maxHeartbeats 400000 in
theorem end_any (s : Int) (o : Bool) (w : World) (ha : 0 ≤ s) (ha' : s ≤ 65535) :
    Calls Try.prog 29 #[.agg #[.int .u16 s, .bool o]] w fun e w' => e = .returned (.int .u16 (65535 - s)) ∧ Below w.heap.size w w' := by
  go_enter Try.func29, Try.ntmps29
  go_wp2
  go_ret
  exact ⟨ret_int (xor_max s ha ha'), (Below.refl _ _).alloc (Nat.le_refl _) _⟩
set_option maxHeartbeats 400000 in
theorem rend_any (s : Int) (o : Bool) (w : World) (ha : 0 ≤ s) (ha' : s ≤ 65535) :
    Calls Try.prog 43 #[.agg #[.int .u16 s, .bool o]] w fun e w' => e = .returned (.int .u16 (65535 - s)) ∧ Below w.heap.size w w' := by
  go_enter Try.func43, Try.ntmps43
  go_wp2
  go_ret
  exact ⟨rfl, (Below.refl _ _).alloc (Nat.le_refl _) _⟩
end Go.Proofs.Ytfaelihfjmaekaa
