/- The document's answers for layer 2: Digit. -/
import Derived.Test.YtekjmjipgndccaaRows
import Derived.Test.YtekjmjipgndccaaBytes
import Derived.WalkLawsBesides
namespace Go.Proofs.Ytekjmjipgndccaa
open Go.RowKit
/-- A digit of the base 16; 16: it is none. -/
def dig (c : Int) : Int := if 48 ≤ c ∧ c ≤ 57 then c - 48 else if 97 ≤ c ∧ c ≤ 102 then c - 87 else 16
theorem dig_bd (c : Int) : 0 ≤ dig c ∧ dig c ≤ 16 := by unfold dig; split <;> (try split) <;> omega
theorem ret_int' {k : IntKind} {a b : Int} (h : a = b) : Ending.returned (.int k a) = .returned (.int k b) := by rw [h]
set_option maxHeartbeats 400000 in
theorem rdigit_any (c : Int) (hc : 0 ≤ c) (hc' : c ≤ 255) (w : World) : Calls Try.prog 20 #[.int .u8 c] w fun e w' => e = .returned (.int .u8 (dig c)) ∧ w = w' := by
  have hcases : c < 48 ∨ (48 ≤ c ∧ c ≤ 57) ∨ (57 < c ∧ c < 97) ∨ (97 ≤ c ∧ c ≤ 102) ∨ 102 < c := by omega
  rcases hcases with h | ⟨h, h'⟩ | ⟨h, h'⟩ | ⟨h, h'⟩ | h
  all_goals
    go_enter Try.func20, Try.ntmps20
    go_wp2
    go_ret
    refine ⟨ret_int' ?_, rfl⟩
    unfold dig
    split <;> (try split) <;> omega
end Go.Proofs.Ytekjmjipgndccaa
