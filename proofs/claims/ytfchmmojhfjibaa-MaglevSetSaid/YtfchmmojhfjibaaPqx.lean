/- Stage 18: the landed At, below. -/
import Derived.RangeFuncNested
import Derived.RangeFuncBound
import Derived.RangeFuncCalls
import Derived.RangeFuncLeaves
import Derived.WalkKit
import Derived.OwnWalkIn
import Derived.TacticsInMore
import Derived.LoopNIn
import Derived.LoopIn
import Derived.Test.YtfchmmojhfjibaaPqb
import Derived.Test.YtfchmmojhfjibaaLaw
import Derived.Test.YtfchmmojhfjibaaFoot
import Derived.Test.YtfchmmojhfjibaaQg
import Derived.Test.YtfchmmojhfjibaaVals
import Derived.Test.YtfchmmojhfjibaaPmz
import Derived.Test.YtfchmmojhfjibaaHs
namespace Go.Proofs.Ytfchmmojhfjibaa
set_option maxRecDepth 100000
open Go.RowKit Go.Shelf
attribute [local go_sem] Oper.semAt_some
theorem pbelow_any (H n : Nat) (hn : 0 < n) (hn9 : n ≤ 65537) (w : World) : Calls Try.prog 51 #[.int .u64 (H : Int), .int .i64 (n : Int)] w (ret (.int .i64 ((H % n : Nat) : Int)) w) := by
  obtain ⟨r, hr⟩ : ∃ r, r = H % n := ⟨_, rfl⟩
  have hrn : r < n := by rw [hr]; exact Nat.mod_lt _ hn
  rw [← hr]
  have z1 : IntKind.u64.wrap (n : Int) = (n : Int) := by rw [IntKind.wrap_u64]; omega
  have z2 : (H : Int) % (n : Int) = (r : Int) := by rw [hr, Int.natCast_emod]
  have z3 : IntKind.i64.wrap (r : Int) = (r : Int) := by rw [IntKind.wrap_i64]; omega
  have z4 : ¬ (n : Int) = 0 := by omega
  clear hr hrn
  go_enter Try.func51, Try.ntmps51
  go_wp2_with fail
  go_ret
  exact ⟨rfl, Below.refl _ _⟩
end Go.Proofs.Ytfchmmojhfjibaa
