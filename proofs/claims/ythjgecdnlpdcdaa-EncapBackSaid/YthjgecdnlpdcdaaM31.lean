import Derived.Test.YthjgecdnlpdcdaaM15
import Derived.Test.YthjgecdnlpdcdaaM29
import Derived.Test.YthjgecdnlpdcdaaM16
import Derived.Deep.MidRow
import Derived.Deep.CutRange
/- The document's answers for layer 3: Write. -/
namespace Go.Proofs.Ythjgecdnlpdcdaa
set_option maxRecDepth 100000
open Go.RowKit
/-- Has an address four4 bytes alone? -/
def fourB (s : Nat → Int) : Bool := eqs s (adr s) 0 16
def Write4 (base et : Nat) (g : Nat → Int) (m : Nat) (x : Int) (w : World) (e : Ending) (w' : World) : Prop :=
  ∃ U cu, e = .returned (.tuple #[.slice U m cu, .int .i64 x]) ∧ Own w' base et U m cu g ∧ Below base w w'
end Go.Proofs.Ythjgecdnlpdcdaa
