/- Stage 17: what is asked of the program. -/
import Derived.Test.YtkifcolaboalgaaPma
namespace Go.Proofs.Ytkifcolaboalgaa
set_option maxRecDepth 100000
open Go.RowKit Go.Shelf
/-- What the laws ask of the program. -/
structure PmP : Prop where
  is_ : ∀ (n : Int) (w : World), Calls Try.prog 9 #[.int .i64 n] w (ret (.bool (isP n)) w)
  size : ∀ (n : Int) (w : World), Calls Try.prog 10 #[.int .i64 n] w (ret (.bool (szP n)) w)
  least : ∀ (n : Int) (w : World), Calls Try.prog 12 #[.int .i64 n] w (ret (.int .i64 (lst n : Int)) w)
  next : ∀ (n : Int) (w : World), Calls Try.prog 6 #[.int .i64 n] w (ret (.tuple #[.int .i64 ((nxV n).1 : Int), .int .i64 (nxV n).2]) w)
end Go.Proofs.Ytkifcolaboalgaa
