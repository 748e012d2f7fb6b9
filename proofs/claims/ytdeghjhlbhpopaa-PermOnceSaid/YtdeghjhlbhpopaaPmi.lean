/- Stage 17: what is asked of the program. -/
import Derived.Test.YtdeghjhlbhpopaaPma
namespace Go.Proofs.Ytdeghjhlbhpopaa
set_option maxRecDepth 100000
open Go.RowKit Go.Shelf
/-- What the laws ask of the program. -/
structure PmP : Prop where
  is_ : ∀ (n : Int) (w : World), Calls Try.prog 20 #[.int .i64 n] w (ret (.bool (isP n)) w)
  size : ∀ (n : Int) (w : World), Calls Try.prog 14 #[.int .i64 n] w (ret (.bool (szP n)) w)
  least : ∀ (n : Int) (w : World), Calls Try.prog 25 #[.int .i64 n] w (ret (.int .i64 (lst n : Int)) w)
end Go.Proofs.Ytdeghjhlbhpopaa
