/- A byte's type in this program: it is 0 at first, one cell, one byte. -/
import Derived.Test.YtdeghjhlbhpopaaRows
import Derived.KernelRfl
namespace Go.Proofs.Ytdeghjhlbhpopaa
set_option maxRecDepth 100000
theorem Try.info5 : (Try.prog.info? 5).map (fun i => (i.zero, i.size, i.bytes)) = some (some (.int .u8 0), 1, 1) := by kernel_rfl
end Go.Proofs.Ytdeghjhlbhpopaa
