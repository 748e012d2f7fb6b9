/- The blocks that a walk made, in the order of their making: one fact for all of them, over any program. -/
import Derived.Test.YtkifcolaboalgaaGrow
import Derived.Test.YtkifcolaboalgaaBlk
import Derived.Test.YtkifcolaboalgaaInfo
import Derived.Test.YtkifcolaboalgaaBytes
import Derived.Deep.RegionHeld3
import Derived.Deep.MidRow
import Derived.Deep.CutRange
import Derived.StillTailTactics
import Derived.WalkLawsBesides
import Derived.IntWalk
import Derived.BigQuiet
import Derived.Laws.CopyOwn
import Derived.Laws.Tables
import Derived.Laws.IdiomCopy
import Derived.Laws.BytesArg
import Derived.Laws.StructEq
import Derived.Laws.BitsAllLaws
namespace Go.Proofs.Ytkifcolaboalgaa
open Go.RowKit
structure Mem (w W : World) (L : List (Nat × Obj)) : Prop where
  all : ∀ p ∈ L, W.heap[p.1]? = some p.2
  lo : ∀ p ∈ L, w.heap.size ≤ p.1
  inc : L.Pairwise fun a b => a.1 < b.1
  below : Below w.heap.size w W
theorem Mem.low {w W : World} {L : List (Nat × Obj)} (h : Mem w W L) (k : Nat) {g : Nat} {o : Obj} (hk : L[k]? = some (g, o)) : w.heap.size ≤ g := h.lo (g, o) (List.mem_of_getElem? hk)
theorem Mem.cell {w W : World} {L : List (Nat × Obj)} (h : Mem w W L) {b o : Nat} (hb : b < w.heap.size) {v : Value} (hc : w.cell? ⟨b, o, none⟩ = some v) : W.cell? ⟨b, o, none⟩ = some v := (h.below.cell (p := ⟨b, o, none⟩) hb).trans hc
end Go.Proofs.Ytkifcolaboalgaa
