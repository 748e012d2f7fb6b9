/-
  No cell of these rows narrows 'for every input' (looked for: loops, veiled, ifaces, maps, wideKeys, modest, calm, conditions, laid).
  DERIVED. THE GIVEN ROWS OF THIS SEAT. 3 by the template 'for every input the law returns true; each argument reads behind the call as it read before'; 0 by the template 'total and deterministic' (their statements: YtekjmjipgndccaaTotals.lean).
  GIVEN WITH THE SEED: the statements are not yours to turn. If you find one false, say at which input.
  Laid BY PROGRAM, IN A SANDBOX (cutbox-rows.mjs): the forced cells as the released guide's own fill.sh prints them over the translation 08704540d273f12e… (all of the seat's roots in one cut). By AI agents, Wed Nov 11 2026. No macro, syntax, notation, axiom, sorry.
-/
import Derived.Test.YtekjmjipgndccaaChecked
import GoSem.Claim
import GoSem.ClaimJoined
import GoSem.ClaimMapViews
import Derived.JoinedTies
import Derived.KernelRfl
namespace Go.Proofs.Ytekjmjipgndccaa
/- THE CELL 'sum', in the pinned program and in every row, IS THE sha256 OF THE DUMP (.gsa) THAT YtekjmjipgndccaaProg.lean LOADS. Nothing in Lean hashes anything: it is a label: what it is worth is what the hold of that sum in a sandbox is worth. -/
noncomputable def Try.pinned : Pinned := { name := "ytekjmjipgndccaa", sum := "08704540d273f12ec7fdf0b035f44f171d42de26869a6b8fd988ec5dec1733ab", checked := Try.checked }
namespace Rows
def none {H : Type} : Left H := { results := [], args := [] }

/-- 'weighbridgelaw02.EtherFrames': WHATEVER THE INPUT: true; the input reads as it did. -/
def etherFramesSpec : ChangeSpec := { name := "etherFrames", fn := fun _ => fun
  | [d1, d2] => { results := [.lit (.bool true)], args := [d1, d2] }
  | _ => none }
def etherFramesRow : OpenClaim := { program := "ytekjmjipgndccaa", sum := "08704540d273f12ec7fdf0b035f44f171d42de26869a6b8fd988ec5dec1733ab", func := "weighbridge/weighbridgelaw02.EtherFrames", spec := "etherFrames", inPlace := ["internal/bytealg.IndexByteString"], unfollowed := true, recurses := true, apart := false }
def EtherFramesSaid : Prop := etherFramesRow.holds Try.pinned (OpenSpec.ofChange etherFramesSpec)

/-- ITS FALSE NEIGHBOUR: 'it returns false'. Refute it at one input. -/
def etherFramesWrong : ChangeSpec := { name := "etherFrames", fn := fun _ => fun
  | [d1, d2] => { results := [.lit (.bool false)], args := [d1, d2] }
  | _ => none }
def EtherFramesWrongFalsely : Prop := etherFramesRow.holds Try.pinned (OpenSpec.ofChange etherFramesWrong)

/-- 'weighbridgelaw02.EtherTexts': WHATEVER THE INPUT: true; the input reads as it did. -/
def etherTextsSpec : ChangeSpec := { name := "etherTexts", fn := fun _ => fun
  | [d1, d2] => { results := [.lit (.bool true)], args := [d1, d2] }
  | _ => none }
def etherTextsRow : OpenClaim := { program := "ytekjmjipgndccaa", sum := "08704540d273f12ec7fdf0b035f44f171d42de26869a6b8fd988ec5dec1733ab", func := "weighbridge/weighbridgelaw02.EtherTexts", spec := "etherTexts", inPlace := ["internal/bytealg.IndexByteString"], unfollowed := true, recurses := true, apart := false }
def EtherTextsSaid : Prop := etherTextsRow.holds Try.pinned (OpenSpec.ofChange etherTextsSpec)

/-- ITS FALSE NEIGHBOUR: 'it returns false'. Refute it at one input. -/
def etherTextsWrong : ChangeSpec := { name := "etherTexts", fn := fun _ => fun
  | [d1, d2] => { results := [.lit (.bool false)], args := [d1, d2] }
  | _ => none }
def EtherTextsWrongFalsely : Prop := etherTextsRow.holds Try.pinned (OpenSpec.ofChange etherTextsWrong)

/-- 'weighbridgelaw02.EtherBack': WHATEVER THE INPUT: true; the input reads as it did. -/
def etherBackSpec : ChangeSpec := { name := "etherBack", fn := fun _ => fun
  | [d1, d2, d3] => { results := [.lit (.bool true)], args := [d1, d2, d3] }
  | _ => none }
def etherBackRow : OpenClaim := { program := "ytekjmjipgndccaa", sum := "08704540d273f12ec7fdf0b035f44f171d42de26869a6b8fd988ec5dec1733ab", func := "weighbridge/weighbridgelaw02.EtherBack", spec := "etherBack", inPlace := ["internal/bytealg.IndexByteString"], unfollowed := true, recurses := true, apart := false }
def EtherBackSaid : Prop := etherBackRow.holds Try.pinned (OpenSpec.ofChange etherBackSpec)

/-- ITS FALSE NEIGHBOUR: 'it returns false'. Refute it at one input. -/
def etherBackWrong : ChangeSpec := { name := "etherBack", fn := fun _ => fun
  | [d1, d2, d3] => { results := [.lit (.bool false)], args := [d1, d2, d3] }
  | _ => none }
def EtherBackWrongFalsely : Prop := etherBackRow.holds Try.pinned (OpenSpec.ofChange etherBackWrong)

/- THE SECOND FORM. 'bulk': how many values and letters a reading holds, each counted each time it is reached (what is shared counts as often as it is met; a slice's spare places count too). A statement '..UptoSaid' is the law's where the arguments, and the package variables that the reading takes, are together of bulk at most 1048576: NARROWER than '..Said'. Prove '..Said' where nothing that the law and all that it calls make is longer than what came in: it says more and counts as full. Else prove '..UptoSaid'. A law counts once. -/
mutual
def uptoBulk {H : Type} : DataW H → Nat
  | .lit (.string bytes) => bytes.length + 1
  | .lit _ => 1
  | .nil => 1
  | .ptr d => uptoBulk d + 1
  | .slice elems spare => uptoBulkAll elems + uptoBulkAll spare + 1
  | .agg parts => uptoBulkAll parts + 1
  | .iface _ d => uptoBulk d + 1
  | .map entries => uptoBulkEntries entries + 1
  | .held _ => 1
def uptoBulkAll {H : Type} : List (DataW H) → Nat
  | [] => 0
  | d :: r => uptoBulk d + uptoBulkAll r
def uptoBulkEntries {H : Type} : List (Lit × DataW H) → Nat
  | [] => 0
  | x :: r => uptoBulkEntry x + uptoBulkEntries r
def uptoBulkEntry {H : Type} : Lit × DataW H → Nat
  | (.string bytes, d) => bytes.length + uptoBulk d + 1
  | (_, d) => uptoBulk d + 1
 end
def uptoSmall : (H : Type) → List (DataW H) → Bool := fun _ ds => decide (uptoBulkAll ds ≤ 1048576)
def OpenSpec.upto (s : _root_.Go.ChangeSpec) : _root_.Go.OpenSpec := { _root_.Go.OpenSpec.ofChange s with cond := some uptoSmall }

/-- 'weighbridgelaw02.EtherFrames', WHERE WHAT IT READS IS OF BULK AT MOST 1048576: true; the input reads as it did. -/
def etherFramesUptoRow : OpenClaim := { program := "ytekjmjipgndccaa", sum := "08704540d273f12ec7fdf0b035f44f171d42de26869a6b8fd988ec5dec1733ab", func := "weighbridge/weighbridgelaw02.EtherFrames", spec := "etherFrames", inPlace := ["internal/bytealg.IndexByteString"], unfollowed := true, recurses := true, apart := false, narrowed := true }
def EtherFramesUptoSaid : Prop := etherFramesUptoRow.holds Try.pinned (OpenSpec.upto etherFramesSpec)

/-- 'weighbridgelaw02.EtherTexts', WHERE WHAT IT READS IS OF BULK AT MOST 1048576: true; the input reads as it did. -/
def etherTextsUptoRow : OpenClaim := { program := "ytekjmjipgndccaa", sum := "08704540d273f12ec7fdf0b035f44f171d42de26869a6b8fd988ec5dec1733ab", func := "weighbridge/weighbridgelaw02.EtherTexts", spec := "etherTexts", inPlace := ["internal/bytealg.IndexByteString"], unfollowed := true, recurses := true, apart := false, narrowed := true }
def EtherTextsUptoSaid : Prop := etherTextsUptoRow.holds Try.pinned (OpenSpec.upto etherTextsSpec)

/-- 'weighbridgelaw02.EtherBack', WHERE WHAT IT READS IS OF BULK AT MOST 1048576: true; the input reads as it did. -/
def etherBackUptoRow : OpenClaim := { program := "ytekjmjipgndccaa", sum := "08704540d273f12ec7fdf0b035f44f171d42de26869a6b8fd988ec5dec1733ab", func := "weighbridge/weighbridgelaw02.EtherBack", spec := "etherBack", inPlace := ["internal/bytealg.IndexByteString"], unfollowed := true, recurses := true, apart := false, narrowed := true }
def EtherBackUptoSaid : Prop := etherBackUptoRow.holds Try.pinned (OpenSpec.upto etherBackSpec)

end Rows
end Go.Proofs.Ytekjmjipgndccaa
