/-
  No cell of these rows narrows 'for every input' (looked for: loops, veiled, ifaces, maps, wideKeys, modest, calm, conditions, laid).
  DERIVED. THE GIVEN ROWS OF THIS SEAT. 3 by the template 'for every input the law returns true; each argument reads behind the call as it read before'; 0 by the template 'total and deterministic' (their statements: YtmmmednghdnhnaaTotals.lean).
  GIVEN WITH THE SEED: the statements are not yours to turn. If you find one false, say at which input.
  Laid BY PROGRAM, IN A SANDBOX (cutbox-rows.mjs): the forced cells as the released guide's own fill.sh prints them over the translation a68ce8fca3996181… (all of the seat's roots in one cut). By AI agents, Wed Nov 11 2026. No macro, syntax, notation, axiom, sorry.
-/
import Derived.Test.YtmmmednghdnhnaaChecked
import GoSem.Claim
import GoSem.ClaimJoined
import GoSem.ClaimMapViews
import Derived.JoinedTies
import Derived.KernelRfl
namespace Go.Proofs.Ytmmmednghdnhnaa
/- THE CELL 'sum', in the pinned program and in every row, IS THE sha256 OF THE DUMP (.gsa) THAT YtmmmednghdnhnaaProg.lean LOADS. Nothing in Lean hashes anything: it is a label: what it is worth is what the hold of that sum in a sandbox is worth. -/
noncomputable def Try.pinned : Pinned := { name := "ytmmmednghdnhnaa", sum := "a68ce8fca39961811369a919e37bf22fd8c28691baa62a8961879c69db6b22b2", checked := Try.checked }
namespace Rows
def none {H : Type} : Left H := { results := [], args := [] }

/-- 'weighbridgelaw03.Ip4Packets': WHATEVER THE INPUT: true; the input reads as it did. -/
def ip4PacketsSpec : ChangeSpec := { name := "ip4Packets", fn := fun _ => fun
  | [d1, d2] => { results := [.lit (.bool true)], args := [d1, d2] }
  | _ => none }
def ip4PacketsRow : OpenClaim := { program := "ytmmmednghdnhnaa", sum := "a68ce8fca39961811369a919e37bf22fd8c28691baa62a8961879c69db6b22b2", func := "weighbridge/weighbridgelaw03.Ip4Packets", spec := "ip4Packets", unfollowed := true, recurses := true, apart := false }
def Ip4PacketsSaid : Prop := ip4PacketsRow.holds Try.pinned (OpenSpec.ofChange ip4PacketsSpec)

/-- ITS FALSE NEIGHBOUR: 'it returns false'. Refute it at one input. -/
def ip4PacketsWrong : ChangeSpec := { name := "ip4Packets", fn := fun _ => fun
  | [d1, d2] => { results := [.lit (.bool false)], args := [d1, d2] }
  | _ => none }
def Ip4PacketsWrongFalsely : Prop := ip4PacketsRow.holds Try.pinned (OpenSpec.ofChange ip4PacketsWrong)

/-- 'weighbridgelaw03.Ip4Back': WHATEVER THE INPUT: true; the input reads as it did. -/
def ip4BackSpec : ChangeSpec := { name := "ip4Back", fn := fun _ => fun
  | [d1, d2, d3] => { results := [.lit (.bool true)], args := [d1, d2, d3] }
  | _ => none }
def ip4BackRow : OpenClaim := { program := "ytmmmednghdnhnaa", sum := "a68ce8fca39961811369a919e37bf22fd8c28691baa62a8961879c69db6b22b2", func := "weighbridge/weighbridgelaw03.Ip4Back", spec := "ip4Back", unfollowed := true, recurses := true, apart := false }
def Ip4BackSaid : Prop := ip4BackRow.holds Try.pinned (OpenSpec.ofChange ip4BackSpec)

/-- ITS FALSE NEIGHBOUR: 'it returns false'. Refute it at one input. -/
def ip4BackWrong : ChangeSpec := { name := "ip4Back", fn := fun _ => fun
  | [d1, d2, d3] => { results := [.lit (.bool false)], args := [d1, d2, d3] }
  | _ => none }
def Ip4BackWrongFalsely : Prop := ip4BackRow.holds Try.pinned (OpenSpec.ofChange ip4BackWrong)

/-- 'weighbridgelaw03.Ip4One': WHATEVER THE INPUT: true; the input reads as it did. -/
def ip4OneSpec : ChangeSpec := { name := "ip4One", fn := fun _ => fun
  | [d1, d2, d3] => { results := [.lit (.bool true)], args := [d1, d2, d3] }
  | _ => none }
def ip4OneRow : OpenClaim := { program := "ytmmmednghdnhnaa", sum := "a68ce8fca39961811369a919e37bf22fd8c28691baa62a8961879c69db6b22b2", func := "weighbridge/weighbridgelaw03.Ip4One", spec := "ip4One", unfollowed := true, recurses := true, apart := false }
def Ip4OneSaid : Prop := ip4OneRow.holds Try.pinned (OpenSpec.ofChange ip4OneSpec)

/-- ITS FALSE NEIGHBOUR: 'it returns false'. Refute it at one input. -/
def ip4OneWrong : ChangeSpec := { name := "ip4One", fn := fun _ => fun
  | [d1, d2, d3] => { results := [.lit (.bool false)], args := [d1, d2, d3] }
  | _ => none }
def Ip4OneWrongFalsely : Prop := ip4OneRow.holds Try.pinned (OpenSpec.ofChange ip4OneWrong)

/- THE SECOND FORM. 'bulk': how many values and letters a reading holds, each counted each time it is reached (what is shared counts as often as it is met; a slice's spare places count too). A statement '..UptoSaid' is the law's where the arguments, and the package variables that the reading takes, are together of bulk at most 1048576: NARROWER than '..Said'. Prove '..Said' where nothing that the law and all that it calls make is longer than what came in: it says more and counts as full. Else prove '..UptoSaid'. A law counts once. -/
mutual
def uptoBulk {H : Type} : DataW H → Nat
  | .lit (.string bytes) => bytes.length + 1
  | .lit _ => 1
  | .nil => 1
  | .ptr d => uptoBulk d + 1
  | .slice elems spare => uptoBulkAll elems + uptoBulkAll spare + 1
  | .agg parts => uptoBulkAll parts + 1
  | .iface _ d => uptoBulk d + 1
  | .map entries => uptoBulkEntries entries + 1
  | .held _ => 1
def uptoBulkAll {H : Type} : List (DataW H) → Nat
  | [] => 0
  | d :: r => uptoBulk d + uptoBulkAll r
def uptoBulkEntries {H : Type} : List (Lit × DataW H) → Nat
  | [] => 0
  | x :: r => uptoBulkEntry x + uptoBulkEntries r
def uptoBulkEntry {H : Type} : Lit × DataW H → Nat
  | (.string bytes, d) => bytes.length + uptoBulk d + 1
  | (_, d) => uptoBulk d + 1
 end
def uptoSmall : (H : Type) → List (DataW H) → Bool := fun _ ds => decide (uptoBulkAll ds ≤ 1048576)
def OpenSpec.upto (s : _root_.Go.ChangeSpec) : _root_.Go.OpenSpec := { _root_.Go.OpenSpec.ofChange s with cond := some uptoSmall }

/-- 'weighbridgelaw03.Ip4Packets', WHERE WHAT IT READS IS OF BULK AT MOST 1048576: true; the input reads as it did. -/
def ip4PacketsUptoRow : OpenClaim := { program := "ytmmmednghdnhnaa", sum := "a68ce8fca39961811369a919e37bf22fd8c28691baa62a8961879c69db6b22b2", func := "weighbridge/weighbridgelaw03.Ip4Packets", spec := "ip4Packets", unfollowed := true, recurses := true, apart := false, narrowed := true }
def Ip4PacketsUptoSaid : Prop := ip4PacketsUptoRow.holds Try.pinned (OpenSpec.upto ip4PacketsSpec)

/-- 'weighbridgelaw03.Ip4Back', WHERE WHAT IT READS IS OF BULK AT MOST 1048576: true; the input reads as it did. -/
def ip4BackUptoRow : OpenClaim := { program := "ytmmmednghdnhnaa", sum := "a68ce8fca39961811369a919e37bf22fd8c28691baa62a8961879c69db6b22b2", func := "weighbridge/weighbridgelaw03.Ip4Back", spec := "ip4Back", unfollowed := true, recurses := true, apart := false, narrowed := true }
def Ip4BackUptoSaid : Prop := ip4BackUptoRow.holds Try.pinned (OpenSpec.upto ip4BackSpec)

/-- 'weighbridgelaw03.Ip4One', WHERE WHAT IT READS IS OF BULK AT MOST 1048576: true; the input reads as it did. -/
def ip4OneUptoRow : OpenClaim := { program := "ytmmmednghdnhnaa", sum := "a68ce8fca39961811369a919e37bf22fd8c28691baa62a8961879c69db6b22b2", func := "weighbridge/weighbridgelaw03.Ip4One", spec := "ip4One", unfollowed := true, recurses := true, apart := false, narrowed := true }
def Ip4OneUptoSaid : Prop := ip4OneUptoRow.holds Try.pinned (OpenSpec.upto ip4OneSpec)

end Rows
end Go.Proofs.Ytmmmednghdnhnaa
