/-
  No cell of these rows narrows 'for every input' (looked for: loops, veiled, ifaces, maps, wideKeys, modest, calm, conditions, laid).
  DERIVED. THE GIVEN ROWS OF THIS SEAT. 3 by the template 'for every input the law returns true; each argument reads behind the call as it read before'; 0 by the template 'total and deterministic' (their statements: YtfchmmojhfjibaaTotals.lean).
  GIVEN WITH THE SEED: the statements are not yours to turn. If you find one false, say at which input.
  Laid BY PROGRAM, IN A SANDBOX (cutbox-rows.mjs): the forced cells as the released guide's own fill.sh prints them over the translation 7fc342d39de9a0ff… (all of the seat's roots in one cut). By AI agents, Wed Nov 11 2026. No macro, syntax, notation, axiom, sorry.
-/
import Derived.Test.YtfchmmojhfjibaaChecked
import GoSem.Claim
import GoSem.ClaimJoined
import GoSem.ClaimMapViews
import Derived.JoinedTies
import Derived.KernelRfl
namespace Go.Proofs.Ytfchmmojhfjibaa
/- THE CELL 'sum', in the pinned program and in every row, IS THE sha256 OF THE DUMP (.gsa) THAT YtfchmmojhfjibaaProg.lean LOADS. Nothing in Lean hashes anything: it is a label: what it is worth is what the hold of that sum in a sandbox is worth. -/
noncomputable def Try.pinned : Pinned := { name := "ytfchmmojhfjibaa", sum := "7fc342d39de9a0ff0e046ea2b0420563c7dccf85e93b69cef7c5daed2cd999fb", checked := Try.checked }
namespace Rows
def none {H : Type} : Left H := { results := [], args := [] }

/-- 'weighbridgelaw19.MaglevTables': WHATEVER THE INPUT: true; the input reads as it did. -/
def maglevTablesSpec : ChangeSpec := { name := "maglevTables", fn := fun _ => fun
  | [d1, d2, d3, d4] => { results := [.lit (.bool true)], args := [d1, d2, d3, d4] }
  | _ => none }
def maglevTablesRow : OpenClaim := { program := "ytfchmmojhfjibaa", sum := "7fc342d39de9a0ff0e046ea2b0420563c7dccf85e93b69cef7c5daed2cd999fb", func := "weighbridge/weighbridgelaw19.MaglevTables", spec := "maglevTables", inPlace := ["internal/bytealg.abigen_runtime_cmpstring"], unfollowed := true, recurses := true, apart := false }
def MaglevTablesSaid : Prop := maglevTablesRow.holds Try.pinned (OpenSpec.ofChange maglevTablesSpec)

/-- ITS FALSE NEIGHBOUR: 'it returns false'. Refute it at one input. -/
def maglevTablesWrong : ChangeSpec := { name := "maglevTables", fn := fun _ => fun
  | [d1, d2, d3, d4] => { results := [.lit (.bool false)], args := [d1, d2, d3, d4] }
  | _ => none }
def MaglevTablesWrongFalsely : Prop := maglevTablesRow.holds Try.pinned (OpenSpec.ofChange maglevTablesWrong)

/-- 'weighbridgelaw19.MaglevShares': WHATEVER THE INPUT: true; the input reads as it did. -/
def maglevSharesSpec : ChangeSpec := { name := "maglevShares", fn := fun _ => fun
  | [d1, d2] => { results := [.lit (.bool true)], args := [d1, d2] }
  | _ => none }
def maglevSharesRow : OpenClaim := { program := "ytfchmmojhfjibaa", sum := "7fc342d39de9a0ff0e046ea2b0420563c7dccf85e93b69cef7c5daed2cd999fb", func := "weighbridge/weighbridgelaw19.MaglevShares", spec := "maglevShares", inPlace := ["internal/bytealg.abigen_runtime_cmpstring"], unfollowed := true, recurses := true, apart := false }
def MaglevSharesSaid : Prop := maglevSharesRow.holds Try.pinned (OpenSpec.ofChange maglevSharesSpec)

/-- ITS FALSE NEIGHBOUR: 'it returns false'. Refute it at one input. -/
def maglevSharesWrong : ChangeSpec := { name := "maglevShares", fn := fun _ => fun
  | [d1, d2] => { results := [.lit (.bool false)], args := [d1, d2] }
  | _ => none }
def MaglevSharesWrongFalsely : Prop := maglevSharesRow.holds Try.pinned (OpenSpec.ofChange maglevSharesWrong)

/-- 'weighbridgelaw19.MaglevSet': WHATEVER THE INPUT: true; the input reads as it did. -/
def maglevSetSpec : ChangeSpec := { name := "maglevSet", fn := fun _ => fun
  | [d1, d2, d3] => { results := [.lit (.bool true)], args := [d1, d2, d3] }
  | _ => none }
def maglevSetRow : OpenClaim := { program := "ytfchmmojhfjibaa", sum := "7fc342d39de9a0ff0e046ea2b0420563c7dccf85e93b69cef7c5daed2cd999fb", func := "weighbridge/weighbridgelaw19.MaglevSet", spec := "maglevSet", inPlace := ["internal/bytealg.abigen_runtime_cmpstring"], unfollowed := true, recurses := true, apart := false }
def MaglevSetSaid : Prop := maglevSetRow.holds Try.pinned (OpenSpec.ofChange maglevSetSpec)

/-- ITS FALSE NEIGHBOUR: 'it returns false'. Refute it at one input. -/
def maglevSetWrong : ChangeSpec := { name := "maglevSet", fn := fun _ => fun
  | [d1, d2, d3] => { results := [.lit (.bool false)], args := [d1, d2, d3] }
  | _ => none }
def MaglevSetWrongFalsely : Prop := maglevSetRow.holds Try.pinned (OpenSpec.ofChange maglevSetWrong)

/- THE SECOND FORM. 'bulk': how many values and letters a reading holds, each counted each time it is reached (what is shared counts as often as it is met; a slice's spare places count too). A statement '..UptoSaid' is the law's where the arguments, and the package variables that the reading takes, are together of bulk at most 1048576: NARROWER than '..Said'. Prove '..Said' where nothing that the law and all that it calls make is longer than what came in: it says more and counts as full. Else prove '..UptoSaid'. A law counts once. -/
mutual
def uptoBulk {H : Type} : DataW H → Nat
  | .lit (.string bytes) => bytes.length + 1
  | .lit _ => 1
  | .nil => 1
  | .ptr d => uptoBulk d + 1
  | .slice elems spare => uptoBulkAll elems + uptoBulkAll spare + 1
  | .agg parts => uptoBulkAll parts + 1
  | .iface _ d => uptoBulk d + 1
  | .map entries => uptoBulkEntries entries + 1
  | .held _ => 1
def uptoBulkAll {H : Type} : List (DataW H) → Nat
  | [] => 0
  | d :: r => uptoBulk d + uptoBulkAll r
def uptoBulkEntries {H : Type} : List (Lit × DataW H) → Nat
  | [] => 0
  | x :: r => uptoBulkEntry x + uptoBulkEntries r
def uptoBulkEntry {H : Type} : Lit × DataW H → Nat
  | (.string bytes, d) => bytes.length + uptoBulk d + 1
  | (_, d) => uptoBulk d + 1
 end
def uptoSmall : (H : Type) → List (DataW H) → Bool := fun _ ds => decide (uptoBulkAll ds ≤ 1048576)
def OpenSpec.upto (s : _root_.Go.ChangeSpec) : _root_.Go.OpenSpec := { _root_.Go.OpenSpec.ofChange s with cond := some uptoSmall }

/-- 'weighbridgelaw19.MaglevTables', WHERE WHAT IT READS IS OF BULK AT MOST 1048576: true; the input reads as it did. -/
def maglevTablesUptoRow : OpenClaim := { program := "ytfchmmojhfjibaa", sum := "7fc342d39de9a0ff0e046ea2b0420563c7dccf85e93b69cef7c5daed2cd999fb", func := "weighbridge/weighbridgelaw19.MaglevTables", spec := "maglevTables", inPlace := ["internal/bytealg.abigen_runtime_cmpstring"], unfollowed := true, recurses := true, apart := false, narrowed := true }
def MaglevTablesUptoSaid : Prop := maglevTablesUptoRow.holds Try.pinned (OpenSpec.upto maglevTablesSpec)

/-- 'weighbridgelaw19.MaglevShares', WHERE WHAT IT READS IS OF BULK AT MOST 1048576: true; the input reads as it did. -/
def maglevSharesUptoRow : OpenClaim := { program := "ytfchmmojhfjibaa", sum := "7fc342d39de9a0ff0e046ea2b0420563c7dccf85e93b69cef7c5daed2cd999fb", func := "weighbridge/weighbridgelaw19.MaglevShares", spec := "maglevShares", inPlace := ["internal/bytealg.abigen_runtime_cmpstring"], unfollowed := true, recurses := true, apart := false, narrowed := true }
def MaglevSharesUptoSaid : Prop := maglevSharesUptoRow.holds Try.pinned (OpenSpec.upto maglevSharesSpec)

/-- 'weighbridgelaw19.MaglevSet', WHERE WHAT IT READS IS OF BULK AT MOST 1048576: true; the input reads as it did. -/
def maglevSetUptoRow : OpenClaim := { program := "ytfchmmojhfjibaa", sum := "7fc342d39de9a0ff0e046ea2b0420563c7dccf85e93b69cef7c5daed2cd999fb", func := "weighbridge/weighbridgelaw19.MaglevSet", spec := "maglevSet", inPlace := ["internal/bytealg.abigen_runtime_cmpstring"], unfollowed := true, recurses := true, apart := false, narrowed := true }
def MaglevSetUptoSaid : Prop := maglevSetUptoRow.holds Try.pinned (OpenSpec.upto maglevSetSpec)

end Rows
end Go.Proofs.Ytfchmmojhfjibaa
