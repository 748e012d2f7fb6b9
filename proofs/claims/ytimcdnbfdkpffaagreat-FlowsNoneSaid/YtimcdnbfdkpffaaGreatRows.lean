/-
  No cell of these rows narrows 'for every input' (looked for: loops, veiled, ifaces, maps, wideKeys, modest, calm, conditions, laid).
  DERIVED. THE GIVEN ROWS OF THIS SEAT. 3 by the template 'for every input the law returns true; each argument reads behind the call as it read before'; 0 by the template 'total and deterministic' (their statements: YtimcdnbfdkpffaaGreatTotals.lean).
  GIVEN WITH THE SEED: the statements are not yours to turn. If you find one false, say at which input.
  Laid BY PROGRAM, IN A SANDBOX (cutbox-rows.mjs): the forced cells as the released guide's own fill.sh prints them over the translation ef6b9454899e1d67… (all of the seat's roots in one cut). By AI agents, Wed Nov 11 2026. No macro, syntax, notation, axiom, sorry.
-/
import Derived.Test.YtimcdnbfdkpffaaGreatChecked
import GoSem.Claim
import GoSem.ClaimJoined
import GoSem.ClaimMapViews
import Derived.JoinedTies
import Derived.KernelRfl
namespace Go.Proofs.YtimcdnbfdkpffaaGreat
/- THE CELL 'sum', in the pinned program and in every row, IS THE sha256 OF THE DUMP (.gsa) THAT YtimcdnbfdkpffaaGreatProg.lean LOADS. Nothing in Lean hashes anything: it is a label: what it is worth is what the hold of that sum in a sandbox is worth. -/
noncomputable def Tryz.pinned : Pinned := { name := "ytimcdnbfdkpffaagreat", sum := "ef6b9454899e1d6705f235a824eeaf776a293c21b7be4a1990d32b6ca0e0d177", checked := Tryz.checked }
namespace Rows
def none {H : Type} : Left H := { results := [], args := [] }

/-- 'weighbridgelaw16.FlowsPlay': WHATEVER THE INPUT: true; the input reads as it did. -/
def flowsPlaySpec : ChangeSpec := { name := "flowsPlay", fn := fun _ => fun
  | [d1, d2, d3, d4] => { results := [.lit (.bool true)], args := [d1, d2, d3, d4] }
  | _ => none }
def flowsPlayRow : OpenClaim := { program := "ytimcdnbfdkpffaagreat", sum := "ef6b9454899e1d6705f235a824eeaf776a293c21b7be4a1990d32b6ca0e0d177", func := "weighbridge/weighbridgelaw16.FlowsPlay", spec := "flowsPlay", unfollowed := true, recurses := true, apart := false }
def FlowsPlaySaid : Prop := flowsPlayRow.holds Tryz.pinned (OpenSpec.ofChange flowsPlaySpec)

/-- ITS FALSE NEIGHBOUR: 'it returns false'. Refute it at one input. -/
def flowsPlayWrong : ChangeSpec := { name := "flowsPlay", fn := fun _ => fun
  | [d1, d2, d3, d4] => { results := [.lit (.bool false)], args := [d1, d2, d3, d4] }
  | _ => none }
def FlowsPlayWrongFalsely : Prop := flowsPlayRow.holds Tryz.pinned (OpenSpec.ofChange flowsPlayWrong)

/-- 'weighbridgelaw16.FlowsLast': WHATEVER THE INPUT: true; the input reads as it did. -/
def flowsLastSpec : ChangeSpec := { name := "flowsLast", fn := fun _ => fun
  | [d1, d2, d3] => { results := [.lit (.bool true)], args := [d1, d2, d3] }
  | _ => none }
def flowsLastRow : OpenClaim := { program := "ytimcdnbfdkpffaagreat", sum := "ef6b9454899e1d6705f235a824eeaf776a293c21b7be4a1990d32b6ca0e0d177", func := "weighbridge/weighbridgelaw16.FlowsLast", spec := "flowsLast", unfollowed := true, recurses := true, apart := false }
def FlowsLastSaid : Prop := flowsLastRow.holds Tryz.pinned (OpenSpec.ofChange flowsLastSpec)

/-- ITS FALSE NEIGHBOUR: 'it returns false'. Refute it at one input. -/
def flowsLastWrong : ChangeSpec := { name := "flowsLast", fn := fun _ => fun
  | [d1, d2, d3] => { results := [.lit (.bool false)], args := [d1, d2, d3] }
  | _ => none }
def FlowsLastWrongFalsely : Prop := flowsLastRow.holds Tryz.pinned (OpenSpec.ofChange flowsLastWrong)

/-- 'weighbridgelaw16.FlowsNone': WHATEVER THE INPUT: true; the input reads as it did. -/
def flowsNoneSpec : ChangeSpec := { name := "flowsNone", fn := fun _ => fun
  | [d1, d2] => { results := [.lit (.bool true)], args := [d1, d2] }
  | _ => none }
def flowsNoneRow : OpenClaim := { program := "ytimcdnbfdkpffaagreat", sum := "ef6b9454899e1d6705f235a824eeaf776a293c21b7be4a1990d32b6ca0e0d177", func := "weighbridge/weighbridgelaw16.FlowsNone", spec := "flowsNone", unfollowed := true, recurses := true, apart := false }
def FlowsNoneSaid : Prop := flowsNoneRow.holds Tryz.pinned (OpenSpec.ofChange flowsNoneSpec)

/-- ITS FALSE NEIGHBOUR: 'it returns false'. Refute it at one input. -/
def flowsNoneWrong : ChangeSpec := { name := "flowsNone", fn := fun _ => fun
  | [d1, d2] => { results := [.lit (.bool false)], args := [d1, d2] }
  | _ => none }
def FlowsNoneWrongFalsely : Prop := flowsNoneRow.holds Tryz.pinned (OpenSpec.ofChange flowsNoneWrong)

/- THE SECOND FORM. 'bulk': how many values and letters a reading holds, each counted each time it is reached (what is shared counts as often as it is met; a slice's spare places count too). A statement '..UptoSaid' is the law's where the arguments, and the package variables that the reading takes, are together of bulk at most 1048576: NARROWER than '..Said'. Prove '..Said' where nothing that the law and all that it calls make is longer than what came in: it says more and counts as full. Else prove '..UptoSaid'. A law counts once. -/
mutual
def uptoBulk {H : Type} : DataW H → Nat
  | .lit (.string bytes) => bytes.length + 1
  | .lit _ => 1
  | .nil => 1
  | .ptr d => uptoBulk d + 1
  | .slice elems spare => uptoBulkAll elems + uptoBulkAll spare + 1
  | .agg parts => uptoBulkAll parts + 1
  | .iface _ d => uptoBulk d + 1
  | .map entries => uptoBulkEntries entries + 1
  | .held _ => 1
def uptoBulkAll {H : Type} : List (DataW H) → Nat
  | [] => 0
  | d :: r => uptoBulk d + uptoBulkAll r
def uptoBulkEntries {H : Type} : List (Lit × DataW H) → Nat
  | [] => 0
  | x :: r => uptoBulkEntry x + uptoBulkEntries r
def uptoBulkEntry {H : Type} : Lit × DataW H → Nat
  | (.string bytes, d) => bytes.length + uptoBulk d + 1
  | (_, d) => uptoBulk d + 1
 end
def uptoSmall : (H : Type) → List (DataW H) → Bool := fun _ ds => decide (uptoBulkAll ds ≤ 1048576)
def OpenSpec.upto (s : _root_.Go.ChangeSpec) : _root_.Go.OpenSpec := { _root_.Go.OpenSpec.ofChange s with cond := some uptoSmall }

/-- 'weighbridgelaw16.FlowsPlay', WHERE WHAT IT READS IS OF BULK AT MOST 1048576: true; the input reads as it did. -/
def flowsPlayUptoRow : OpenClaim := { program := "ytimcdnbfdkpffaagreat", sum := "ef6b9454899e1d6705f235a824eeaf776a293c21b7be4a1990d32b6ca0e0d177", func := "weighbridge/weighbridgelaw16.FlowsPlay", spec := "flowsPlay", unfollowed := true, recurses := true, apart := false, narrowed := true }
def FlowsPlayUptoSaid : Prop := flowsPlayUptoRow.holds Tryz.pinned (OpenSpec.upto flowsPlaySpec)

/-- 'weighbridgelaw16.FlowsLast', WHERE WHAT IT READS IS OF BULK AT MOST 1048576: true; the input reads as it did. -/
def flowsLastUptoRow : OpenClaim := { program := "ytimcdnbfdkpffaagreat", sum := "ef6b9454899e1d6705f235a824eeaf776a293c21b7be4a1990d32b6ca0e0d177", func := "weighbridge/weighbridgelaw16.FlowsLast", spec := "flowsLast", unfollowed := true, recurses := true, apart := false, narrowed := true }
def FlowsLastUptoSaid : Prop := flowsLastUptoRow.holds Tryz.pinned (OpenSpec.upto flowsLastSpec)

/-- 'weighbridgelaw16.FlowsNone', WHERE WHAT IT READS IS OF BULK AT MOST 1048576: true; the input reads as it did. -/
def flowsNoneUptoRow : OpenClaim := { program := "ytimcdnbfdkpffaagreat", sum := "ef6b9454899e1d6705f235a824eeaf776a293c21b7be4a1990d32b6ca0e0d177", func := "weighbridge/weighbridgelaw16.FlowsNone", spec := "flowsNone", unfollowed := true, recurses := true, apart := false, narrowed := true }
def FlowsNoneUptoSaid : Prop := flowsNoneUptoRow.holds Tryz.pinned (OpenSpec.upto flowsNoneSpec)

end Rows
end Go.Proofs.YtimcdnbfdkpffaaGreat
