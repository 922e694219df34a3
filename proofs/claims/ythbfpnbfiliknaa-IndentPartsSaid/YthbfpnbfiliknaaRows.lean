/-
  No cell of these rows narrows 'for every input' (looked for: loops, veiled, ifaces, maps, wideKeys, modest, calm, conditions, laid).
  DERIVED. THE GIVEN ROWS OF THIS SEAT. 6 by the template 'for every input the law returns true; each argument reads behind the call as it read before'; 0 by the template 'total and deterministic' (their statements: YthbfpnbfiliknaaTotals.lean).
  GIVEN WITH THE SEED: the statements are not yours to turn. If you find one false, say at which input.
  Laid BY PROGRAM, IN A SANDBOX (cutbox-rows.mjs): the forced cells as the released guide's own fill.sh prints them over the translation 095fbd2cbf6889f0… (all of the seat's roots in one cut). By AI agents, Wed Nov 11 2026. No macro, syntax, notation, axiom, sorry.
-/
import Derived.Test.YthbfpnbfiliknaaChecked
import GoSem.Claim
import GoSem.ClaimJoined
import GoSem.ClaimMapViews
import Derived.JoinedTies
import Derived.KernelRfl
namespace Go.Proofs.Ythbfpnbfiliknaa
/- THE CELL 'sum', in the pinned program and in every row, IS THE sha256 OF THE DUMP (.gsa) THAT YthbfpnbfiliknaaProg.lean LOADS. Nothing in Lean hashes anything: it is a label: what it is worth is what the hold of that sum in a sandbox is worth. -/
noncomputable def Try.pinned : Pinned := { name := "ythbfpnbfiliknaa", sum := "095fbd2cbf6889f0d3b40e065bc86ab4b427a1220b76e10517ceec204edd0bfd", checked := Try.checked }
namespace Rows
def none {H : Type} : Left H := { results := [], args := [] }

/-- 'rootstocklaw11.IndentSteps': WHATEVER THE INPUT: true; the input reads as it did. -/
def indentStepsSpec : ChangeSpec := { name := "indentSteps", fn := fun _ => fun
  | [d1, d2, d3] => { results := [.lit (.bool true)], args := [d1, d2, d3] }
  | _ => none }
def indentStepsRow : OpenClaim := { program := "ythbfpnbfiliknaa", sum := "095fbd2cbf6889f0d3b40e065bc86ab4b427a1220b76e10517ceec204edd0bfd", func := "rootstock/rootstocklaw11.IndentSteps", spec := "indentSteps", apart := false }
def IndentStepsSaid : Prop := indentStepsRow.holds Try.pinned (OpenSpec.ofChange indentStepsSpec)

/-- ITS FALSE NEIGHBOUR: 'it returns false'. Refute it at one input. -/
def indentStepsWrong : ChangeSpec := { name := "indentSteps", fn := fun _ => fun
  | [d1, d2, d3] => { results := [.lit (.bool false)], args := [d1, d2, d3] }
  | _ => none }
def IndentStepsWrongFalsely : Prop := indentStepsRow.holds Try.pinned (OpenSpec.ofChange indentStepsWrong)

/-- 'rootstocklaw11.IndentEnds': WHATEVER THE INPUT: true; the input reads as it did. -/
def indentEndsSpec : ChangeSpec := { name := "indentEnds", fn := fun _ => fun
  | [d] => { results := [.lit (.bool true)], args := [d] }
  | _ => none }
def indentEndsRow : OpenClaim := { program := "ythbfpnbfiliknaa", sum := "095fbd2cbf6889f0d3b40e065bc86ab4b427a1220b76e10517ceec204edd0bfd", func := "rootstock/rootstocklaw11.IndentEnds", spec := "indentEnds", apart := false }
def IndentEndsSaid : Prop := indentEndsRow.holds Try.pinned (OpenSpec.ofChange indentEndsSpec)

/-- ITS FALSE NEIGHBOUR: 'it returns false'. Refute it at one input. -/
def indentEndsWrong : ChangeSpec := { name := "indentEnds", fn := fun _ => fun
  | [d] => { results := [.lit (.bool false)], args := [d] }
  | _ => none }
def IndentEndsWrongFalsely : Prop := indentEndsRow.holds Try.pinned (OpenSpec.ofChange indentEndsWrong)

/-- 'rootstocklaw11.IndentAlls': WHATEVER THE INPUT: true; the input reads as it did. -/
def indentAllsSpec : ChangeSpec := { name := "indentAlls", fn := fun _ => fun
  | [d1, d2] => { results := [.lit (.bool true)], args := [d1, d2] }
  | _ => none }
def indentAllsRow : OpenClaim := { program := "ythbfpnbfiliknaa", sum := "095fbd2cbf6889f0d3b40e065bc86ab4b427a1220b76e10517ceec204edd0bfd", func := "rootstock/rootstocklaw11.IndentAlls", spec := "indentAlls", apart := false }
def IndentAllsSaid : Prop := indentAllsRow.holds Try.pinned (OpenSpec.ofChange indentAllsSpec)

/-- ITS FALSE NEIGHBOUR: 'it returns false'. Refute it at one input. -/
def indentAllsWrong : ChangeSpec := { name := "indentAlls", fn := fun _ => fun
  | [d1, d2] => { results := [.lit (.bool false)], args := [d1, d2] }
  | _ => none }
def IndentAllsWrongFalsely : Prop := indentAllsRow.holds Try.pinned (OpenSpec.ofChange indentAllsWrong)

/-- 'rootstocklaw11.IndentWhole': WHATEVER THE INPUT: true; the input reads as it did. -/
def indentWholeSpec : ChangeSpec := { name := "indentWhole", fn := fun _ => fun
  | [d1, d2] => { results := [.lit (.bool true)], args := [d1, d2] }
  | _ => none }
def indentWholeRow : OpenClaim := { program := "ythbfpnbfiliknaa", sum := "095fbd2cbf6889f0d3b40e065bc86ab4b427a1220b76e10517ceec204edd0bfd", func := "rootstock/rootstocklaw11.IndentWhole", spec := "indentWhole", apart := false }
def IndentWholeSaid : Prop := indentWholeRow.holds Try.pinned (OpenSpec.ofChange indentWholeSpec)

/-- ITS FALSE NEIGHBOUR: 'it returns false'. Refute it at one input. -/
def indentWholeWrong : ChangeSpec := { name := "indentWhole", fn := fun _ => fun
  | [d1, d2] => { results := [.lit (.bool false)], args := [d1, d2] }
  | _ => none }
def IndentWholeWrongFalsely : Prop := indentWholeRow.holds Try.pinned (OpenSpec.ofChange indentWholeWrong)

/-- 'rootstocklaw11.IndentParts': WHATEVER THE INPUT: true; the input reads as it did. -/
def indentPartsSpec : ChangeSpec := { name := "indentParts", fn := fun _ => fun
  | [d1, d2] => { results := [.lit (.bool true)], args := [d1, d2] }
  | _ => none }
def indentPartsRow : OpenClaim := { program := "ythbfpnbfiliknaa", sum := "095fbd2cbf6889f0d3b40e065bc86ab4b427a1220b76e10517ceec204edd0bfd", func := "rootstock/rootstocklaw11.IndentParts", spec := "indentParts", apart := false }
def IndentPartsSaid : Prop := indentPartsRow.holds Try.pinned (OpenSpec.ofChange indentPartsSpec)

/-- ITS FALSE NEIGHBOUR: 'it returns false'. Refute it at one input. -/
def indentPartsWrong : ChangeSpec := { name := "indentParts", fn := fun _ => fun
  | [d1, d2] => { results := [.lit (.bool false)], args := [d1, d2] }
  | _ => none }
def IndentPartsWrongFalsely : Prop := indentPartsRow.holds Try.pinned (OpenSpec.ofChange indentPartsWrong)

/-- 'rootstocklaw11.IndentOpen': WHATEVER THE INPUT: true; the input reads as it did. -/
def indentOpenSpec : ChangeSpec := { name := "indentOpen", fn := fun _ => fun
  | [d1, d2] => { results := [.lit (.bool true)], args := [d1, d2] }
  | _ => none }
def indentOpenRow : OpenClaim := { program := "ythbfpnbfiliknaa", sum := "095fbd2cbf6889f0d3b40e065bc86ab4b427a1220b76e10517ceec204edd0bfd", func := "rootstock/rootstocklaw11.IndentOpen", spec := "indentOpen", apart := false }
def IndentOpenSaid : Prop := indentOpenRow.holds Try.pinned (OpenSpec.ofChange indentOpenSpec)

/-- ITS FALSE NEIGHBOUR: 'it returns false'. Refute it at one input. -/
def indentOpenWrong : ChangeSpec := { name := "indentOpen", fn := fun _ => fun
  | [d1, d2] => { results := [.lit (.bool false)], args := [d1, d2] }
  | _ => none }
def IndentOpenWrongFalsely : Prop := indentOpenRow.holds Try.pinned (OpenSpec.ofChange indentOpenWrong)

/- THE SECOND FORM. 'bulk': how many values and letters a reading holds, each counted each time it is reached (what is shared counts as often as it is met; a slice's spare places count too). A statement '..UptoSaid' is the law's where the arguments, and the package variables that the reading takes, are together of bulk at most 1048576: NARROWER than '..Said'. Prove '..Said' where nothing that the law and all that it calls make is longer than what came in: it says more and counts as full. Else prove '..UptoSaid'. A law counts once. -/
mutual
def uptoBulk {H : Type} : DataW H → Nat
  | .lit (.string bytes) => bytes.length + 1
  | .lit _ => 1
  | .nil => 1
  | .ptr d => uptoBulk d + 1
  | .slice elems spare => uptoBulkAll elems + uptoBulkAll spare + 1
  | .agg parts => uptoBulkAll parts + 1
  | .iface _ d => uptoBulk d + 1
  | .map entries => uptoBulkEntries entries + 1
  | .held _ => 1
def uptoBulkAll {H : Type} : List (DataW H) → Nat
  | [] => 0
  | d :: r => uptoBulk d + uptoBulkAll r
def uptoBulkEntries {H : Type} : List (Lit × DataW H) → Nat
  | [] => 0
  | x :: r => uptoBulkEntry x + uptoBulkEntries r
def uptoBulkEntry {H : Type} : Lit × DataW H → Nat
  | (.string bytes, d) => bytes.length + uptoBulk d + 1
  | (_, d) => uptoBulk d + 1
 end
def uptoSmall : (H : Type) → List (DataW H) → Bool := fun _ ds => decide (uptoBulkAll ds ≤ 1048576)
def OpenSpec.upto (s : _root_.Go.ChangeSpec) : _root_.Go.OpenSpec := { _root_.Go.OpenSpec.ofChange s with cond := some uptoSmall }

/-- 'rootstocklaw11.IndentSteps', WHERE WHAT IT READS IS OF BULK AT MOST 1048576: true; the input reads as it did. -/
def indentStepsUptoRow : OpenClaim := { program := "ythbfpnbfiliknaa", sum := "095fbd2cbf6889f0d3b40e065bc86ab4b427a1220b76e10517ceec204edd0bfd", func := "rootstock/rootstocklaw11.IndentSteps", spec := "indentSteps", apart := false, narrowed := true }
def IndentStepsUptoSaid : Prop := indentStepsUptoRow.holds Try.pinned (OpenSpec.upto indentStepsSpec)

/-- 'rootstocklaw11.IndentEnds', WHERE WHAT IT READS IS OF BULK AT MOST 1048576: true; the input reads as it did. -/
def indentEndsUptoRow : OpenClaim := { program := "ythbfpnbfiliknaa", sum := "095fbd2cbf6889f0d3b40e065bc86ab4b427a1220b76e10517ceec204edd0bfd", func := "rootstock/rootstocklaw11.IndentEnds", spec := "indentEnds", apart := false, narrowed := true }
def IndentEndsUptoSaid : Prop := indentEndsUptoRow.holds Try.pinned (OpenSpec.upto indentEndsSpec)

/-- 'rootstocklaw11.IndentAlls', WHERE WHAT IT READS IS OF BULK AT MOST 1048576: true; the input reads as it did. -/
def indentAllsUptoRow : OpenClaim := { program := "ythbfpnbfiliknaa", sum := "095fbd2cbf6889f0d3b40e065bc86ab4b427a1220b76e10517ceec204edd0bfd", func := "rootstock/rootstocklaw11.IndentAlls", spec := "indentAlls", apart := false, narrowed := true }
def IndentAllsUptoSaid : Prop := indentAllsUptoRow.holds Try.pinned (OpenSpec.upto indentAllsSpec)

/-- 'rootstocklaw11.IndentWhole', WHERE WHAT IT READS IS OF BULK AT MOST 1048576: true; the input reads as it did. -/
def indentWholeUptoRow : OpenClaim := { program := "ythbfpnbfiliknaa", sum := "095fbd2cbf6889f0d3b40e065bc86ab4b427a1220b76e10517ceec204edd0bfd", func := "rootstock/rootstocklaw11.IndentWhole", spec := "indentWhole", apart := false, narrowed := true }
def IndentWholeUptoSaid : Prop := indentWholeUptoRow.holds Try.pinned (OpenSpec.upto indentWholeSpec)

/-- 'rootstocklaw11.IndentParts', WHERE WHAT IT READS IS OF BULK AT MOST 1048576: true; the input reads as it did. -/
def indentPartsUptoRow : OpenClaim := { program := "ythbfpnbfiliknaa", sum := "095fbd2cbf6889f0d3b40e065bc86ab4b427a1220b76e10517ceec204edd0bfd", func := "rootstock/rootstocklaw11.IndentParts", spec := "indentParts", apart := false, narrowed := true }
def IndentPartsUptoSaid : Prop := indentPartsUptoRow.holds Try.pinned (OpenSpec.upto indentPartsSpec)

/-- 'rootstocklaw11.IndentOpen', WHERE WHAT IT READS IS OF BULK AT MOST 1048576: true; the input reads as it did. -/
def indentOpenUptoRow : OpenClaim := { program := "ythbfpnbfiliknaa", sum := "095fbd2cbf6889f0d3b40e065bc86ab4b427a1220b76e10517ceec204edd0bfd", func := "rootstock/rootstocklaw11.IndentOpen", spec := "indentOpen", apart := false, narrowed := true }
def IndentOpenUptoSaid : Prop := indentOpenUptoRow.holds Try.pinned (OpenSpec.upto indentOpenSpec)

end Rows
end Go.Proofs.Ythbfpnbfiliknaa
