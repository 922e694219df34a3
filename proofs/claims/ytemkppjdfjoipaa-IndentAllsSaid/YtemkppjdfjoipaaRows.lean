/-
  NARROWER THAN 'FOR EVERY INPUT', by the rows' own cells (each row's printed sentence says how): RelexBack: loops · RelexEnds: loops · RelexNothing: loops.
  DERIVED. THE GIVEN ROWS OF THIS SEAT. 5 by the template 'for every input the law returns true; each argument reads behind the call as it read before'; 0 by the template 'total and deterministic' (their statements: YtemkppjdfjoipaaTotals.lean).
  GIVEN WITH THE SEED: the statements are not yours to turn. If you find one false, say at which input.
  Laid BY PROGRAM, IN A SANDBOX (cutbox-rows.mjs): the forced cells as the released guide's own fill.sh prints them over the translation 86a535d7a5b6a3e0… (all of the seat's roots in one cut). By AI agents, Wed Nov 11 2026. No macro, syntax, notation, axiom, sorry.
-/
import Derived.Test.YtemkppjdfjoipaaChecked
import GoSem.Claim
import GoSem.ClaimJoined
import GoSem.ClaimMapViews
import Derived.JoinedTies
import Derived.KernelRfl
namespace Go.Proofs.Ytemkppjdfjoipaa
/- THE CELL 'sum', in the pinned program and in every row, IS THE sha256 OF THE DUMP (.gsa) THAT YtemkppjdfjoipaaProg.lean LOADS. Nothing in Lean hashes anything: it is a label: what it is worth is what the hold of that sum in a sandbox is worth. -/
noncomputable def Try.pinned : Pinned := { name := "ytemkppjdfjoipaa", sum := "86a535d7a5b6a3e02062594eaf1a1aea150ce053f77d94079ff431f771ada568", checked := Try.checked }
namespace Rows
def none {H : Type} : Left H := { results := [], args := [] }

/-- 'rootstocklaw11.IndentAlls': WHATEVER THE INPUT: true; the input reads as it did. -/
def indentAllsSpec : ChangeSpec := { name := "indentAlls", fn := fun _ => fun
  | [d1, d2] => { results := [.lit (.bool true)], args := [d1, d2] }
  | _ => none }
def indentAllsRow : OpenClaim := { program := "ytemkppjdfjoipaa", sum := "86a535d7a5b6a3e02062594eaf1a1aea150ce053f77d94079ff431f771ada568", func := "rootstock/rootstocklaw11.IndentAlls", spec := "indentAlls", apart := false }
def IndentAllsSaid : Prop := indentAllsRow.holds Try.pinned (OpenSpec.ofChange indentAllsSpec)

/-- ITS FALSE NEIGHBOUR: 'it returns false'. Refute it at one input. -/
def indentAllsWrong : ChangeSpec := { name := "indentAlls", fn := fun _ => fun
  | [d1, d2] => { results := [.lit (.bool false)], args := [d1, d2] }
  | _ => none }
def IndentAllsWrongFalsely : Prop := indentAllsRow.holds Try.pinned (OpenSpec.ofChange indentAllsWrong)

/-- 'rootstocklaw12.RelexNil': WHATEVER THE INPUT: true; the input reads as it did. -/
def relexNilSpec : ChangeSpec := { name := "relexNil", fn := fun _ => fun
  | [d] => { results := [.lit (.bool true)], args := [d] }
  | _ => none }
def relexNilRow : OpenClaim := { program := "ytemkppjdfjoipaa", sum := "86a535d7a5b6a3e02062594eaf1a1aea150ce053f77d94079ff431f771ada568", func := "rootstock/rootstocklaw12.RelexNil", spec := "relexNil", inPlace := ["internal/abi.NoEscape", "internal/bytealg.MakeNoZero"], unfollowed := true, recurses := true, apart := false }
def RelexNilSaid : Prop := relexNilRow.holds Try.pinned (OpenSpec.ofChange relexNilSpec)

/-- ITS FALSE NEIGHBOUR: 'it returns false'. Refute it at one input. -/
def relexNilWrong : ChangeSpec := { name := "relexNil", fn := fun _ => fun
  | [d] => { results := [.lit (.bool false)], args := [d] }
  | _ => none }
def RelexNilWrongFalsely : Prop := relexNilRow.holds Try.pinned (OpenSpec.ofChange relexNilWrong)

/-- 'rootstocklaw12.RelexBack': WHATEVER THE INPUT: true; the input reads as it did. -/
def relexBackSpec : ChangeSpec := { name := "relexBack", fn := fun _ => fun
  | [d1, d2, d3] => { results := [.lit (.bool true)], args := [d1, d2, d3] }
  | _ => none }
def relexBackRow : OpenClaim := { program := "ytemkppjdfjoipaa", sum := "86a535d7a5b6a3e02062594eaf1a1aea150ce053f77d94079ff431f771ada568", func := "rootstock/rootstocklaw12.RelexBack", spec := "relexBack", inPlace := ["internal/abi.NoEscape", "internal/bytealg.MakeNoZero"], unfollowed := true, recurses := true, loops := true, apart := false }
def RelexBackSaid : Prop := relexBackRow.holds Try.pinned (OpenSpec.ofChange relexBackSpec)

/-- ITS FALSE NEIGHBOUR: 'it returns false'. Refute it at one input. -/
def relexBackWrong : ChangeSpec := { name := "relexBack", fn := fun _ => fun
  | [d1, d2, d3] => { results := [.lit (.bool false)], args := [d1, d2, d3] }
  | _ => none }
def RelexBackWrongFalsely : Prop := relexBackRow.holds Try.pinned (OpenSpec.ofChange relexBackWrong)

/-- 'rootstocklaw12.RelexEnds': WHATEVER THE INPUT: true; the input reads as it did. -/
def relexEndsSpec : ChangeSpec := { name := "relexEnds", fn := fun _ => fun
  | [d1, d2, d3] => { results := [.lit (.bool true)], args := [d1, d2, d3] }
  | _ => none }
def relexEndsRow : OpenClaim := { program := "ytemkppjdfjoipaa", sum := "86a535d7a5b6a3e02062594eaf1a1aea150ce053f77d94079ff431f771ada568", func := "rootstock/rootstocklaw12.RelexEnds", spec := "relexEnds", inPlace := ["internal/abi.NoEscape", "internal/bytealg.MakeNoZero"], unfollowed := true, recurses := true, loops := true, apart := false }
def RelexEndsSaid : Prop := relexEndsRow.holds Try.pinned (OpenSpec.ofChange relexEndsSpec)

/-- ITS FALSE NEIGHBOUR: 'it returns false'. Refute it at one input. -/
def relexEndsWrong : ChangeSpec := { name := "relexEnds", fn := fun _ => fun
  | [d1, d2, d3] => { results := [.lit (.bool false)], args := [d1, d2, d3] }
  | _ => none }
def RelexEndsWrongFalsely : Prop := relexEndsRow.holds Try.pinned (OpenSpec.ofChange relexEndsWrong)

/-- 'rootstocklaw12.RelexNothing': WHATEVER THE INPUT: true; the input reads as it did. -/
def relexNothingSpec : ChangeSpec := { name := "relexNothing", fn := fun _ => fun
  | [d1, d2, d3] => { results := [.lit (.bool true)], args := [d1, d2, d3] }
  | _ => none }
def relexNothingRow : OpenClaim := { program := "ytemkppjdfjoipaa", sum := "86a535d7a5b6a3e02062594eaf1a1aea150ce053f77d94079ff431f771ada568", func := "rootstock/rootstocklaw12.RelexNothing", spec := "relexNothing", inPlace := ["internal/abi.NoEscape", "internal/bytealg.MakeNoZero"], unfollowed := true, recurses := true, loops := true, apart := false }
def RelexNothingSaid : Prop := relexNothingRow.holds Try.pinned (OpenSpec.ofChange relexNothingSpec)

/-- ITS FALSE NEIGHBOUR: 'it returns false'. Refute it at one input. -/
def relexNothingWrong : ChangeSpec := { name := "relexNothing", fn := fun _ => fun
  | [d1, d2, d3] => { results := [.lit (.bool false)], args := [d1, d2, d3] }
  | _ => none }
def RelexNothingWrongFalsely : Prop := relexNothingRow.holds Try.pinned (OpenSpec.ofChange relexNothingWrong)

/- THE SECOND FORM. 'bulk': how many values and letters a reading holds, each counted each time it is reached (what is shared counts as often as it is met; a slice's spare places count too). A statement '..UptoSaid' is the law's where the arguments, and the package variables that the reading takes, are together of bulk at most 1048576: NARROWER than '..Said'. Prove '..Said' where nothing that the law and all that it calls make is longer than what came in: it says more and counts as full. Else prove '..UptoSaid'. A law counts once. -/
mutual
def uptoBulk {H : Type} : DataW H → Nat
  | .lit (.string bytes) => bytes.length + 1
  | .lit _ => 1
  | .nil => 1
  | .ptr d => uptoBulk d + 1
  | .slice elems spare => uptoBulkAll elems + uptoBulkAll spare + 1
  | .agg parts => uptoBulkAll parts + 1
  | .iface _ d => uptoBulk d + 1
  | .map entries => uptoBulkEntries entries + 1
  | .held _ => 1
def uptoBulkAll {H : Type} : List (DataW H) → Nat
  | [] => 0
  | d :: r => uptoBulk d + uptoBulkAll r
def uptoBulkEntries {H : Type} : List (Lit × DataW H) → Nat
  | [] => 0
  | x :: r => uptoBulkEntry x + uptoBulkEntries r
def uptoBulkEntry {H : Type} : Lit × DataW H → Nat
  | (.string bytes, d) => bytes.length + uptoBulk d + 1
  | (_, d) => uptoBulk d + 1
 end
def uptoSmall : (H : Type) → List (DataW H) → Bool := fun _ ds => decide (uptoBulkAll ds ≤ 1048576)
def OpenSpec.upto (s : _root_.Go.ChangeSpec) : _root_.Go.OpenSpec := { _root_.Go.OpenSpec.ofChange s with cond := some uptoSmall }

/-- 'rootstocklaw11.IndentAlls', WHERE WHAT IT READS IS OF BULK AT MOST 1048576: true; the input reads as it did. -/
def indentAllsUptoRow : OpenClaim := { program := "ytemkppjdfjoipaa", sum := "86a535d7a5b6a3e02062594eaf1a1aea150ce053f77d94079ff431f771ada568", func := "rootstock/rootstocklaw11.IndentAlls", spec := "indentAlls", apart := false, narrowed := true }
def IndentAllsUptoSaid : Prop := indentAllsUptoRow.holds Try.pinned (OpenSpec.upto indentAllsSpec)

/-- 'rootstocklaw12.RelexNil', WHERE WHAT IT READS IS OF BULK AT MOST 1048576: true; the input reads as it did. -/
def relexNilUptoRow : OpenClaim := { program := "ytemkppjdfjoipaa", sum := "86a535d7a5b6a3e02062594eaf1a1aea150ce053f77d94079ff431f771ada568", func := "rootstock/rootstocklaw12.RelexNil", spec := "relexNil", inPlace := ["internal/abi.NoEscape", "internal/bytealg.MakeNoZero"], unfollowed := true, recurses := true, apart := false, narrowed := true }
def RelexNilUptoSaid : Prop := relexNilUptoRow.holds Try.pinned (OpenSpec.upto relexNilSpec)

/-- 'rootstocklaw12.RelexBack', WHERE WHAT IT READS IS OF BULK AT MOST 1048576: true; the input reads as it did. -/
def relexBackUptoRow : OpenClaim := { program := "ytemkppjdfjoipaa", sum := "86a535d7a5b6a3e02062594eaf1a1aea150ce053f77d94079ff431f771ada568", func := "rootstock/rootstocklaw12.RelexBack", spec := "relexBack", inPlace := ["internal/abi.NoEscape", "internal/bytealg.MakeNoZero"], unfollowed := true, recurses := true, loops := true, apart := false, narrowed := true }
def RelexBackUptoSaid : Prop := relexBackUptoRow.holds Try.pinned (OpenSpec.upto relexBackSpec)

/-- 'rootstocklaw12.RelexEnds', WHERE WHAT IT READS IS OF BULK AT MOST 1048576: true; the input reads as it did. -/
def relexEndsUptoRow : OpenClaim := { program := "ytemkppjdfjoipaa", sum := "86a535d7a5b6a3e02062594eaf1a1aea150ce053f77d94079ff431f771ada568", func := "rootstock/rootstocklaw12.RelexEnds", spec := "relexEnds", inPlace := ["internal/abi.NoEscape", "internal/bytealg.MakeNoZero"], unfollowed := true, recurses := true, loops := true, apart := false, narrowed := true }
def RelexEndsUptoSaid : Prop := relexEndsUptoRow.holds Try.pinned (OpenSpec.upto relexEndsSpec)

/-- 'rootstocklaw12.RelexNothing', WHERE WHAT IT READS IS OF BULK AT MOST 1048576: true; the input reads as it did. -/
def relexNothingUptoRow : OpenClaim := { program := "ytemkppjdfjoipaa", sum := "86a535d7a5b6a3e02062594eaf1a1aea150ce053f77d94079ff431f771ada568", func := "rootstock/rootstocklaw12.RelexNothing", spec := "relexNothing", inPlace := ["internal/abi.NoEscape", "internal/bytealg.MakeNoZero"], unfollowed := true, recurses := true, loops := true, apart := false, narrowed := true }
def RelexNothingUptoSaid : Prop := relexNothingUptoRow.holds Try.pinned (OpenSpec.upto relexNothingSpec)

end Rows
end Go.Proofs.Ytemkppjdfjoipaa
