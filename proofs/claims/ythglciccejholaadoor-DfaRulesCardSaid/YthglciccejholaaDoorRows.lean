/-
  NARROWER THAN 'FOR EVERY INPUT', by the rows' own cells (each row's printed sentence says how): NfaOne: loops, laid · DfaChecks: laid · DfaMakes: laid · DfaRuns: laid · DfaTells: laid · DfaRules: loops, laid · DfaReaches: laid · DfaJoins: laid · DfaTurned: laid.
  DERIVED. THE GIVEN ROWS OF THIS SEAT. 9 by the template 'for every input the law returns true; each argument reads behind the call as it read before'; 0 by the template 'total and deterministic' (their statements: YthglciccejholaaDoorTotals.lean).
  GIVEN WITH THE SEED: the statements are not yours to turn. If you find one false, say at which input.
  Laid BY PROGRAM, IN A SANDBOX (cutbox-rows.mjs): the forced cells as the released guide's own fill.sh prints them over the translation 9e2f86ead330122c… (all of the seat's roots in one cut). By AI agents, Wed Nov 11 2026. No macro, syntax, notation, axiom, sorry.
-/
import Derived.Test.YthglciccejholaaDoorChecked
import GoSem.Claim
import GoSem.ClaimJoined
import GoSem.ClaimMapViews
import Derived.JoinedTies
import Derived.KernelRfl
namespace Go.Proofs.YthglciccejholaaDoor
/- THE CELL 'sum', in the pinned program and in every row, IS THE sha256 OF THE DUMP (.gsa) THAT YthglciccejholaaDoorProg.lean LOADS. Nothing in Lean hashes anything: it is a label: what it is worth is what the hold of that sum in a sandbox is worth. -/
noncomputable def Tryd.pinned : Pinned := { name := "ythglciccejholaadoor", sum := "9e2f86ead330122ca85bdb9411d4c51b8e55ddb72754319aa5e7834bc615d7a6", checked := Tryd.checked }
namespace Rows
def none {H : Type} : Left H := { results := [], args := [] }

/- WHAT THE LISTED PACKAGE-LEVEL VARIABLES READ AS WHEN THE CALL BEGINS. Each datum BY PROGRAM (the guide's laid-datum.mjs) off the statement by which the dump's own 'gosem.cut.vars' lays the variable. In a bare row this is a premise. The card (YthglciccejholaaDoorCards.lean) ties it to the program's text. -/
def laid_math_bits_deBruijn64tab {H : Type} : DataW H := .agg [.lit (.int .u8 0), .lit (.int .u8 1), .lit (.int .u8 56), .lit (.int .u8 2), .lit (.int .u8 57), .lit (.int .u8 49), .lit (.int .u8 28), .lit (.int .u8 3), .lit (.int .u8 61), .lit (.int .u8 58), .lit (.int .u8 42), .lit (.int .u8 50), .lit (.int .u8 38), .lit (.int .u8 29), .lit (.int .u8 17), .lit (.int .u8 4), .lit (.int .u8 62), .lit (.int .u8 47), .lit (.int .u8 59), .lit (.int .u8 36), .lit (.int .u8 45), .lit (.int .u8 43), .lit (.int .u8 51), .lit (.int .u8 22), .lit (.int .u8 53), .lit (.int .u8 39), .lit (.int .u8 33), .lit (.int .u8 30), .lit (.int .u8 24), .lit (.int .u8 18), .lit (.int .u8 12), .lit (.int .u8 5), .lit (.int .u8 63), .lit (.int .u8 55), .lit (.int .u8 48), .lit (.int .u8 27), .lit (.int .u8 60), .lit (.int .u8 41), .lit (.int .u8 37), .lit (.int .u8 16), .lit (.int .u8 46), .lit (.int .u8 35), .lit (.int .u8 44), .lit (.int .u8 21), .lit (.int .u8 52), .lit (.int .u8 32), .lit (.int .u8 23), .lit (.int .u8 11), .lit (.int .u8 54), .lit (.int .u8 26), .lit (.int .u8 40), .lit (.int .u8 15), .lit (.int .u8 34), .lit (.int .u8 20), .lit (.int .u8 31), .lit (.int .u8 10), .lit (.int .u8 25), .lit (.int .u8 14), .lit (.int .u8 19), .lit (.int .u8 9), .lit (.int .u8 13), .lit (.int .u8 8), .lit (.int .u8 7), .lit (.int .u8 6)]

/-- 'rootstocklaw06.NfaOne': WHATEVER THE INPUT: true; the input reads as it did. -/
def nfaOneSpec : ChangeSpec := { name := "nfaOne", fn := fun _ => fun
  | [d1, d2] => { results := [.lit (.bool true)], args := [d1, d2] }
  | _ => none }
def nfaOneRow : OpenClaim := { program := "ythglciccejholaadoor", sum := "9e2f86ead330122ca85bdb9411d4c51b8e55ddb72754319aa5e7834bc615d7a6", func := "rootstock/rootstocklaw06.NfaOne", spec := "nfaOne", inPlace := ["internal/abi.NoEscape"], unfollowed := true, recurses := true, named := ["math/bits.deBruijn64tab"], loops := true, plainKeys := false, apart := false, laid := [("math/bits.deBruijn64tab", laid_math_bits_deBruijn64tab)] }
def NfaOneSaid : Prop := nfaOneRow.holds Tryd.pinned (OpenSpec.ofChange nfaOneSpec)

/-- ITS FALSE NEIGHBOUR: 'it returns false'. Refute it at one input. -/
def nfaOneWrong : ChangeSpec := { name := "nfaOne", fn := fun _ => fun
  | [d1, d2] => { results := [.lit (.bool false)], args := [d1, d2] }
  | _ => none }
def NfaOneWrongFalsely : Prop := nfaOneRow.holds Tryd.pinned (OpenSpec.ofChange nfaOneWrong)

/-- 'rootstocklaw07.DfaChecks': WHATEVER THE INPUT: true; the input reads as it did. -/
def dfaChecksSpec : ChangeSpec := { name := "dfaChecks", fn := fun _ => fun
  | [d] => { results := [.lit (.bool true)], args := [d] }
  | _ => none }
def dfaChecksRow : OpenClaim := { program := "ythglciccejholaadoor", sum := "9e2f86ead330122ca85bdb9411d4c51b8e55ddb72754319aa5e7834bc615d7a6", func := "rootstock/rootstocklaw07.DfaChecks", spec := "dfaChecks", unfollowed := true, recurses := true, named := ["math/bits.deBruijn64tab"], plainKeys := false, apart := false, laid := [("math/bits.deBruijn64tab", laid_math_bits_deBruijn64tab)] }
def DfaChecksSaid : Prop := dfaChecksRow.holds Tryd.pinned (OpenSpec.ofChange dfaChecksSpec)

/-- ITS FALSE NEIGHBOUR: 'it returns false'. Refute it at one input. -/
def dfaChecksWrong : ChangeSpec := { name := "dfaChecks", fn := fun _ => fun
  | [d] => { results := [.lit (.bool false)], args := [d] }
  | _ => none }
def DfaChecksWrongFalsely : Prop := dfaChecksRow.holds Tryd.pinned (OpenSpec.ofChange dfaChecksWrong)

/-- 'rootstocklaw07.DfaMakes': WHATEVER THE INPUT: true; the input reads as it did. -/
def dfaMakesSpec : ChangeSpec := { name := "dfaMakes", fn := fun _ => fun
  | [d] => { results := [.lit (.bool true)], args := [d] }
  | _ => none }
def dfaMakesRow : OpenClaim := { program := "ythglciccejholaadoor", sum := "9e2f86ead330122ca85bdb9411d4c51b8e55ddb72754319aa5e7834bc615d7a6", func := "rootstock/rootstocklaw07.DfaMakes", spec := "dfaMakes", unfollowed := true, recurses := true, named := ["math/bits.deBruijn64tab"], plainKeys := false, apart := false, laid := [("math/bits.deBruijn64tab", laid_math_bits_deBruijn64tab)] }
def DfaMakesSaid : Prop := dfaMakesRow.holds Tryd.pinned (OpenSpec.ofChange dfaMakesSpec)

/-- ITS FALSE NEIGHBOUR: 'it returns false'. Refute it at one input. -/
def dfaMakesWrong : ChangeSpec := { name := "dfaMakes", fn := fun _ => fun
  | [d] => { results := [.lit (.bool false)], args := [d] }
  | _ => none }
def DfaMakesWrongFalsely : Prop := dfaMakesRow.holds Tryd.pinned (OpenSpec.ofChange dfaMakesWrong)

/-- 'rootstocklaw07.DfaRuns': WHATEVER THE INPUT: true; the input reads as it did. -/
def dfaRunsSpec : ChangeSpec := { name := "dfaRuns", fn := fun _ => fun
  | [d1, d2, d3] => { results := [.lit (.bool true)], args := [d1, d2, d3] }
  | _ => none }
def dfaRunsRow : OpenClaim := { program := "ythglciccejholaadoor", sum := "9e2f86ead330122ca85bdb9411d4c51b8e55ddb72754319aa5e7834bc615d7a6", func := "rootstock/rootstocklaw07.DfaRuns", spec := "dfaRuns", unfollowed := true, recurses := true, named := ["math/bits.deBruijn64tab"], plainKeys := false, apart := false, laid := [("math/bits.deBruijn64tab", laid_math_bits_deBruijn64tab)] }
def DfaRunsSaid : Prop := dfaRunsRow.holds Tryd.pinned (OpenSpec.ofChange dfaRunsSpec)

/-- ITS FALSE NEIGHBOUR: 'it returns false'. Refute it at one input. -/
def dfaRunsWrong : ChangeSpec := { name := "dfaRuns", fn := fun _ => fun
  | [d1, d2, d3] => { results := [.lit (.bool false)], args := [d1, d2, d3] }
  | _ => none }
def DfaRunsWrongFalsely : Prop := dfaRunsRow.holds Tryd.pinned (OpenSpec.ofChange dfaRunsWrong)

/-- 'rootstocklaw07.DfaTells': WHATEVER THE INPUT: true; the input reads as it did. -/
def dfaTellsSpec : ChangeSpec := { name := "dfaTells", fn := fun _ => fun
  | [d1, d2] => { results := [.lit (.bool true)], args := [d1, d2] }
  | _ => none }
def dfaTellsRow : OpenClaim := { program := "ythglciccejholaadoor", sum := "9e2f86ead330122ca85bdb9411d4c51b8e55ddb72754319aa5e7834bc615d7a6", func := "rootstock/rootstocklaw07.DfaTells", spec := "dfaTells", unfollowed := true, recurses := true, named := ["math/bits.deBruijn64tab"], plainKeys := false, apart := false, laid := [("math/bits.deBruijn64tab", laid_math_bits_deBruijn64tab)] }
def DfaTellsSaid : Prop := dfaTellsRow.holds Tryd.pinned (OpenSpec.ofChange dfaTellsSpec)

/-- ITS FALSE NEIGHBOUR: 'it returns false'. Refute it at one input. -/
def dfaTellsWrong : ChangeSpec := { name := "dfaTells", fn := fun _ => fun
  | [d1, d2] => { results := [.lit (.bool false)], args := [d1, d2] }
  | _ => none }
def DfaTellsWrongFalsely : Prop := dfaTellsRow.holds Tryd.pinned (OpenSpec.ofChange dfaTellsWrong)

/-- 'rootstocklaw07.DfaRules': WHATEVER THE INPUT: true; the input reads as it did. -/
def dfaRulesSpec : ChangeSpec := { name := "dfaRules", fn := fun _ => fun
  | [d1, d2] => { results := [.lit (.bool true)], args := [d1, d2] }
  | _ => none }
def dfaRulesRow : OpenClaim := { program := "ythglciccejholaadoor", sum := "9e2f86ead330122ca85bdb9411d4c51b8e55ddb72754319aa5e7834bc615d7a6", func := "rootstock/rootstocklaw07.DfaRules", spec := "dfaRules", inPlace := ["internal/abi.NoEscape"], unfollowed := true, recurses := true, named := ["math/bits.deBruijn64tab"], loops := true, plainKeys := false, apart := false, laid := [("math/bits.deBruijn64tab", laid_math_bits_deBruijn64tab)] }
def DfaRulesSaid : Prop := dfaRulesRow.holds Tryd.pinned (OpenSpec.ofChange dfaRulesSpec)

/-- ITS FALSE NEIGHBOUR: 'it returns false'. Refute it at one input. -/
def dfaRulesWrong : ChangeSpec := { name := "dfaRules", fn := fun _ => fun
  | [d1, d2] => { results := [.lit (.bool false)], args := [d1, d2] }
  | _ => none }
def DfaRulesWrongFalsely : Prop := dfaRulesRow.holds Tryd.pinned (OpenSpec.ofChange dfaRulesWrong)

/-- 'rootstocklaw07.DfaReaches': WHATEVER THE INPUT: true; the input reads as it did. -/
def dfaReachesSpec : ChangeSpec := { name := "dfaReaches", fn := fun _ => fun
  | [d] => { results := [.lit (.bool true)], args := [d] }
  | _ => none }
def dfaReachesRow : OpenClaim := { program := "ythglciccejholaadoor", sum := "9e2f86ead330122ca85bdb9411d4c51b8e55ddb72754319aa5e7834bc615d7a6", func := "rootstock/rootstocklaw07.DfaReaches", spec := "dfaReaches", unfollowed := true, recurses := true, named := ["math/bits.deBruijn64tab"], plainKeys := false, apart := false, laid := [("math/bits.deBruijn64tab", laid_math_bits_deBruijn64tab)] }
def DfaReachesSaid : Prop := dfaReachesRow.holds Tryd.pinned (OpenSpec.ofChange dfaReachesSpec)

/-- ITS FALSE NEIGHBOUR: 'it returns false'. Refute it at one input. -/
def dfaReachesWrong : ChangeSpec := { name := "dfaReaches", fn := fun _ => fun
  | [d] => { results := [.lit (.bool false)], args := [d] }
  | _ => none }
def DfaReachesWrongFalsely : Prop := dfaReachesRow.holds Tryd.pinned (OpenSpec.ofChange dfaReachesWrong)

/-- 'rootstocklaw07.DfaJoins': WHATEVER THE INPUT: true; the input reads as it did. -/
def dfaJoinsSpec : ChangeSpec := { name := "dfaJoins", fn := fun _ => fun
  | [d1, d2, d3] => { results := [.lit (.bool true)], args := [d1, d2, d3] }
  | _ => none }
def dfaJoinsRow : OpenClaim := { program := "ythglciccejholaadoor", sum := "9e2f86ead330122ca85bdb9411d4c51b8e55ddb72754319aa5e7834bc615d7a6", func := "rootstock/rootstocklaw07.DfaJoins", spec := "dfaJoins", unfollowed := true, recurses := true, named := ["math/bits.deBruijn64tab"], plainKeys := false, apart := false, laid := [("math/bits.deBruijn64tab", laid_math_bits_deBruijn64tab)] }
def DfaJoinsSaid : Prop := dfaJoinsRow.holds Tryd.pinned (OpenSpec.ofChange dfaJoinsSpec)

/-- ITS FALSE NEIGHBOUR: 'it returns false'. Refute it at one input. -/
def dfaJoinsWrong : ChangeSpec := { name := "dfaJoins", fn := fun _ => fun
  | [d1, d2, d3] => { results := [.lit (.bool false)], args := [d1, d2, d3] }
  | _ => none }
def DfaJoinsWrongFalsely : Prop := dfaJoinsRow.holds Tryd.pinned (OpenSpec.ofChange dfaJoinsWrong)

/-- 'rootstocklaw07.DfaTurned': WHATEVER THE INPUT: true; the input reads as it did. -/
def dfaTurnedSpec : ChangeSpec := { name := "dfaTurned", fn := fun _ => fun
  | [d1, d2] => { results := [.lit (.bool true)], args := [d1, d2] }
  | _ => none }
def dfaTurnedRow : OpenClaim := { program := "ythglciccejholaadoor", sum := "9e2f86ead330122ca85bdb9411d4c51b8e55ddb72754319aa5e7834bc615d7a6", func := "rootstock/rootstocklaw07.DfaTurned", spec := "dfaTurned", unfollowed := true, recurses := true, named := ["math/bits.deBruijn64tab"], plainKeys := false, apart := false, laid := [("math/bits.deBruijn64tab", laid_math_bits_deBruijn64tab)] }
def DfaTurnedSaid : Prop := dfaTurnedRow.holds Tryd.pinned (OpenSpec.ofChange dfaTurnedSpec)

/-- ITS FALSE NEIGHBOUR: 'it returns false'. Refute it at one input. -/
def dfaTurnedWrong : ChangeSpec := { name := "dfaTurned", fn := fun _ => fun
  | [d1, d2] => { results := [.lit (.bool false)], args := [d1, d2] }
  | _ => none }
def DfaTurnedWrongFalsely : Prop := dfaTurnedRow.holds Tryd.pinned (OpenSpec.ofChange dfaTurnedWrong)

/- THE SECOND FORM. 'bulk': how many values and letters a reading holds, each counted each time it is reached (what is shared counts as often as it is met; a slice's spare places count too). A statement '..UptoSaid' is the law's where the arguments, and the package variables that the reading takes, are together of bulk at most 1048576: NARROWER than '..Said'. Prove '..Said' where nothing that the law and all that it calls make is longer than what came in: it says more and counts as full. Else prove '..UptoSaid'. A law counts once. -/
mutual
def uptoBulk {H : Type} : DataW H → Nat
  | .lit (.string bytes) => bytes.length + 1
  | .lit _ => 1
  | .nil => 1
  | .ptr d => uptoBulk d + 1
  | .slice elems spare => uptoBulkAll elems + uptoBulkAll spare + 1
  | .agg parts => uptoBulkAll parts + 1
  | .iface _ d => uptoBulk d + 1
  | .map entries => uptoBulkEntries entries + 1
  | .held _ => 1
def uptoBulkAll {H : Type} : List (DataW H) → Nat
  | [] => 0
  | d :: r => uptoBulk d + uptoBulkAll r
def uptoBulkEntries {H : Type} : List (Lit × DataW H) → Nat
  | [] => 0
  | x :: r => uptoBulkEntry x + uptoBulkEntries r
def uptoBulkEntry {H : Type} : Lit × DataW H → Nat
  | (.string bytes, d) => bytes.length + uptoBulk d + 1
  | (_, d) => uptoBulk d + 1
 end
def uptoSmall : (H : Type) → List (DataW H) → Bool := fun _ ds => decide (uptoBulkAll ds ≤ 1048576)
def OpenSpec.upto (s : _root_.Go.ChangeSpec) : _root_.Go.OpenSpec := { _root_.Go.OpenSpec.ofChange s with cond := some uptoSmall }

/-- 'rootstocklaw06.NfaOne', WHERE WHAT IT READS IS OF BULK AT MOST 1048576: true; the input reads as it did. -/
def nfaOneUptoRow : OpenClaim := { program := "ythglciccejholaadoor", sum := "9e2f86ead330122ca85bdb9411d4c51b8e55ddb72754319aa5e7834bc615d7a6", func := "rootstock/rootstocklaw06.NfaOne", spec := "nfaOne", inPlace := ["internal/abi.NoEscape"], unfollowed := true, recurses := true, named := ["math/bits.deBruijn64tab"], loops := true, plainKeys := false, apart := false, laid := [("math/bits.deBruijn64tab", laid_math_bits_deBruijn64tab)], narrowed := true }
def NfaOneUptoSaid : Prop := nfaOneUptoRow.holds Tryd.pinned (OpenSpec.upto nfaOneSpec)

/-- 'rootstocklaw07.DfaChecks', WHERE WHAT IT READS IS OF BULK AT MOST 1048576: true; the input reads as it did. -/
def dfaChecksUptoRow : OpenClaim := { program := "ythglciccejholaadoor", sum := "9e2f86ead330122ca85bdb9411d4c51b8e55ddb72754319aa5e7834bc615d7a6", func := "rootstock/rootstocklaw07.DfaChecks", spec := "dfaChecks", unfollowed := true, recurses := true, named := ["math/bits.deBruijn64tab"], plainKeys := false, apart := false, laid := [("math/bits.deBruijn64tab", laid_math_bits_deBruijn64tab)], narrowed := true }
def DfaChecksUptoSaid : Prop := dfaChecksUptoRow.holds Tryd.pinned (OpenSpec.upto dfaChecksSpec)

/-- 'rootstocklaw07.DfaMakes', WHERE WHAT IT READS IS OF BULK AT MOST 1048576: true; the input reads as it did. -/
def dfaMakesUptoRow : OpenClaim := { program := "ythglciccejholaadoor", sum := "9e2f86ead330122ca85bdb9411d4c51b8e55ddb72754319aa5e7834bc615d7a6", func := "rootstock/rootstocklaw07.DfaMakes", spec := "dfaMakes", unfollowed := true, recurses := true, named := ["math/bits.deBruijn64tab"], plainKeys := false, apart := false, laid := [("math/bits.deBruijn64tab", laid_math_bits_deBruijn64tab)], narrowed := true }
def DfaMakesUptoSaid : Prop := dfaMakesUptoRow.holds Tryd.pinned (OpenSpec.upto dfaMakesSpec)

/-- 'rootstocklaw07.DfaRuns', WHERE WHAT IT READS IS OF BULK AT MOST 1048576: true; the input reads as it did. -/
def dfaRunsUptoRow : OpenClaim := { program := "ythglciccejholaadoor", sum := "9e2f86ead330122ca85bdb9411d4c51b8e55ddb72754319aa5e7834bc615d7a6", func := "rootstock/rootstocklaw07.DfaRuns", spec := "dfaRuns", unfollowed := true, recurses := true, named := ["math/bits.deBruijn64tab"], plainKeys := false, apart := false, laid := [("math/bits.deBruijn64tab", laid_math_bits_deBruijn64tab)], narrowed := true }
def DfaRunsUptoSaid : Prop := dfaRunsUptoRow.holds Tryd.pinned (OpenSpec.upto dfaRunsSpec)

/-- 'rootstocklaw07.DfaTells', WHERE WHAT IT READS IS OF BULK AT MOST 1048576: true; the input reads as it did. -/
def dfaTellsUptoRow : OpenClaim := { program := "ythglciccejholaadoor", sum := "9e2f86ead330122ca85bdb9411d4c51b8e55ddb72754319aa5e7834bc615d7a6", func := "rootstock/rootstocklaw07.DfaTells", spec := "dfaTells", unfollowed := true, recurses := true, named := ["math/bits.deBruijn64tab"], plainKeys := false, apart := false, laid := [("math/bits.deBruijn64tab", laid_math_bits_deBruijn64tab)], narrowed := true }
def DfaTellsUptoSaid : Prop := dfaTellsUptoRow.holds Tryd.pinned (OpenSpec.upto dfaTellsSpec)

/-- 'rootstocklaw07.DfaRules', WHERE WHAT IT READS IS OF BULK AT MOST 1048576: true; the input reads as it did. -/
def dfaRulesUptoRow : OpenClaim := { program := "ythglciccejholaadoor", sum := "9e2f86ead330122ca85bdb9411d4c51b8e55ddb72754319aa5e7834bc615d7a6", func := "rootstock/rootstocklaw07.DfaRules", spec := "dfaRules", inPlace := ["internal/abi.NoEscape"], unfollowed := true, recurses := true, named := ["math/bits.deBruijn64tab"], loops := true, plainKeys := false, apart := false, laid := [("math/bits.deBruijn64tab", laid_math_bits_deBruijn64tab)], narrowed := true }
def DfaRulesUptoSaid : Prop := dfaRulesUptoRow.holds Tryd.pinned (OpenSpec.upto dfaRulesSpec)

/-- 'rootstocklaw07.DfaReaches', WHERE WHAT IT READS IS OF BULK AT MOST 1048576: true; the input reads as it did. -/
def dfaReachesUptoRow : OpenClaim := { program := "ythglciccejholaadoor", sum := "9e2f86ead330122ca85bdb9411d4c51b8e55ddb72754319aa5e7834bc615d7a6", func := "rootstock/rootstocklaw07.DfaReaches", spec := "dfaReaches", unfollowed := true, recurses := true, named := ["math/bits.deBruijn64tab"], plainKeys := false, apart := false, laid := [("math/bits.deBruijn64tab", laid_math_bits_deBruijn64tab)], narrowed := true }
def DfaReachesUptoSaid : Prop := dfaReachesUptoRow.holds Tryd.pinned (OpenSpec.upto dfaReachesSpec)

/-- 'rootstocklaw07.DfaJoins', WHERE WHAT IT READS IS OF BULK AT MOST 1048576: true; the input reads as it did. -/
def dfaJoinsUptoRow : OpenClaim := { program := "ythglciccejholaadoor", sum := "9e2f86ead330122ca85bdb9411d4c51b8e55ddb72754319aa5e7834bc615d7a6", func := "rootstock/rootstocklaw07.DfaJoins", spec := "dfaJoins", unfollowed := true, recurses := true, named := ["math/bits.deBruijn64tab"], plainKeys := false, apart := false, laid := [("math/bits.deBruijn64tab", laid_math_bits_deBruijn64tab)], narrowed := true }
def DfaJoinsUptoSaid : Prop := dfaJoinsUptoRow.holds Tryd.pinned (OpenSpec.upto dfaJoinsSpec)

/-- 'rootstocklaw07.DfaTurned', WHERE WHAT IT READS IS OF BULK AT MOST 1048576: true; the input reads as it did. -/
def dfaTurnedUptoRow : OpenClaim := { program := "ythglciccejholaadoor", sum := "9e2f86ead330122ca85bdb9411d4c51b8e55ddb72754319aa5e7834bc615d7a6", func := "rootstock/rootstocklaw07.DfaTurned", spec := "dfaTurned", unfollowed := true, recurses := true, named := ["math/bits.deBruijn64tab"], plainKeys := false, apart := false, laid := [("math/bits.deBruijn64tab", laid_math_bits_deBruijn64tab)], narrowed := true }
def DfaTurnedUptoSaid : Prop := dfaTurnedUptoRow.holds Tryd.pinned (OpenSpec.upto dfaTurnedSpec)

end Rows
end Go.Proofs.YthglciccejholaaDoor
