/-
  NARROWER THAN 'FOR EVERY INPUT', by the rows' own cells (each row's printed sentence says how): RegsChecks: loops, laid · RegsParses: laid · RegsPrints: loops, laid · RegsMatches: loops, laid · RegsBack: laid · RegsTold: loops, laid · RegsParts: loops, laid · RegsAgain: loops, laid · RegsWrap: laid · RegsRow: laid.
  DERIVED. THE GIVEN ROWS OF THIS SEAT. 10 by the template 'for every input the law returns true; each argument reads behind the call as it read before'; 0 by the template 'total and deterministic' (their statements: YtmjojahkbjlcdaaDoorTotals.lean).
  GIVEN WITH THE SEED: the statements are not yours to turn. If you find one false, say at which input.
  Laid BY PROGRAM, IN A SANDBOX (cutbox-rows.mjs): the forced cells as the released guide's own fill.sh prints them over the translation 053b715e73b14b1a… (all of the seat's roots in one cut). By AI agents, Wed Nov 11 2026. No macro, syntax, notation, axiom, sorry.
-/
import Derived.Test.YtmjojahkbjlcdaaDoorChecked
import GoSem.Claim
import GoSem.ClaimJoined
import GoSem.ClaimMapViews
import Derived.JoinedTies
import Derived.KernelRfl
namespace Go.Proofs.YtmjojahkbjlcdaaDoor
/- THE CELL 'sum', in the pinned program and in every row, IS THE sha256 OF THE DUMP (.gsa) THAT YtmjojahkbjlcdaaDoorProg.lean LOADS. Nothing in Lean hashes anything: it is a label: what it is worth is what the hold of that sum in a sandbox is worth. -/
noncomputable def Tryd.pinned : Pinned := { name := "ytmjojahkbjlcdaadoor", sum := "053b715e73b14b1a768eeb3573d9700582472f64784e7079074191ceb5d97816", checked := Tryd.checked }
namespace Rows
def none {H : Type} : Left H := { results := [], args := [] }

/- WHAT THE LISTED PACKAGE-LEVEL VARIABLES READ AS WHEN THE CALL BEGINS. Each datum BY PROGRAM (the guide's laid-datum.mjs) off the statement by which the dump's own 'gosem.cut.vars' lays the variable. In a bare row this is a premise. The card (YtmjojahkbjlcdaaDoorCards.lean) ties it to the program's text. -/
def laid_math_bits_deBruijn64tab {H : Type} : DataW H := .agg [.lit (.int .u8 0), .lit (.int .u8 1), .lit (.int .u8 56), .lit (.int .u8 2), .lit (.int .u8 57), .lit (.int .u8 49), .lit (.int .u8 28), .lit (.int .u8 3), .lit (.int .u8 61), .lit (.int .u8 58), .lit (.int .u8 42), .lit (.int .u8 50), .lit (.int .u8 38), .lit (.int .u8 29), .lit (.int .u8 17), .lit (.int .u8 4), .lit (.int .u8 62), .lit (.int .u8 47), .lit (.int .u8 59), .lit (.int .u8 36), .lit (.int .u8 45), .lit (.int .u8 43), .lit (.int .u8 51), .lit (.int .u8 22), .lit (.int .u8 53), .lit (.int .u8 39), .lit (.int .u8 33), .lit (.int .u8 30), .lit (.int .u8 24), .lit (.int .u8 18), .lit (.int .u8 12), .lit (.int .u8 5), .lit (.int .u8 63), .lit (.int .u8 55), .lit (.int .u8 48), .lit (.int .u8 27), .lit (.int .u8 60), .lit (.int .u8 41), .lit (.int .u8 37), .lit (.int .u8 16), .lit (.int .u8 46), .lit (.int .u8 35), .lit (.int .u8 44), .lit (.int .u8 21), .lit (.int .u8 52), .lit (.int .u8 32), .lit (.int .u8 23), .lit (.int .u8 11), .lit (.int .u8 54), .lit (.int .u8 26), .lit (.int .u8 40), .lit (.int .u8 15), .lit (.int .u8 34), .lit (.int .u8 20), .lit (.int .u8 31), .lit (.int .u8 10), .lit (.int .u8 25), .lit (.int .u8 14), .lit (.int .u8 19), .lit (.int .u8 9), .lit (.int .u8 13), .lit (.int .u8 8), .lit (.int .u8 7), .lit (.int .u8 6)]

/-- 'rootstocklaw05.RegsChecks': WHATEVER THE INPUT: true; the input reads as it did. -/
def regsChecksSpec : ChangeSpec := { name := "regsChecks", fn := fun _ => fun
  | [d] => { results := [.lit (.bool true)], args := [d] }
  | _ => none }
def regsChecksRow : OpenClaim := { program := "ytmjojahkbjlcdaadoor", sum := "053b715e73b14b1a768eeb3573d9700582472f64784e7079074191ceb5d97816", func := "rootstock/rootstocklaw05.RegsChecks", spec := "regsChecks", inPlace := ["internal/bytealg.IndexByteString", "internal/abi.NoEscape"], unfollowed := true, recurses := true, named := ["math/bits.deBruijn64tab"], loops := true, apart := false, laid := [("math/bits.deBruijn64tab", laid_math_bits_deBruijn64tab)] }
def RegsChecksSaid : Prop := regsChecksRow.holds Tryd.pinned (OpenSpec.ofChange regsChecksSpec)

/-- ITS FALSE NEIGHBOUR: 'it returns false'. Refute it at one input. -/
def regsChecksWrong : ChangeSpec := { name := "regsChecks", fn := fun _ => fun
  | [d] => { results := [.lit (.bool false)], args := [d] }
  | _ => none }
def RegsChecksWrongFalsely : Prop := regsChecksRow.holds Tryd.pinned (OpenSpec.ofChange regsChecksWrong)

/-- 'rootstocklaw05.RegsParses': WHATEVER THE INPUT: true; the input reads as it did. -/
def regsParsesSpec : ChangeSpec := { name := "regsParses", fn := fun _ => fun
  | [d] => { results := [.lit (.bool true)], args := [d] }
  | _ => none }
def regsParsesRow : OpenClaim := { program := "ytmjojahkbjlcdaadoor", sum := "053b715e73b14b1a768eeb3573d9700582472f64784e7079074191ceb5d97816", func := "rootstock/rootstocklaw05.RegsParses", spec := "regsParses", inPlace := ["internal/bytealg.IndexByteString", "internal/abi.NoEscape"], unfollowed := true, recurses := true, named := ["math/bits.deBruijn64tab"], apart := false, laid := [("math/bits.deBruijn64tab", laid_math_bits_deBruijn64tab)] }
def RegsParsesSaid : Prop := regsParsesRow.holds Tryd.pinned (OpenSpec.ofChange regsParsesSpec)

/-- ITS FALSE NEIGHBOUR: 'it returns false'. Refute it at one input. -/
def regsParsesWrong : ChangeSpec := { name := "regsParses", fn := fun _ => fun
  | [d] => { results := [.lit (.bool false)], args := [d] }
  | _ => none }
def RegsParsesWrongFalsely : Prop := regsParsesRow.holds Tryd.pinned (OpenSpec.ofChange regsParsesWrong)

/-- 'rootstocklaw05.RegsPrints': WHATEVER THE INPUT: true; the input reads as it did. -/
def regsPrintsSpec : ChangeSpec := { name := "regsPrints", fn := fun _ => fun
  | [d] => { results := [.lit (.bool true)], args := [d] }
  | _ => none }
def regsPrintsRow : OpenClaim := { program := "ytmjojahkbjlcdaadoor", sum := "053b715e73b14b1a768eeb3573d9700582472f64784e7079074191ceb5d97816", func := "rootstock/rootstocklaw05.RegsPrints", spec := "regsPrints", inPlace := ["internal/abi.NoEscape", "internal/bytealg.IndexByteString"], unfollowed := true, recurses := true, named := ["math/bits.deBruijn64tab"], loops := true, apart := false, laid := [("math/bits.deBruijn64tab", laid_math_bits_deBruijn64tab)] }
def RegsPrintsSaid : Prop := regsPrintsRow.holds Tryd.pinned (OpenSpec.ofChange regsPrintsSpec)

/-- ITS FALSE NEIGHBOUR: 'it returns false'. Refute it at one input. -/
def regsPrintsWrong : ChangeSpec := { name := "regsPrints", fn := fun _ => fun
  | [d] => { results := [.lit (.bool false)], args := [d] }
  | _ => none }
def RegsPrintsWrongFalsely : Prop := regsPrintsRow.holds Tryd.pinned (OpenSpec.ofChange regsPrintsWrong)

/-- 'rootstocklaw05.RegsMatches': WHATEVER THE INPUT: true; the input reads as it did. -/
def regsMatchesSpec : ChangeSpec := { name := "regsMatches", fn := fun _ => fun
  | [d1, d2] => { results := [.lit (.bool true)], args := [d1, d2] }
  | _ => none }
def regsMatchesRow : OpenClaim := { program := "ytmjojahkbjlcdaadoor", sum := "053b715e73b14b1a768eeb3573d9700582472f64784e7079074191ceb5d97816", func := "rootstock/rootstocklaw05.RegsMatches", spec := "regsMatches", inPlace := ["internal/abi.NoEscape", "internal/bytealg.IndexByteString"], unfollowed := true, recurses := true, named := ["math/bits.deBruijn64tab"], loops := true, apart := false, laid := [("math/bits.deBruijn64tab", laid_math_bits_deBruijn64tab)] }
def RegsMatchesSaid : Prop := regsMatchesRow.holds Tryd.pinned (OpenSpec.ofChange regsMatchesSpec)

/-- ITS FALSE NEIGHBOUR: 'it returns false'. Refute it at one input. -/
def regsMatchesWrong : ChangeSpec := { name := "regsMatches", fn := fun _ => fun
  | [d1, d2] => { results := [.lit (.bool false)], args := [d1, d2] }
  | _ => none }
def RegsMatchesWrongFalsely : Prop := regsMatchesRow.holds Tryd.pinned (OpenSpec.ofChange regsMatchesWrong)

/-- 'rootstocklaw05.RegsBack': WHATEVER THE INPUT: true; the input reads as it did. -/
def regsBackSpec : ChangeSpec := { name := "regsBack", fn := fun _ => fun
  | [d] => { results := [.lit (.bool true)], args := [d] }
  | _ => none }
def regsBackRow : OpenClaim := { program := "ytmjojahkbjlcdaadoor", sum := "053b715e73b14b1a768eeb3573d9700582472f64784e7079074191ceb5d97816", func := "rootstock/rootstocklaw05.RegsBack", spec := "regsBack", inPlace := ["internal/bytealg.IndexByteString", "internal/abi.NoEscape"], unfollowed := true, recurses := true, named := ["math/bits.deBruijn64tab"], apart := false, laid := [("math/bits.deBruijn64tab", laid_math_bits_deBruijn64tab)] }
def RegsBackSaid : Prop := regsBackRow.holds Tryd.pinned (OpenSpec.ofChange regsBackSpec)

/-- ITS FALSE NEIGHBOUR: 'it returns false'. Refute it at one input. -/
def regsBackWrong : ChangeSpec := { name := "regsBack", fn := fun _ => fun
  | [d] => { results := [.lit (.bool false)], args := [d] }
  | _ => none }
def RegsBackWrongFalsely : Prop := regsBackRow.holds Tryd.pinned (OpenSpec.ofChange regsBackWrong)

/-- 'rootstocklaw05.RegsTold': WHATEVER THE INPUT: true; the input reads as it did. -/
def regsToldSpec : ChangeSpec := { name := "regsTold", fn := fun _ => fun
  | [d1, d2] => { results := [.lit (.bool true)], args := [d1, d2] }
  | _ => none }
def regsToldRow : OpenClaim := { program := "ytmjojahkbjlcdaadoor", sum := "053b715e73b14b1a768eeb3573d9700582472f64784e7079074191ceb5d97816", func := "rootstock/rootstocklaw05.RegsTold", spec := "regsTold", inPlace := ["internal/abi.NoEscape", "internal/bytealg.IndexByteString"], unfollowed := true, recurses := true, named := ["math/bits.deBruijn64tab"], loops := true, apart := false, laid := [("math/bits.deBruijn64tab", laid_math_bits_deBruijn64tab)] }
def RegsToldSaid : Prop := regsToldRow.holds Tryd.pinned (OpenSpec.ofChange regsToldSpec)

/-- ITS FALSE NEIGHBOUR: 'it returns false'. Refute it at one input. -/
def regsToldWrong : ChangeSpec := { name := "regsTold", fn := fun _ => fun
  | [d1, d2] => { results := [.lit (.bool false)], args := [d1, d2] }
  | _ => none }
def RegsToldWrongFalsely : Prop := regsToldRow.holds Tryd.pinned (OpenSpec.ofChange regsToldWrong)

/-- 'rootstocklaw05.RegsParts': WHATEVER THE INPUT: true; the input reads as it did. -/
def regsPartsSpec : ChangeSpec := { name := "regsParts", fn := fun _ => fun
  | [d1, d2, d3] => { results := [.lit (.bool true)], args := [d1, d2, d3] }
  | _ => none }
def regsPartsRow : OpenClaim := { program := "ytmjojahkbjlcdaadoor", sum := "053b715e73b14b1a768eeb3573d9700582472f64784e7079074191ceb5d97816", func := "rootstock/rootstocklaw05.RegsParts", spec := "regsParts", inPlace := ["internal/abi.NoEscape", "internal/bytealg.IndexByteString"], unfollowed := true, recurses := true, named := ["math/bits.deBruijn64tab"], loops := true, apart := false, laid := [("math/bits.deBruijn64tab", laid_math_bits_deBruijn64tab)] }
def RegsPartsSaid : Prop := regsPartsRow.holds Tryd.pinned (OpenSpec.ofChange regsPartsSpec)

/-- ITS FALSE NEIGHBOUR: 'it returns false'. Refute it at one input. -/
def regsPartsWrong : ChangeSpec := { name := "regsParts", fn := fun _ => fun
  | [d1, d2, d3] => { results := [.lit (.bool false)], args := [d1, d2, d3] }
  | _ => none }
def RegsPartsWrongFalsely : Prop := regsPartsRow.holds Tryd.pinned (OpenSpec.ofChange regsPartsWrong)

/-- 'rootstocklaw05.RegsAgain': WHATEVER THE INPUT: true; the input reads as it did. -/
def regsAgainSpec : ChangeSpec := { name := "regsAgain", fn := fun _ => fun
  | [d1, d2] => { results := [.lit (.bool true)], args := [d1, d2] }
  | _ => none }
def regsAgainRow : OpenClaim := { program := "ytmjojahkbjlcdaadoor", sum := "053b715e73b14b1a768eeb3573d9700582472f64784e7079074191ceb5d97816", func := "rootstock/rootstocklaw05.RegsAgain", spec := "regsAgain", inPlace := ["internal/abi.NoEscape", "internal/bytealg.IndexByteString"], unfollowed := true, recurses := true, named := ["math/bits.deBruijn64tab"], loops := true, apart := false, laid := [("math/bits.deBruijn64tab", laid_math_bits_deBruijn64tab)] }
def RegsAgainSaid : Prop := regsAgainRow.holds Tryd.pinned (OpenSpec.ofChange regsAgainSpec)

/-- ITS FALSE NEIGHBOUR: 'it returns false'. Refute it at one input. -/
def regsAgainWrong : ChangeSpec := { name := "regsAgain", fn := fun _ => fun
  | [d1, d2] => { results := [.lit (.bool false)], args := [d1, d2] }
  | _ => none }
def RegsAgainWrongFalsely : Prop := regsAgainRow.holds Tryd.pinned (OpenSpec.ofChange regsAgainWrong)

/-- 'rootstocklaw05.RegsWrap': WHATEVER THE INPUT: true; the input reads as it did. -/
def regsWrapSpec : ChangeSpec := { name := "regsWrap", fn := fun _ => fun
  | [d] => { results := [.lit (.bool true)], args := [d] }
  | _ => none }
def regsWrapRow : OpenClaim := { program := "ytmjojahkbjlcdaadoor", sum := "053b715e73b14b1a768eeb3573d9700582472f64784e7079074191ceb5d97816", func := "rootstock/rootstocklaw05.RegsWrap", spec := "regsWrap", inPlace := ["internal/bytealg.IndexByteString", "internal/abi.NoEscape"], unfollowed := true, recurses := true, named := ["math/bits.deBruijn64tab"], apart := false, laid := [("math/bits.deBruijn64tab", laid_math_bits_deBruijn64tab)] }
def RegsWrapSaid : Prop := regsWrapRow.holds Tryd.pinned (OpenSpec.ofChange regsWrapSpec)

/-- ITS FALSE NEIGHBOUR: 'it returns false'. Refute it at one input. -/
def regsWrapWrong : ChangeSpec := { name := "regsWrap", fn := fun _ => fun
  | [d] => { results := [.lit (.bool false)], args := [d] }
  | _ => none }
def RegsWrapWrongFalsely : Prop := regsWrapRow.holds Tryd.pinned (OpenSpec.ofChange regsWrapWrong)

/-- 'rootstocklaw05.RegsRow': WHATEVER THE INPUT: true; the input reads as it did. -/
def regsRowSpec : ChangeSpec := { name := "regsRow", fn := fun _ => fun
  | [d1, d2, d3] => { results := [.lit (.bool true)], args := [d1, d2, d3] }
  | _ => none }
def regsRowRow : OpenClaim := { program := "ytmjojahkbjlcdaadoor", sum := "053b715e73b14b1a768eeb3573d9700582472f64784e7079074191ceb5d97816", func := "rootstock/rootstocklaw05.RegsRow", spec := "regsRow", inPlace := ["internal/bytealg.IndexByteString", "internal/abi.NoEscape"], unfollowed := true, recurses := true, named := ["math/bits.deBruijn64tab"], apart := false, laid := [("math/bits.deBruijn64tab", laid_math_bits_deBruijn64tab)] }
def RegsRowSaid : Prop := regsRowRow.holds Tryd.pinned (OpenSpec.ofChange regsRowSpec)

/-- ITS FALSE NEIGHBOUR: 'it returns false'. Refute it at one input. -/
def regsRowWrong : ChangeSpec := { name := "regsRow", fn := fun _ => fun
  | [d1, d2, d3] => { results := [.lit (.bool false)], args := [d1, d2, d3] }
  | _ => none }
def RegsRowWrongFalsely : Prop := regsRowRow.holds Tryd.pinned (OpenSpec.ofChange regsRowWrong)

/- THE SECOND FORM. 'bulk': how many values and letters a reading holds, each counted each time it is reached (what is shared counts as often as it is met; a slice's spare places count too). A statement '..UptoSaid' is the law's where the arguments, and the package variables that the reading takes, are together of bulk at most 1048576: NARROWER than '..Said'. Prove '..Said' where nothing that the law and all that it calls make is longer than what came in: it says more and counts as full. Else prove '..UptoSaid'. A law counts once. -/
mutual
def uptoBulk {H : Type} : DataW H → Nat
  | .lit (.string bytes) => bytes.length + 1
  | .lit _ => 1
  | .nil => 1
  | .ptr d => uptoBulk d + 1
  | .slice elems spare => uptoBulkAll elems + uptoBulkAll spare + 1
  | .agg parts => uptoBulkAll parts + 1
  | .iface _ d => uptoBulk d + 1
  | .map entries => uptoBulkEntries entries + 1
  | .held _ => 1
def uptoBulkAll {H : Type} : List (DataW H) → Nat
  | [] => 0
  | d :: r => uptoBulk d + uptoBulkAll r
def uptoBulkEntries {H : Type} : List (Lit × DataW H) → Nat
  | [] => 0
  | x :: r => uptoBulkEntry x + uptoBulkEntries r
def uptoBulkEntry {H : Type} : Lit × DataW H → Nat
  | (.string bytes, d) => bytes.length + uptoBulk d + 1
  | (_, d) => uptoBulk d + 1
 end
def uptoSmall : (H : Type) → List (DataW H) → Bool := fun _ ds => decide (uptoBulkAll ds ≤ 1048576)
def OpenSpec.upto (s : _root_.Go.ChangeSpec) : _root_.Go.OpenSpec := { _root_.Go.OpenSpec.ofChange s with cond := some uptoSmall }

/-- 'rootstocklaw05.RegsChecks', WHERE WHAT IT READS IS OF BULK AT MOST 1048576: true; the input reads as it did. -/
def regsChecksUptoRow : OpenClaim := { program := "ytmjojahkbjlcdaadoor", sum := "053b715e73b14b1a768eeb3573d9700582472f64784e7079074191ceb5d97816", func := "rootstock/rootstocklaw05.RegsChecks", spec := "regsChecks", inPlace := ["internal/bytealg.IndexByteString", "internal/abi.NoEscape"], unfollowed := true, recurses := true, named := ["math/bits.deBruijn64tab"], loops := true, apart := false, laid := [("math/bits.deBruijn64tab", laid_math_bits_deBruijn64tab)], narrowed := true }
def RegsChecksUptoSaid : Prop := regsChecksUptoRow.holds Tryd.pinned (OpenSpec.upto regsChecksSpec)

/-- 'rootstocklaw05.RegsParses', WHERE WHAT IT READS IS OF BULK AT MOST 1048576: true; the input reads as it did. -/
def regsParsesUptoRow : OpenClaim := { program := "ytmjojahkbjlcdaadoor", sum := "053b715e73b14b1a768eeb3573d9700582472f64784e7079074191ceb5d97816", func := "rootstock/rootstocklaw05.RegsParses", spec := "regsParses", inPlace := ["internal/bytealg.IndexByteString", "internal/abi.NoEscape"], unfollowed := true, recurses := true, named := ["math/bits.deBruijn64tab"], apart := false, laid := [("math/bits.deBruijn64tab", laid_math_bits_deBruijn64tab)], narrowed := true }
def RegsParsesUptoSaid : Prop := regsParsesUptoRow.holds Tryd.pinned (OpenSpec.upto regsParsesSpec)

/-- 'rootstocklaw05.RegsPrints', WHERE WHAT IT READS IS OF BULK AT MOST 1048576: true; the input reads as it did. -/
def regsPrintsUptoRow : OpenClaim := { program := "ytmjojahkbjlcdaadoor", sum := "053b715e73b14b1a768eeb3573d9700582472f64784e7079074191ceb5d97816", func := "rootstock/rootstocklaw05.RegsPrints", spec := "regsPrints", inPlace := ["internal/abi.NoEscape", "internal/bytealg.IndexByteString"], unfollowed := true, recurses := true, named := ["math/bits.deBruijn64tab"], loops := true, apart := false, laid := [("math/bits.deBruijn64tab", laid_math_bits_deBruijn64tab)], narrowed := true }
def RegsPrintsUptoSaid : Prop := regsPrintsUptoRow.holds Tryd.pinned (OpenSpec.upto regsPrintsSpec)

/-- 'rootstocklaw05.RegsMatches', WHERE WHAT IT READS IS OF BULK AT MOST 1048576: true; the input reads as it did. -/
def regsMatchesUptoRow : OpenClaim := { program := "ytmjojahkbjlcdaadoor", sum := "053b715e73b14b1a768eeb3573d9700582472f64784e7079074191ceb5d97816", func := "rootstock/rootstocklaw05.RegsMatches", spec := "regsMatches", inPlace := ["internal/abi.NoEscape", "internal/bytealg.IndexByteString"], unfollowed := true, recurses := true, named := ["math/bits.deBruijn64tab"], loops := true, apart := false, laid := [("math/bits.deBruijn64tab", laid_math_bits_deBruijn64tab)], narrowed := true }
def RegsMatchesUptoSaid : Prop := regsMatchesUptoRow.holds Tryd.pinned (OpenSpec.upto regsMatchesSpec)

/-- 'rootstocklaw05.RegsBack', WHERE WHAT IT READS IS OF BULK AT MOST 1048576: true; the input reads as it did. -/
def regsBackUptoRow : OpenClaim := { program := "ytmjojahkbjlcdaadoor", sum := "053b715e73b14b1a768eeb3573d9700582472f64784e7079074191ceb5d97816", func := "rootstock/rootstocklaw05.RegsBack", spec := "regsBack", inPlace := ["internal/bytealg.IndexByteString", "internal/abi.NoEscape"], unfollowed := true, recurses := true, named := ["math/bits.deBruijn64tab"], apart := false, laid := [("math/bits.deBruijn64tab", laid_math_bits_deBruijn64tab)], narrowed := true }
def RegsBackUptoSaid : Prop := regsBackUptoRow.holds Tryd.pinned (OpenSpec.upto regsBackSpec)

/-- 'rootstocklaw05.RegsTold', WHERE WHAT IT READS IS OF BULK AT MOST 1048576: true; the input reads as it did. -/
def regsToldUptoRow : OpenClaim := { program := "ytmjojahkbjlcdaadoor", sum := "053b715e73b14b1a768eeb3573d9700582472f64784e7079074191ceb5d97816", func := "rootstock/rootstocklaw05.RegsTold", spec := "regsTold", inPlace := ["internal/abi.NoEscape", "internal/bytealg.IndexByteString"], unfollowed := true, recurses := true, named := ["math/bits.deBruijn64tab"], loops := true, apart := false, laid := [("math/bits.deBruijn64tab", laid_math_bits_deBruijn64tab)], narrowed := true }
def RegsToldUptoSaid : Prop := regsToldUptoRow.holds Tryd.pinned (OpenSpec.upto regsToldSpec)

/-- 'rootstocklaw05.RegsParts', WHERE WHAT IT READS IS OF BULK AT MOST 1048576: true; the input reads as it did. -/
def regsPartsUptoRow : OpenClaim := { program := "ytmjojahkbjlcdaadoor", sum := "053b715e73b14b1a768eeb3573d9700582472f64784e7079074191ceb5d97816", func := "rootstock/rootstocklaw05.RegsParts", spec := "regsParts", inPlace := ["internal/abi.NoEscape", "internal/bytealg.IndexByteString"], unfollowed := true, recurses := true, named := ["math/bits.deBruijn64tab"], loops := true, apart := false, laid := [("math/bits.deBruijn64tab", laid_math_bits_deBruijn64tab)], narrowed := true }
def RegsPartsUptoSaid : Prop := regsPartsUptoRow.holds Tryd.pinned (OpenSpec.upto regsPartsSpec)

/-- 'rootstocklaw05.RegsAgain', WHERE WHAT IT READS IS OF BULK AT MOST 1048576: true; the input reads as it did. -/
def regsAgainUptoRow : OpenClaim := { program := "ytmjojahkbjlcdaadoor", sum := "053b715e73b14b1a768eeb3573d9700582472f64784e7079074191ceb5d97816", func := "rootstock/rootstocklaw05.RegsAgain", spec := "regsAgain", inPlace := ["internal/abi.NoEscape", "internal/bytealg.IndexByteString"], unfollowed := true, recurses := true, named := ["math/bits.deBruijn64tab"], loops := true, apart := false, laid := [("math/bits.deBruijn64tab", laid_math_bits_deBruijn64tab)], narrowed := true }
def RegsAgainUptoSaid : Prop := regsAgainUptoRow.holds Tryd.pinned (OpenSpec.upto regsAgainSpec)

/-- 'rootstocklaw05.RegsWrap', WHERE WHAT IT READS IS OF BULK AT MOST 1048576: true; the input reads as it did. -/
def regsWrapUptoRow : OpenClaim := { program := "ytmjojahkbjlcdaadoor", sum := "053b715e73b14b1a768eeb3573d9700582472f64784e7079074191ceb5d97816", func := "rootstock/rootstocklaw05.RegsWrap", spec := "regsWrap", inPlace := ["internal/bytealg.IndexByteString", "internal/abi.NoEscape"], unfollowed := true, recurses := true, named := ["math/bits.deBruijn64tab"], apart := false, laid := [("math/bits.deBruijn64tab", laid_math_bits_deBruijn64tab)], narrowed := true }
def RegsWrapUptoSaid : Prop := regsWrapUptoRow.holds Tryd.pinned (OpenSpec.upto regsWrapSpec)

/-- 'rootstocklaw05.RegsRow', WHERE WHAT IT READS IS OF BULK AT MOST 1048576: true; the input reads as it did. -/
def regsRowUptoRow : OpenClaim := { program := "ytmjojahkbjlcdaadoor", sum := "053b715e73b14b1a768eeb3573d9700582472f64784e7079074191ceb5d97816", func := "rootstock/rootstocklaw05.RegsRow", spec := "regsRow", inPlace := ["internal/bytealg.IndexByteString", "internal/abi.NoEscape"], unfollowed := true, recurses := true, named := ["math/bits.deBruijn64tab"], apart := false, laid := [("math/bits.deBruijn64tab", laid_math_bits_deBruijn64tab)], narrowed := true }
def RegsRowUptoSaid : Prop := regsRowUptoRow.holds Tryd.pinned (OpenSpec.upto regsRowSpec)

end Rows
end Go.Proofs.YtmjojahkbjlcdaaDoor
