/-
  No cell of these rows narrows 'for every input' (looked for: loops, veiled, ifaces, maps, wideKeys, modest, calm, conditions, laid).
  DERIVED. THE GIVEN ROWS OF THIS SEAT. 9 by the template 'for every input the law returns true; each argument reads behind the call as it read before'; 0 by the template 'total and deterministic' (their statements: YtkhcbnbnalidaaaTotals.lean).
  GIVEN WITH THE SEED: the statements are not yours to turn. If you find one false, say at which input.
  Laid BY PROGRAM, IN A SANDBOX (cutbox-rows.mjs): the forced cells as the released guide's own fill.sh prints them over the translation d8531e943fb0410d… (all of the seat's roots in one cut). By AI agents, Wed Nov 11 2026. No macro, syntax, notation, axiom, sorry.
-/
import Derived.Test.YtkhcbnbnalidaaaChecked
import GoSem.Claim
import GoSem.ClaimJoined
import GoSem.ClaimMapViews
import Derived.JoinedTies
import Derived.KernelRfl
namespace Go.Proofs.Ytkhcbnbnalidaaa
/- THE CELL 'sum', in the pinned program and in every row, IS THE sha256 OF THE DUMP (.gsa) THAT YtkhcbnbnalidaaaProg.lean LOADS. Nothing in Lean hashes anything: it is a label: what it is worth is what the hold of that sum in a sandbox is worth. -/
noncomputable def Try.pinned : Pinned := { name := "ytkhcbnbnalidaaa", sum := "d8531e943fb0410d7f3b54f754075db7acb8e4dce27db3cb1c649f47fbea2dea", checked := Try.checked }
namespace Rows
def none {H : Type} : Left H := { results := [], args := [] }

/-- 'rootstocklaw08.MiniLeast': WHATEVER THE INPUT: true; the input reads as it did. -/
def miniLeastSpec : ChangeSpec := { name := "miniLeast", fn := fun _ => fun
  | [d] => { results := [.lit (.bool true)], args := [d] }
  | _ => none }
def miniLeastRow : OpenClaim := { program := "ytkhcbnbnalidaaa", sum := "d8531e943fb0410d7f3b54f754075db7acb8e4dce27db3cb1c649f47fbea2dea", func := "rootstock/rootstocklaw08.MiniLeast", spec := "miniLeast", unfollowed := true, recurses := true, plainKeys := false, apart := false }
def MiniLeastSaid : Prop := miniLeastRow.holds Try.pinned (OpenSpec.ofChange miniLeastSpec)

/-- ITS FALSE NEIGHBOUR: 'it returns false'. Refute it at one input. -/
def miniLeastWrong : ChangeSpec := { name := "miniLeast", fn := fun _ => fun
  | [d] => { results := [.lit (.bool false)], args := [d] }
  | _ => none }
def MiniLeastWrongFalsely : Prop := miniLeastRow.holds Try.pinned (OpenSpec.ofChange miniLeastWrong)

/-- 'rootstocklaw08.MiniSame': WHATEVER THE INPUT: true; the input reads as it did. -/
def miniSameSpec : ChangeSpec := { name := "miniSame", fn := fun _ => fun
  | [d1, d2] => { results := [.lit (.bool true)], args := [d1, d2] }
  | _ => none }
def miniSameRow : OpenClaim := { program := "ytkhcbnbnalidaaa", sum := "d8531e943fb0410d7f3b54f754075db7acb8e4dce27db3cb1c649f47fbea2dea", func := "rootstock/rootstocklaw08.MiniSame", spec := "miniSame", unfollowed := true, recurses := true, plainKeys := false, apart := false }
def MiniSameSaid : Prop := miniSameRow.holds Try.pinned (OpenSpec.ofChange miniSameSpec)

/-- ITS FALSE NEIGHBOUR: 'it returns false'. Refute it at one input. -/
def miniSameWrong : ChangeSpec := { name := "miniSame", fn := fun _ => fun
  | [d1, d2] => { results := [.lit (.bool false)], args := [d1, d2] }
  | _ => none }
def MiniSameWrongFalsely : Prop := miniSameRow.holds Try.pinned (OpenSpec.ofChange miniSameWrong)

/-- 'rootstocklaw08.MiniTells': WHATEVER THE INPUT: true; the input reads as it did. -/
def miniTellsSpec : ChangeSpec := { name := "miniTells", fn := fun _ => fun
  | [d1, d2] => { results := [.lit (.bool true)], args := [d1, d2] }
  | _ => none }
def miniTellsRow : OpenClaim := { program := "ytkhcbnbnalidaaa", sum := "d8531e943fb0410d7f3b54f754075db7acb8e4dce27db3cb1c649f47fbea2dea", func := "rootstock/rootstocklaw08.MiniTells", spec := "miniTells", unfollowed := true, recurses := true, plainKeys := false, apart := false }
def MiniTellsSaid : Prop := miniTellsRow.holds Try.pinned (OpenSpec.ofChange miniTellsSpec)

/-- ITS FALSE NEIGHBOUR: 'it returns false'. Refute it at one input. -/
def miniTellsWrong : ChangeSpec := { name := "miniTells", fn := fun _ => fun
  | [d1, d2] => { results := [.lit (.bool false)], args := [d1, d2] }
  | _ => none }
def MiniTellsWrongFalsely : Prop := miniTellsRow.holds Try.pinned (OpenSpec.ofChange miniTellsWrong)

/-- 'rootstocklaw08.MiniOnce': WHATEVER THE INPUT: true; the input reads as it did. -/
def miniOnceSpec : ChangeSpec := { name := "miniOnce", fn := fun _ => fun
  | [d] => { results := [.lit (.bool true)], args := [d] }
  | _ => none }
def miniOnceRow : OpenClaim := { program := "ytkhcbnbnalidaaa", sum := "d8531e943fb0410d7f3b54f754075db7acb8e4dce27db3cb1c649f47fbea2dea", func := "rootstock/rootstocklaw08.MiniOnce", spec := "miniOnce", unfollowed := true, recurses := true, plainKeys := false, apart := false }
def MiniOnceSaid : Prop := miniOnceRow.holds Try.pinned (OpenSpec.ofChange miniOnceSpec)

/-- ITS FALSE NEIGHBOUR: 'it returns false'. Refute it at one input. -/
def miniOnceWrong : ChangeSpec := { name := "miniOnce", fn := fun _ => fun
  | [d] => { results := [.lit (.bool false)], args := [d] }
  | _ => none }
def MiniOnceWrongFalsely : Prop := miniOnceRow.holds Try.pinned (OpenSpec.ofChange miniOnceWrong)

/-- 'rootstocklaw08.MiniTurned': WHATEVER THE INPUT: true; the input reads as it did. -/
def miniTurnedSpec : ChangeSpec := { name := "miniTurned", fn := fun _ => fun
  | [d1, d2] => { results := [.lit (.bool true)], args := [d1, d2] }
  | _ => none }
def miniTurnedRow : OpenClaim := { program := "ytkhcbnbnalidaaa", sum := "d8531e943fb0410d7f3b54f754075db7acb8e4dce27db3cb1c649f47fbea2dea", func := "rootstock/rootstocklaw08.MiniTurned", spec := "miniTurned", unfollowed := true, recurses := true, plainKeys := false, apart := false }
def MiniTurnedSaid : Prop := miniTurnedRow.holds Try.pinned (OpenSpec.ofChange miniTurnedSpec)

/-- ITS FALSE NEIGHBOUR: 'it returns false'. Refute it at one input. -/
def miniTurnedWrong : ChangeSpec := { name := "miniTurned", fn := fun _ => fun
  | [d1, d2] => { results := [.lit (.bool false)], args := [d1, d2] }
  | _ => none }
def MiniTurnedWrongFalsely : Prop := miniTurnedRow.holds Try.pinned (OpenSpec.ofChange miniTurnedWrong)

/-- 'rootstocklaw08.MiniApart': WHATEVER THE INPUT: true; the input reads as it did. -/
def miniApartSpec : ChangeSpec := { name := "miniApart", fn := fun _ => fun
  | [d] => { results := [.lit (.bool true)], args := [d] }
  | _ => none }
def miniApartRow : OpenClaim := { program := "ytkhcbnbnalidaaa", sum := "d8531e943fb0410d7f3b54f754075db7acb8e4dce27db3cb1c649f47fbea2dea", func := "rootstock/rootstocklaw08.MiniApart", spec := "miniApart", unfollowed := true, recurses := true, plainKeys := false, apart := false }
def MiniApartSaid : Prop := miniApartRow.holds Try.pinned (OpenSpec.ofChange miniApartSpec)

/-- ITS FALSE NEIGHBOUR: 'it returns false'. Refute it at one input. -/
def miniApartWrong : ChangeSpec := { name := "miniApart", fn := fun _ => fun
  | [d] => { results := [.lit (.bool false)], args := [d] }
  | _ => none }
def MiniApartWrongFalsely : Prop := miniApartRow.holds Try.pinned (OpenSpec.ofChange miniApartWrong)

/-- 'rootstocklaw08.MiniMore': WHATEVER THE INPUT: true; the input reads as it did. -/
def miniMoreSpec : ChangeSpec := { name := "miniMore", fn := fun _ => fun
  | [d1, d2, d3] => { results := [.lit (.bool true)], args := [d1, d2, d3] }
  | _ => none }
def miniMoreRow : OpenClaim := { program := "ytkhcbnbnalidaaa", sum := "d8531e943fb0410d7f3b54f754075db7acb8e4dce27db3cb1c649f47fbea2dea", func := "rootstock/rootstocklaw08.MiniMore", spec := "miniMore", unfollowed := true, recurses := true, plainKeys := false, apart := false }
def MiniMoreSaid : Prop := miniMoreRow.holds Try.pinned (OpenSpec.ofChange miniMoreSpec)

/-- ITS FALSE NEIGHBOUR: 'it returns false'. Refute it at one input. -/
def miniMoreWrong : ChangeSpec := { name := "miniMore", fn := fun _ => fun
  | [d1, d2, d3] => { results := [.lit (.bool false)], args := [d1, d2, d3] }
  | _ => none }
def MiniMoreWrongFalsely : Prop := miniMoreRow.holds Try.pinned (OpenSpec.ofChange miniMoreWrong)

/-- 'rootstocklaw09.MunchTells': WHATEVER THE INPUT: true; the input reads as it did. -/
def munchTellsSpec : ChangeSpec := { name := "munchTells", fn := fun _ => fun
  | [d1, d2, d3] => { results := [.lit (.bool true)], args := [d1, d2, d3] }
  | _ => none }
def munchTellsRow : OpenClaim := { program := "ytkhcbnbnalidaaa", sum := "d8531e943fb0410d7f3b54f754075db7acb8e4dce27db3cb1c649f47fbea2dea", func := "rootstock/rootstocklaw09.MunchTells", spec := "munchTells", unfollowed := true, recurses := true, plainKeys := false, apart := false }
def MunchTellsSaid : Prop := munchTellsRow.holds Try.pinned (OpenSpec.ofChange munchTellsSpec)

/-- ITS FALSE NEIGHBOUR: 'it returns false'. Refute it at one input. -/
def munchTellsWrong : ChangeSpec := { name := "munchTells", fn := fun _ => fun
  | [d1, d2, d3] => { results := [.lit (.bool false)], args := [d1, d2, d3] }
  | _ => none }
def MunchTellsWrongFalsely : Prop := munchTellsRow.holds Try.pinned (OpenSpec.ofChange munchTellsWrong)

/-- 'rootstocklaw09.MunchLess': WHATEVER THE INPUT: true; the input reads as it did. -/
def munchLessSpec : ChangeSpec := { name := "munchLess", fn := fun _ => fun
  | [d1, d2, d3] => { results := [.lit (.bool true)], args := [d1, d2, d3] }
  | _ => none }
def munchLessRow : OpenClaim := { program := "ytkhcbnbnalidaaa", sum := "d8531e943fb0410d7f3b54f754075db7acb8e4dce27db3cb1c649f47fbea2dea", func := "rootstock/rootstocklaw09.MunchLess", spec := "munchLess", unfollowed := true, recurses := true, plainKeys := false, apart := false }
def MunchLessSaid : Prop := munchLessRow.holds Try.pinned (OpenSpec.ofChange munchLessSpec)

/-- ITS FALSE NEIGHBOUR: 'it returns false'. Refute it at one input. -/
def munchLessWrong : ChangeSpec := { name := "munchLess", fn := fun _ => fun
  | [d1, d2, d3] => { results := [.lit (.bool false)], args := [d1, d2, d3] }
  | _ => none }
def MunchLessWrongFalsely : Prop := munchLessRow.holds Try.pinned (OpenSpec.ofChange munchLessWrong)

/- THE SECOND FORM. 'bulk': how many values and letters a reading holds, each counted each time it is reached (what is shared counts as often as it is met; a slice's spare places count too). A statement '..UptoSaid' is the law's where the arguments, and the package variables that the reading takes, are together of bulk at most 1048576: NARROWER than '..Said'. Prove '..Said' where nothing that the law and all that it calls make is longer than what came in: it says more and counts as full. Else prove '..UptoSaid'. A law counts once. -/
mutual
def uptoBulk {H : Type} : DataW H → Nat
  | .lit (.string bytes) => bytes.length + 1
  | .lit _ => 1
  | .nil => 1
  | .ptr d => uptoBulk d + 1
  | .slice elems spare => uptoBulkAll elems + uptoBulkAll spare + 1
  | .agg parts => uptoBulkAll parts + 1
  | .iface _ d => uptoBulk d + 1
  | .map entries => uptoBulkEntries entries + 1
  | .held _ => 1
def uptoBulkAll {H : Type} : List (DataW H) → Nat
  | [] => 0
  | d :: r => uptoBulk d + uptoBulkAll r
def uptoBulkEntries {H : Type} : List (Lit × DataW H) → Nat
  | [] => 0
  | x :: r => uptoBulkEntry x + uptoBulkEntries r
def uptoBulkEntry {H : Type} : Lit × DataW H → Nat
  | (.string bytes, d) => bytes.length + uptoBulk d + 1
  | (_, d) => uptoBulk d + 1
 end
def uptoSmall : (H : Type) → List (DataW H) → Bool := fun _ ds => decide (uptoBulkAll ds ≤ 1048576)
def OpenSpec.upto (s : _root_.Go.ChangeSpec) : _root_.Go.OpenSpec := { _root_.Go.OpenSpec.ofChange s with cond := some uptoSmall }

/-- 'rootstocklaw08.MiniLeast', WHERE WHAT IT READS IS OF BULK AT MOST 1048576: true; the input reads as it did. -/
def miniLeastUptoRow : OpenClaim := { program := "ytkhcbnbnalidaaa", sum := "d8531e943fb0410d7f3b54f754075db7acb8e4dce27db3cb1c649f47fbea2dea", func := "rootstock/rootstocklaw08.MiniLeast", spec := "miniLeast", unfollowed := true, recurses := true, plainKeys := false, apart := false, narrowed := true }
def MiniLeastUptoSaid : Prop := miniLeastUptoRow.holds Try.pinned (OpenSpec.upto miniLeastSpec)

/-- 'rootstocklaw08.MiniSame', WHERE WHAT IT READS IS OF BULK AT MOST 1048576: true; the input reads as it did. -/
def miniSameUptoRow : OpenClaim := { program := "ytkhcbnbnalidaaa", sum := "d8531e943fb0410d7f3b54f754075db7acb8e4dce27db3cb1c649f47fbea2dea", func := "rootstock/rootstocklaw08.MiniSame", spec := "miniSame", unfollowed := true, recurses := true, plainKeys := false, apart := false, narrowed := true }
def MiniSameUptoSaid : Prop := miniSameUptoRow.holds Try.pinned (OpenSpec.upto miniSameSpec)

/-- 'rootstocklaw08.MiniTells', WHERE WHAT IT READS IS OF BULK AT MOST 1048576: true; the input reads as it did. -/
def miniTellsUptoRow : OpenClaim := { program := "ytkhcbnbnalidaaa", sum := "d8531e943fb0410d7f3b54f754075db7acb8e4dce27db3cb1c649f47fbea2dea", func := "rootstock/rootstocklaw08.MiniTells", spec := "miniTells", unfollowed := true, recurses := true, plainKeys := false, apart := false, narrowed := true }
def MiniTellsUptoSaid : Prop := miniTellsUptoRow.holds Try.pinned (OpenSpec.upto miniTellsSpec)

/-- 'rootstocklaw08.MiniOnce', WHERE WHAT IT READS IS OF BULK AT MOST 1048576: true; the input reads as it did. -/
def miniOnceUptoRow : OpenClaim := { program := "ytkhcbnbnalidaaa", sum := "d8531e943fb0410d7f3b54f754075db7acb8e4dce27db3cb1c649f47fbea2dea", func := "rootstock/rootstocklaw08.MiniOnce", spec := "miniOnce", unfollowed := true, recurses := true, plainKeys := false, apart := false, narrowed := true }
def MiniOnceUptoSaid : Prop := miniOnceUptoRow.holds Try.pinned (OpenSpec.upto miniOnceSpec)

/-- 'rootstocklaw08.MiniTurned', WHERE WHAT IT READS IS OF BULK AT MOST 1048576: true; the input reads as it did. -/
def miniTurnedUptoRow : OpenClaim := { program := "ytkhcbnbnalidaaa", sum := "d8531e943fb0410d7f3b54f754075db7acb8e4dce27db3cb1c649f47fbea2dea", func := "rootstock/rootstocklaw08.MiniTurned", spec := "miniTurned", unfollowed := true, recurses := true, plainKeys := false, apart := false, narrowed := true }
def MiniTurnedUptoSaid : Prop := miniTurnedUptoRow.holds Try.pinned (OpenSpec.upto miniTurnedSpec)

/-- 'rootstocklaw08.MiniApart', WHERE WHAT IT READS IS OF BULK AT MOST 1048576: true; the input reads as it did. -/
def miniApartUptoRow : OpenClaim := { program := "ytkhcbnbnalidaaa", sum := "d8531e943fb0410d7f3b54f754075db7acb8e4dce27db3cb1c649f47fbea2dea", func := "rootstock/rootstocklaw08.MiniApart", spec := "miniApart", unfollowed := true, recurses := true, plainKeys := false, apart := false, narrowed := true }
def MiniApartUptoSaid : Prop := miniApartUptoRow.holds Try.pinned (OpenSpec.upto miniApartSpec)

/-- 'rootstocklaw08.MiniMore', WHERE WHAT IT READS IS OF BULK AT MOST 1048576: true; the input reads as it did. -/
def miniMoreUptoRow : OpenClaim := { program := "ytkhcbnbnalidaaa", sum := "d8531e943fb0410d7f3b54f754075db7acb8e4dce27db3cb1c649f47fbea2dea", func := "rootstock/rootstocklaw08.MiniMore", spec := "miniMore", unfollowed := true, recurses := true, plainKeys := false, apart := false, narrowed := true }
def MiniMoreUptoSaid : Prop := miniMoreUptoRow.holds Try.pinned (OpenSpec.upto miniMoreSpec)

/-- 'rootstocklaw09.MunchTells', WHERE WHAT IT READS IS OF BULK AT MOST 1048576: true; the input reads as it did. -/
def munchTellsUptoRow : OpenClaim := { program := "ytkhcbnbnalidaaa", sum := "d8531e943fb0410d7f3b54f754075db7acb8e4dce27db3cb1c649f47fbea2dea", func := "rootstock/rootstocklaw09.MunchTells", spec := "munchTells", unfollowed := true, recurses := true, plainKeys := false, apart := false, narrowed := true }
def MunchTellsUptoSaid : Prop := munchTellsUptoRow.holds Try.pinned (OpenSpec.upto munchTellsSpec)

/-- 'rootstocklaw09.MunchLess', WHERE WHAT IT READS IS OF BULK AT MOST 1048576: true; the input reads as it did. -/
def munchLessUptoRow : OpenClaim := { program := "ytkhcbnbnalidaaa", sum := "d8531e943fb0410d7f3b54f754075db7acb8e4dce27db3cb1c649f47fbea2dea", func := "rootstock/rootstocklaw09.MunchLess", spec := "munchLess", unfollowed := true, recurses := true, plainKeys := false, apart := false, narrowed := true }
def MunchLessUptoSaid : Prop := munchLessUptoRow.holds Try.pinned (OpenSpec.upto munchLessSpec)

end Rows
end Go.Proofs.Ytkhcbnbnalidaaa
