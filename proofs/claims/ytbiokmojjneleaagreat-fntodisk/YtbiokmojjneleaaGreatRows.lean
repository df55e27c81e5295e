/-
  No cell of these rows narrows 'for every input' (looked for: loops, veiled, ifaces, maps, wideKeys, modest, calm, conditions, laid).
  DERIVED. THE GIVEN ROWS OF THIS SEAT. 17 by the template 'for every input the law returns true; each argument reads behind the call as it read before'; 0 by the template 'total and deterministic' (their statements: YtbiokmojjneleaaGreatTotals.lean).
  GIVEN WITH THE SEED: the statements are not yours to turn. If you find one false, say at which input.
  Laid BY PROGRAM, IN A SANDBOX (cutbox-rows.mjs): the forced cells as the released guide's own fill.sh prints them over the translation 933f0cc41b7eb0b7… (all of the seat's roots in one cut). By AI agents, Wed Nov 11 2026. No macro, syntax, notation, axiom, sorry.
-/
import Derived.Test.YtbiokmojjneleaaGreatChecked
import GoSem.Claim
import GoSem.ClaimJoined
import GoSem.ClaimMapViews
import Derived.JoinedTies
import Derived.KernelRfl
namespace Go.Proofs.YtbiokmojjneleaaGreat
/- THE CELL 'sum', in the pinned program and in every row, IS THE sha256 OF THE DUMP (.gsa) THAT YtbiokmojjneleaaGreatProg.lean LOADS. Nothing in Lean hashes anything: it is a label: what it is worth is what the hold of that sum in a sandbox is worth. -/
noncomputable def Tryz.pinned : Pinned := { name := "ytbiokmojjneleaagreat", sum := "933f0cc41b7eb0b7ae24909a4c8749c14066e65d75eb0091a2a32c036c038f02", checked := Tryz.checked }
namespace Rows
def none {H : Type} : Left H := { results := [], args := [] }

/-- 'laws.FnToSteps': WHATEVER THE INPUT: true; the input reads as it did. -/
def fnToStepsSpec : ChangeSpec := { name := "fnToSteps", fn := fun _ => fun
  | [d1, d2] => { results := [.lit (.bool true)], args := [d1, d2] }
  | _ => none }
def fnToStepsRow : OpenClaim := { program := "ytbiokmojjneleaagreat", sum := "933f0cc41b7eb0b7ae24909a4c8749c14066e65d75eb0091a2a32c036c038f02", func := "loop.example/buttery/laws.FnToSteps", spec := "fnToSteps", unfollowed := true, recurses := true, apart := false }
def FnToStepsSaid : Prop := fnToStepsRow.holds Tryz.pinned (OpenSpec.ofChange fnToStepsSpec)

/-- ITS FALSE NEIGHBOUR: 'it returns false'. Refute it at one input. -/
def fnToStepsWrong : ChangeSpec := { name := "fnToSteps", fn := fun _ => fun
  | [d1, d2] => { results := [.lit (.bool false)], args := [d1, d2] }
  | _ => none }
def FnToStepsWrongFalsely : Prop := fnToStepsRow.holds Tryz.pinned (OpenSpec.ofChange fnToStepsWrong)

/-- 'laws.FnToDisk': WHATEVER THE INPUT: true; the input reads as it did. -/
def fnToDiskSpec : ChangeSpec := { name := "fnToDisk", fn := fun _ => fun
  | [d] => { results := [.lit (.bool true)], args := [d] }
  | _ => none }
def fnToDiskRow : OpenClaim := { program := "ytbiokmojjneleaagreat", sum := "933f0cc41b7eb0b7ae24909a4c8749c14066e65d75eb0091a2a32c036c038f02", func := "loop.example/buttery/laws.FnToDisk", spec := "fnToDisk", unfollowed := true, recurses := true, apart := false }
def FnToDiskSaid : Prop := fnToDiskRow.holds Tryz.pinned (OpenSpec.ofChange fnToDiskSpec)

/-- ITS FALSE NEIGHBOUR: 'it returns false'. Refute it at one input. -/
def fnToDiskWrong : ChangeSpec := { name := "fnToDisk", fn := fun _ => fun
  | [d] => { results := [.lit (.bool false)], args := [d] }
  | _ => none }
def FnToDiskWrongFalsely : Prop := fnToDiskRow.holds Tryz.pinned (OpenSpec.ofChange fnToDiskWrong)

/-- 'laws.FnDoOk': WHATEVER THE INPUT: true; the input reads as it did. -/
def fnDoOkSpec : ChangeSpec := { name := "fnDoOk", fn := fun _ => fun
  | [d] => { results := [.lit (.bool true)], args := [d] }
  | _ => none }
def fnDoOkRow : OpenClaim := { program := "ytbiokmojjneleaagreat", sum := "933f0cc41b7eb0b7ae24909a4c8749c14066e65d75eb0091a2a32c036c038f02", func := "loop.example/buttery/laws.FnDoOk", spec := "fnDoOk", unfollowed := true, recurses := true, apart := false }
def FnDoOkSaid : Prop := fnDoOkRow.holds Tryz.pinned (OpenSpec.ofChange fnDoOkSpec)

/-- ITS FALSE NEIGHBOUR: 'it returns false'. Refute it at one input. -/
def fnDoOkWrong : ChangeSpec := { name := "fnDoOk", fn := fun _ => fun
  | [d] => { results := [.lit (.bool false)], args := [d] }
  | _ => none }
def FnDoOkWrongFalsely : Prop := fnDoOkRow.holds Tryz.pinned (OpenSpec.ofChange fnDoOkWrong)

/-- 'laws.FnDoSteps': WHATEVER THE INPUT: true; the input reads as it did. -/
def fnDoStepsSpec : ChangeSpec := { name := "fnDoSteps", fn := fun _ => fun
  | [d] => { results := [.lit (.bool true)], args := [d] }
  | _ => none }
def fnDoStepsRow : OpenClaim := { program := "ytbiokmojjneleaagreat", sum := "933f0cc41b7eb0b7ae24909a4c8749c14066e65d75eb0091a2a32c036c038f02", func := "loop.example/buttery/laws.FnDoSteps", spec := "fnDoSteps", unfollowed := true, recurses := true, apart := false }
def FnDoStepsSaid : Prop := fnDoStepsRow.holds Tryz.pinned (OpenSpec.ofChange fnDoStepsSpec)

/-- ITS FALSE NEIGHBOUR: 'it returns false'. Refute it at one input. -/
def fnDoStepsWrong : ChangeSpec := { name := "fnDoSteps", fn := fun _ => fun
  | [d] => { results := [.lit (.bool false)], args := [d] }
  | _ => none }
def FnDoStepsWrongFalsely : Prop := fnDoStepsRow.holds Tryz.pinned (OpenSpec.ofChange fnDoStepsWrong)

/-- 'laws.FnRunCut': WHATEVER THE INPUT: true; the input reads as it did. -/
def fnRunCutSpec : ChangeSpec := { name := "fnRunCut", fn := fun _ => fun
  | [d1, d2] => { results := [.lit (.bool true)], args := [d1, d2] }
  | _ => none }
def fnRunCutRow : OpenClaim := { program := "ytbiokmojjneleaagreat", sum := "933f0cc41b7eb0b7ae24909a4c8749c14066e65d75eb0091a2a32c036c038f02", func := "loop.example/buttery/laws.FnRunCut", spec := "fnRunCut", unfollowed := true, recurses := true, apart := false }
def FnRunCutSaid : Prop := fnRunCutRow.holds Tryz.pinned (OpenSpec.ofChange fnRunCutSpec)

/-- ITS FALSE NEIGHBOUR: 'it returns false'. Refute it at one input. -/
def fnRunCutWrong : ChangeSpec := { name := "fnRunCut", fn := fun _ => fun
  | [d1, d2] => { results := [.lit (.bool false)], args := [d1, d2] }
  | _ => none }
def FnRunCutWrongFalsely : Prop := fnRunCutRow.holds Tryz.pinned (OpenSpec.ofChange fnRunCutWrong)

/-- 'laws.FnRunNever': WHATEVER THE INPUT: true; the input reads as it did. -/
def fnRunNeverSpec : ChangeSpec := { name := "fnRunNever", fn := fun _ => fun
  | [d] => { results := [.lit (.bool true)], args := [d] }
  | _ => none }
def fnRunNeverRow : OpenClaim := { program := "ytbiokmojjneleaagreat", sum := "933f0cc41b7eb0b7ae24909a4c8749c14066e65d75eb0091a2a32c036c038f02", func := "loop.example/buttery/laws.FnRunNever", spec := "fnRunNever", unfollowed := true, recurses := true, apart := false }
def FnRunNeverSaid : Prop := fnRunNeverRow.holds Tryz.pinned (OpenSpec.ofChange fnRunNeverSpec)

/-- ITS FALSE NEIGHBOUR: 'it returns false'. Refute it at one input. -/
def fnRunNeverWrong : ChangeSpec := { name := "fnRunNever", fn := fun _ => fun
  | [d] => { results := [.lit (.bool false)], args := [d] }
  | _ => none }
def FnRunNeverWrongFalsely : Prop := fnRunNeverRow.holds Tryz.pinned (OpenSpec.ofChange fnRunNeverWrong)

/-- 'laws.FnRunStays': WHATEVER THE INPUT: true; the input reads as it did. -/
def fnRunStaysSpec : ChangeSpec := { name := "fnRunStays", fn := fun _ => fun
  | [d1, d2] => { results := [.lit (.bool true)], args := [d1, d2] }
  | _ => none }
def fnRunStaysRow : OpenClaim := { program := "ytbiokmojjneleaagreat", sum := "933f0cc41b7eb0b7ae24909a4c8749c14066e65d75eb0091a2a32c036c038f02", func := "loop.example/buttery/laws.FnRunStays", spec := "fnRunStays", unfollowed := true, recurses := true, apart := false }
def FnRunStaysSaid : Prop := fnRunStaysRow.holds Tryz.pinned (OpenSpec.ofChange fnRunStaysSpec)

/-- ITS FALSE NEIGHBOUR: 'it returns false'. Refute it at one input. -/
def fnRunStaysWrong : ChangeSpec := { name := "fnRunStays", fn := fun _ => fun
  | [d1, d2] => { results := [.lit (.bool false)], args := [d1, d2] }
  | _ => none }
def FnRunStaysWrongFalsely : Prop := fnRunStaysRow.holds Tryz.pinned (OpenSpec.ofChange fnRunStaysWrong)

/-- 'laws.FnRunAll': WHATEVER THE INPUT: true; the input reads as it did. -/
def fnRunAllSpec : ChangeSpec := { name := "fnRunAll", fn := fun _ => fun
  | [d] => { results := [.lit (.bool true)], args := [d] }
  | _ => none }
def fnRunAllRow : OpenClaim := { program := "ytbiokmojjneleaagreat", sum := "933f0cc41b7eb0b7ae24909a4c8749c14066e65d75eb0091a2a32c036c038f02", func := "loop.example/buttery/laws.FnRunAll", spec := "fnRunAll", unfollowed := true, recurses := true, apart := false }
def FnRunAllSaid : Prop := fnRunAllRow.holds Tryz.pinned (OpenSpec.ofChange fnRunAllSpec)

/-- ITS FALSE NEIGHBOUR: 'it returns false'. Refute it at one input. -/
def fnRunAllWrong : ChangeSpec := { name := "fnRunAll", fn := fun _ => fun
  | [d] => { results := [.lit (.bool false)], args := [d] }
  | _ => none }
def FnRunAllWrongFalsely : Prop := fnRunAllRow.holds Tryz.pinned (OpenSpec.ofChange fnRunAllWrong)

/-- 'laws.FnRunPut': WHATEVER THE INPUT: true; the input reads as it did. -/
def fnRunPutSpec : ChangeSpec := { name := "fnRunPut", fn := fun _ => fun
  | [d1, d2] => { results := [.lit (.bool true)], args := [d1, d2] }
  | _ => none }
def fnRunPutRow : OpenClaim := { program := "ytbiokmojjneleaagreat", sum := "933f0cc41b7eb0b7ae24909a4c8749c14066e65d75eb0091a2a32c036c038f02", func := "loop.example/buttery/laws.FnRunPut", spec := "fnRunPut", unfollowed := true, recurses := true, apart := false }
def FnRunPutSaid : Prop := fnRunPutRow.holds Tryz.pinned (OpenSpec.ofChange fnRunPutSpec)

/-- ITS FALSE NEIGHBOUR: 'it returns false'. Refute it at one input. -/
def fnRunPutWrong : ChangeSpec := { name := "fnRunPut", fn := fun _ => fun
  | [d1, d2] => { results := [.lit (.bool false)], args := [d1, d2] }
  | _ => none }
def FnRunPutWrongFalsely : Prop := fnRunPutRow.holds Tryz.pinned (OpenSpec.ofChange fnRunPutWrong)

/-- 'laws.FnRunOrder': WHATEVER THE INPUT: true; the input reads as it did. -/
def fnRunOrderSpec : ChangeSpec := { name := "fnRunOrder", fn := fun _ => fun
  | [d] => { results := [.lit (.bool true)], args := [d] }
  | _ => none }
def fnRunOrderRow : OpenClaim := { program := "ytbiokmojjneleaagreat", sum := "933f0cc41b7eb0b7ae24909a4c8749c14066e65d75eb0091a2a32c036c038f02", func := "loop.example/buttery/laws.FnRunOrder", spec := "fnRunOrder", unfollowed := true, recurses := true, apart := false }
def FnRunOrderSaid : Prop := fnRunOrderRow.holds Tryz.pinned (OpenSpec.ofChange fnRunOrderSpec)

/-- ITS FALSE NEIGHBOUR: 'it returns false'. Refute it at one input. -/
def fnRunOrderWrong : ChangeSpec := { name := "fnRunOrder", fn := fun _ => fun
  | [d] => { results := [.lit (.bool false)], args := [d] }
  | _ => none }
def FnRunOrderWrongFalsely : Prop := fnRunOrderRow.holds Tryz.pinned (OpenSpec.ofChange fnRunOrderWrong)

/-- 'laws.FnRunIdle': WHATEVER THE INPUT: true; the input reads as it did. -/
def fnRunIdleSpec : ChangeSpec := { name := "fnRunIdle", fn := fun _ => fun
  | [d] => { results := [.lit (.bool true)], args := [d] }
  | _ => none }
def fnRunIdleRow : OpenClaim := { program := "ytbiokmojjneleaagreat", sum := "933f0cc41b7eb0b7ae24909a4c8749c14066e65d75eb0091a2a32c036c038f02", func := "loop.example/buttery/laws.FnRunIdle", spec := "fnRunIdle", unfollowed := true, recurses := true, apart := false }
def FnRunIdleSaid : Prop := fnRunIdleRow.holds Tryz.pinned (OpenSpec.ofChange fnRunIdleSpec)

/-- ITS FALSE NEIGHBOUR: 'it returns false'. Refute it at one input. -/
def fnRunIdleWrong : ChangeSpec := { name := "fnRunIdle", fn := fun _ => fun
  | [d] => { results := [.lit (.bool false)], args := [d] }
  | _ => none }
def FnRunIdleWrongFalsely : Prop := fnRunIdleRow.holds Tryz.pinned (OpenSpec.ofChange fnRunIdleWrong)

/-- 'laws.FnRunAddr': WHATEVER THE INPUT: true; the input reads as it did. -/
def fnRunAddrSpec : ChangeSpec := { name := "fnRunAddr", fn := fun _ => fun
  | [d1, d2] => { results := [.lit (.bool true)], args := [d1, d2] }
  | _ => none }
def fnRunAddrRow : OpenClaim := { program := "ytbiokmojjneleaagreat", sum := "933f0cc41b7eb0b7ae24909a4c8749c14066e65d75eb0091a2a32c036c038f02", func := "loop.example/buttery/laws.FnRunAddr", spec := "fnRunAddr", unfollowed := true, recurses := true, apart := false }
def FnRunAddrSaid : Prop := fnRunAddrRow.holds Tryz.pinned (OpenSpec.ofChange fnRunAddrSpec)

/-- ITS FALSE NEIGHBOUR: 'it returns false'. Refute it at one input. -/
def fnRunAddrWrong : ChangeSpec := { name := "fnRunAddr", fn := fun _ => fun
  | [d1, d2] => { results := [.lit (.bool false)], args := [d1, d2] }
  | _ => none }
def FnRunAddrWrongFalsely : Prop := fnRunAddrRow.holds Tryz.pinned (OpenSpec.ofChange fnRunAddrWrong)

/-- 'laws.FnRunFlush': WHATEVER THE INPUT: true; the input reads as it did. -/
def fnRunFlushSpec : ChangeSpec := { name := "fnRunFlush", fn := fun _ => fun
  | [d] => { results := [.lit (.bool true)], args := [d] }
  | _ => none }
def fnRunFlushRow : OpenClaim := { program := "ytbiokmojjneleaagreat", sum := "933f0cc41b7eb0b7ae24909a4c8749c14066e65d75eb0091a2a32c036c038f02", func := "loop.example/buttery/laws.FnRunFlush", spec := "fnRunFlush", unfollowed := true, recurses := true, apart := false }
def FnRunFlushSaid : Prop := fnRunFlushRow.holds Tryz.pinned (OpenSpec.ofChange fnRunFlushSpec)

/-- ITS FALSE NEIGHBOUR: 'it returns false'. Refute it at one input. -/
def fnRunFlushWrong : ChangeSpec := { name := "fnRunFlush", fn := fun _ => fun
  | [d] => { results := [.lit (.bool false)], args := [d] }
  | _ => none }
def FnRunFlushWrongFalsely : Prop := fnRunFlushRow.holds Tryz.pinned (OpenSpec.ofChange fnRunFlushWrong)

/-- 'laws.FnRunTorn': WHATEVER THE INPUT: true; the input reads as it did. -/
def fnRunTornSpec : ChangeSpec := { name := "fnRunTorn", fn := fun _ => fun
  | [d] => { results := [.lit (.bool true)], args := [d] }
  | _ => none }
def fnRunTornRow : OpenClaim := { program := "ytbiokmojjneleaagreat", sum := "933f0cc41b7eb0b7ae24909a4c8749c14066e65d75eb0091a2a32c036c038f02", func := "loop.example/buttery/laws.FnRunTorn", spec := "fnRunTorn", unfollowed := true, recurses := true, apart := false }
def FnRunTornSaid : Prop := fnRunTornRow.holds Tryz.pinned (OpenSpec.ofChange fnRunTornSpec)

/-- ITS FALSE NEIGHBOUR: 'it returns false'. Refute it at one input. -/
def fnRunTornWrong : ChangeSpec := { name := "fnRunTorn", fn := fun _ => fun
  | [d] => { results := [.lit (.bool false)], args := [d] }
  | _ => none }
def FnRunTornWrongFalsely : Prop := fnRunTornRow.holds Tryz.pinned (OpenSpec.ofChange fnRunTornWrong)

/-- 'laws.FnRunNew': WHATEVER THE INPUT: true; the input reads as it did. -/
def fnRunNewSpec : ChangeSpec := { name := "fnRunNew", fn := fun _ => fun
  | [d] => { results := [.lit (.bool true)], args := [d] }
  | _ => none }
def fnRunNewRow : OpenClaim := { program := "ytbiokmojjneleaagreat", sum := "933f0cc41b7eb0b7ae24909a4c8749c14066e65d75eb0091a2a32c036c038f02", func := "loop.example/buttery/laws.FnRunNew", spec := "fnRunNew", unfollowed := true, recurses := true, apart := false }
def FnRunNewSaid : Prop := fnRunNewRow.holds Tryz.pinned (OpenSpec.ofChange fnRunNewSpec)

/-- ITS FALSE NEIGHBOUR: 'it returns false'. Refute it at one input. -/
def fnRunNewWrong : ChangeSpec := { name := "fnRunNew", fn := fun _ => fun
  | [d] => { results := [.lit (.bool false)], args := [d] }
  | _ => none }
def FnRunNewWrongFalsely : Prop := fnRunNewRow.holds Tryz.pinned (OpenSpec.ofChange fnRunNewWrong)

/-- 'laws.FnRunDisk': WHATEVER THE INPUT: true; the input reads as it did. -/
def fnRunDiskSpec : ChangeSpec := { name := "fnRunDisk", fn := fun _ => fun
  | [d] => { results := [.lit (.bool true)], args := [d] }
  | _ => none }
def fnRunDiskRow : OpenClaim := { program := "ytbiokmojjneleaagreat", sum := "933f0cc41b7eb0b7ae24909a4c8749c14066e65d75eb0091a2a32c036c038f02", func := "loop.example/buttery/laws.FnRunDisk", spec := "fnRunDisk", unfollowed := true, recurses := true, apart := false }
def FnRunDiskSaid : Prop := fnRunDiskRow.holds Tryz.pinned (OpenSpec.ofChange fnRunDiskSpec)

/-- ITS FALSE NEIGHBOUR: 'it returns false'. Refute it at one input. -/
def fnRunDiskWrong : ChangeSpec := { name := "fnRunDisk", fn := fun _ => fun
  | [d] => { results := [.lit (.bool false)], args := [d] }
  | _ => none }
def FnRunDiskWrongFalsely : Prop := fnRunDiskRow.holds Tryz.pinned (OpenSpec.ofChange fnRunDiskWrong)

/-- 'laws.FnRunMany': WHATEVER THE INPUT: true; the input reads as it did. -/
def fnRunManySpec : ChangeSpec := { name := "fnRunMany", fn := fun _ => fun
  | [d] => { results := [.lit (.bool true)], args := [d] }
  | _ => none }
def fnRunManyRow : OpenClaim := { program := "ytbiokmojjneleaagreat", sum := "933f0cc41b7eb0b7ae24909a4c8749c14066e65d75eb0091a2a32c036c038f02", func := "loop.example/buttery/laws.FnRunMany", spec := "fnRunMany", unfollowed := true, recurses := true, apart := false }
def FnRunManySaid : Prop := fnRunManyRow.holds Tryz.pinned (OpenSpec.ofChange fnRunManySpec)

/-- ITS FALSE NEIGHBOUR: 'it returns false'. Refute it at one input. -/
def fnRunManyWrong : ChangeSpec := { name := "fnRunMany", fn := fun _ => fun
  | [d] => { results := [.lit (.bool false)], args := [d] }
  | _ => none }
def FnRunManyWrongFalsely : Prop := fnRunManyRow.holds Tryz.pinned (OpenSpec.ofChange fnRunManyWrong)

/- THE SECOND FORM. 'bulk': how many values and letters a reading holds, each counted each time it is reached (what is shared counts as often as it is met; a slice's spare places count too). A statement '..UptoSaid' is the law's where the arguments, and the package variables that the reading takes, are together of bulk at most 1048576: NARROWER than '..Said'. Prove '..Said' where nothing that the law and all that it calls make is longer than what came in: it says more and counts as full. Else prove '..UptoSaid'. A law counts once. -/
mutual
def uptoBulk {H : Type} : DataW H → Nat
  | .lit (.string bytes) => bytes.length + 1
  | .lit _ => 1
  | .nil => 1
  | .ptr d => uptoBulk d + 1
  | .slice elems spare => uptoBulkAll elems + uptoBulkAll spare + 1
  | .agg parts => uptoBulkAll parts + 1
  | .iface _ d => uptoBulk d + 1
  | .map entries => uptoBulkEntries entries + 1
  | .held _ => 1
def uptoBulkAll {H : Type} : List (DataW H) → Nat
  | [] => 0
  | d :: r => uptoBulk d + uptoBulkAll r
def uptoBulkEntries {H : Type} : List (Lit × DataW H) → Nat
  | [] => 0
  | x :: r => uptoBulkEntry x + uptoBulkEntries r
def uptoBulkEntry {H : Type} : Lit × DataW H → Nat
  | (.string bytes, d) => bytes.length + uptoBulk d + 1
  | (_, d) => uptoBulk d + 1
 end
def uptoSmall : (H : Type) → List (DataW H) → Bool := fun _ ds => decide (uptoBulkAll ds ≤ 1048576)
def OpenSpec.upto (s : _root_.Go.ChangeSpec) : _root_.Go.OpenSpec := { _root_.Go.OpenSpec.ofChange s with cond := some uptoSmall }

/-- 'laws.FnToSteps', WHERE WHAT IT READS IS OF BULK AT MOST 1048576: true; the input reads as it did. -/
def fnToStepsUptoRow : OpenClaim := { program := "ytbiokmojjneleaagreat", sum := "933f0cc41b7eb0b7ae24909a4c8749c14066e65d75eb0091a2a32c036c038f02", func := "loop.example/buttery/laws.FnToSteps", spec := "fnToSteps", unfollowed := true, recurses := true, apart := false, narrowed := true }
def FnToStepsUptoSaid : Prop := fnToStepsUptoRow.holds Tryz.pinned (OpenSpec.upto fnToStepsSpec)

/-- 'laws.FnToDisk', WHERE WHAT IT READS IS OF BULK AT MOST 1048576: true; the input reads as it did. -/
def fnToDiskUptoRow : OpenClaim := { program := "ytbiokmojjneleaagreat", sum := "933f0cc41b7eb0b7ae24909a4c8749c14066e65d75eb0091a2a32c036c038f02", func := "loop.example/buttery/laws.FnToDisk", spec := "fnToDisk", unfollowed := true, recurses := true, apart := false, narrowed := true }
def FnToDiskUptoSaid : Prop := fnToDiskUptoRow.holds Tryz.pinned (OpenSpec.upto fnToDiskSpec)

/-- 'laws.FnDoOk', WHERE WHAT IT READS IS OF BULK AT MOST 1048576: true; the input reads as it did. -/
def fnDoOkUptoRow : OpenClaim := { program := "ytbiokmojjneleaagreat", sum := "933f0cc41b7eb0b7ae24909a4c8749c14066e65d75eb0091a2a32c036c038f02", func := "loop.example/buttery/laws.FnDoOk", spec := "fnDoOk", unfollowed := true, recurses := true, apart := false, narrowed := true }
def FnDoOkUptoSaid : Prop := fnDoOkUptoRow.holds Tryz.pinned (OpenSpec.upto fnDoOkSpec)

/-- 'laws.FnDoSteps', WHERE WHAT IT READS IS OF BULK AT MOST 1048576: true; the input reads as it did. -/
def fnDoStepsUptoRow : OpenClaim := { program := "ytbiokmojjneleaagreat", sum := "933f0cc41b7eb0b7ae24909a4c8749c14066e65d75eb0091a2a32c036c038f02", func := "loop.example/buttery/laws.FnDoSteps", spec := "fnDoSteps", unfollowed := true, recurses := true, apart := false, narrowed := true }
def FnDoStepsUptoSaid : Prop := fnDoStepsUptoRow.holds Tryz.pinned (OpenSpec.upto fnDoStepsSpec)

/-- 'laws.FnRunCut', WHERE WHAT IT READS IS OF BULK AT MOST 1048576: true; the input reads as it did. -/
def fnRunCutUptoRow : OpenClaim := { program := "ytbiokmojjneleaagreat", sum := "933f0cc41b7eb0b7ae24909a4c8749c14066e65d75eb0091a2a32c036c038f02", func := "loop.example/buttery/laws.FnRunCut", spec := "fnRunCut", unfollowed := true, recurses := true, apart := false, narrowed := true }
def FnRunCutUptoSaid : Prop := fnRunCutUptoRow.holds Tryz.pinned (OpenSpec.upto fnRunCutSpec)

/-- 'laws.FnRunNever', WHERE WHAT IT READS IS OF BULK AT MOST 1048576: true; the input reads as it did. -/
def fnRunNeverUptoRow : OpenClaim := { program := "ytbiokmojjneleaagreat", sum := "933f0cc41b7eb0b7ae24909a4c8749c14066e65d75eb0091a2a32c036c038f02", func := "loop.example/buttery/laws.FnRunNever", spec := "fnRunNever", unfollowed := true, recurses := true, apart := false, narrowed := true }
def FnRunNeverUptoSaid : Prop := fnRunNeverUptoRow.holds Tryz.pinned (OpenSpec.upto fnRunNeverSpec)

/-- 'laws.FnRunStays', WHERE WHAT IT READS IS OF BULK AT MOST 1048576: true; the input reads as it did. -/
def fnRunStaysUptoRow : OpenClaim := { program := "ytbiokmojjneleaagreat", sum := "933f0cc41b7eb0b7ae24909a4c8749c14066e65d75eb0091a2a32c036c038f02", func := "loop.example/buttery/laws.FnRunStays", spec := "fnRunStays", unfollowed := true, recurses := true, apart := false, narrowed := true }
def FnRunStaysUptoSaid : Prop := fnRunStaysUptoRow.holds Tryz.pinned (OpenSpec.upto fnRunStaysSpec)

/-- 'laws.FnRunAll', WHERE WHAT IT READS IS OF BULK AT MOST 1048576: true; the input reads as it did. -/
def fnRunAllUptoRow : OpenClaim := { program := "ytbiokmojjneleaagreat", sum := "933f0cc41b7eb0b7ae24909a4c8749c14066e65d75eb0091a2a32c036c038f02", func := "loop.example/buttery/laws.FnRunAll", spec := "fnRunAll", unfollowed := true, recurses := true, apart := false, narrowed := true }
def FnRunAllUptoSaid : Prop := fnRunAllUptoRow.holds Tryz.pinned (OpenSpec.upto fnRunAllSpec)

/-- 'laws.FnRunPut', WHERE WHAT IT READS IS OF BULK AT MOST 1048576: true; the input reads as it did. -/
def fnRunPutUptoRow : OpenClaim := { program := "ytbiokmojjneleaagreat", sum := "933f0cc41b7eb0b7ae24909a4c8749c14066e65d75eb0091a2a32c036c038f02", func := "loop.example/buttery/laws.FnRunPut", spec := "fnRunPut", unfollowed := true, recurses := true, apart := false, narrowed := true }
def FnRunPutUptoSaid : Prop := fnRunPutUptoRow.holds Tryz.pinned (OpenSpec.upto fnRunPutSpec)

/-- 'laws.FnRunOrder', WHERE WHAT IT READS IS OF BULK AT MOST 1048576: true; the input reads as it did. -/
def fnRunOrderUptoRow : OpenClaim := { program := "ytbiokmojjneleaagreat", sum := "933f0cc41b7eb0b7ae24909a4c8749c14066e65d75eb0091a2a32c036c038f02", func := "loop.example/buttery/laws.FnRunOrder", spec := "fnRunOrder", unfollowed := true, recurses := true, apart := false, narrowed := true }
def FnRunOrderUptoSaid : Prop := fnRunOrderUptoRow.holds Tryz.pinned (OpenSpec.upto fnRunOrderSpec)

/-- 'laws.FnRunIdle', WHERE WHAT IT READS IS OF BULK AT MOST 1048576: true; the input reads as it did. -/
def fnRunIdleUptoRow : OpenClaim := { program := "ytbiokmojjneleaagreat", sum := "933f0cc41b7eb0b7ae24909a4c8749c14066e65d75eb0091a2a32c036c038f02", func := "loop.example/buttery/laws.FnRunIdle", spec := "fnRunIdle", unfollowed := true, recurses := true, apart := false, narrowed := true }
def FnRunIdleUptoSaid : Prop := fnRunIdleUptoRow.holds Tryz.pinned (OpenSpec.upto fnRunIdleSpec)

/-- 'laws.FnRunAddr', WHERE WHAT IT READS IS OF BULK AT MOST 1048576: true; the input reads as it did. -/
def fnRunAddrUptoRow : OpenClaim := { program := "ytbiokmojjneleaagreat", sum := "933f0cc41b7eb0b7ae24909a4c8749c14066e65d75eb0091a2a32c036c038f02", func := "loop.example/buttery/laws.FnRunAddr", spec := "fnRunAddr", unfollowed := true, recurses := true, apart := false, narrowed := true }
def FnRunAddrUptoSaid : Prop := fnRunAddrUptoRow.holds Tryz.pinned (OpenSpec.upto fnRunAddrSpec)

/-- 'laws.FnRunFlush', WHERE WHAT IT READS IS OF BULK AT MOST 1048576: true; the input reads as it did. -/
def fnRunFlushUptoRow : OpenClaim := { program := "ytbiokmojjneleaagreat", sum := "933f0cc41b7eb0b7ae24909a4c8749c14066e65d75eb0091a2a32c036c038f02", func := "loop.example/buttery/laws.FnRunFlush", spec := "fnRunFlush", unfollowed := true, recurses := true, apart := false, narrowed := true }
def FnRunFlushUptoSaid : Prop := fnRunFlushUptoRow.holds Tryz.pinned (OpenSpec.upto fnRunFlushSpec)

/-- 'laws.FnRunTorn', WHERE WHAT IT READS IS OF BULK AT MOST 1048576: true; the input reads as it did. -/
def fnRunTornUptoRow : OpenClaim := { program := "ytbiokmojjneleaagreat", sum := "933f0cc41b7eb0b7ae24909a4c8749c14066e65d75eb0091a2a32c036c038f02", func := "loop.example/buttery/laws.FnRunTorn", spec := "fnRunTorn", unfollowed := true, recurses := true, apart := false, narrowed := true }
def FnRunTornUptoSaid : Prop := fnRunTornUptoRow.holds Tryz.pinned (OpenSpec.upto fnRunTornSpec)

/-- 'laws.FnRunNew', WHERE WHAT IT READS IS OF BULK AT MOST 1048576: true; the input reads as it did. -/
def fnRunNewUptoRow : OpenClaim := { program := "ytbiokmojjneleaagreat", sum := "933f0cc41b7eb0b7ae24909a4c8749c14066e65d75eb0091a2a32c036c038f02", func := "loop.example/buttery/laws.FnRunNew", spec := "fnRunNew", unfollowed := true, recurses := true, apart := false, narrowed := true }
def FnRunNewUptoSaid : Prop := fnRunNewUptoRow.holds Tryz.pinned (OpenSpec.upto fnRunNewSpec)

/-- 'laws.FnRunDisk', WHERE WHAT IT READS IS OF BULK AT MOST 1048576: true; the input reads as it did. -/
def fnRunDiskUptoRow : OpenClaim := { program := "ytbiokmojjneleaagreat", sum := "933f0cc41b7eb0b7ae24909a4c8749c14066e65d75eb0091a2a32c036c038f02", func := "loop.example/buttery/laws.FnRunDisk", spec := "fnRunDisk", unfollowed := true, recurses := true, apart := false, narrowed := true }
def FnRunDiskUptoSaid : Prop := fnRunDiskUptoRow.holds Tryz.pinned (OpenSpec.upto fnRunDiskSpec)

/-- 'laws.FnRunMany', WHERE WHAT IT READS IS OF BULK AT MOST 1048576: true; the input reads as it did. -/
def fnRunManyUptoRow : OpenClaim := { program := "ytbiokmojjneleaagreat", sum := "933f0cc41b7eb0b7ae24909a4c8749c14066e65d75eb0091a2a32c036c038f02", func := "loop.example/buttery/laws.FnRunMany", spec := "fnRunMany", unfollowed := true, recurses := true, apart := false, narrowed := true }
def FnRunManyUptoSaid : Prop := fnRunManyUptoRow.holds Tryz.pinned (OpenSpec.upto fnRunManySpec)

end Rows
end Go.Proofs.YtbiokmojjneleaaGreat
