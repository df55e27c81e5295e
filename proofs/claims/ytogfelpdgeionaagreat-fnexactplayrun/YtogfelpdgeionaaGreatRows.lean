/-
  No cell of these rows narrows 'for every input' (looked for: loops, veiled, ifaces, maps, wideKeys, modest, calm, conditions, laid).
  DERIVED. THE GIVEN ROWS OF THIS SEAT. 22 by the template 'for every input the law returns true; each argument reads behind the call as it read before'; 0 by the template 'total and deterministic' (their statements: YtogfelpdgeionaaGreatTotals.lean).
  GIVEN WITH THE SEED: the statements are not yours to turn. If you find one false, say at which input.
  Laid BY PROGRAM, IN A SANDBOX (cutbox-rows.mjs): the forced cells as the released guide's own fill.sh prints them over the translation a21abd6c570a401a… (all of the seat's roots in one cut). By AI agents, Wed Nov 11 2026. No macro, syntax, notation, axiom, sorry.
-/
import Derived.Test.YtogfelpdgeionaaGreatChecked
import GoSem.Claim
import GoSem.ClaimJoined
import GoSem.ClaimMapViews
import Derived.JoinedTies
import Derived.KernelRfl
namespace Go.Proofs.YtogfelpdgeionaaGreat
/- THE CELL 'sum', in the pinned program and in every row, IS THE sha256 OF THE DUMP (.gsa) THAT YtogfelpdgeionaaGreatProg.lean LOADS. Nothing in Lean hashes anything: it is a label: what it is worth is what the hold of that sum in a sandbox is worth. -/
noncomputable def Tryz.pinned : Pinned := { name := "ytogfelpdgeionaagreat", sum := "a21abd6c570a401a4fec4cf6a3214a1130cb8bb5c72b381eeec359728e71d4dc", checked := Tryz.checked }
namespace Rows
def none {H : Type} : Left H := { results := [], args := [] }

/-- 'laws.FnPutAll': WHATEVER THE INPUT: true; the input reads as it did. -/
def fnPutAllSpec : ChangeSpec := { name := "fnPutAll", fn := fun _ => fun
  | [d] => { results := [.lit (.bool true)], args := [d] }
  | _ => none }
def fnPutAllRow : OpenClaim := { program := "ytogfelpdgeionaagreat", sum := "a21abd6c570a401a4fec4cf6a3214a1130cb8bb5c72b381eeec359728e71d4dc", func := "loop.example/buttery/laws.FnPutAll", spec := "fnPutAll", unfollowed := true, recurses := true, leaving := true, apart := false }
def FnPutAllSaid : Prop := fnPutAllRow.holds Tryz.pinned (OpenSpec.ofChange fnPutAllSpec)

/-- ITS FALSE NEIGHBOUR: 'it returns false'. Refute it at one input. -/
def fnPutAllWrong : ChangeSpec := { name := "fnPutAll", fn := fun _ => fun
  | [d] => { results := [.lit (.bool false)], args := [d] }
  | _ => none }
def FnPutAllWrongFalsely : Prop := fnPutAllRow.holds Tryz.pinned (OpenSpec.ofChange fnPutAllWrong)

/-- 'laws.FnPutCut': WHATEVER THE INPUT: true; the input reads as it did. -/
def fnPutCutSpec : ChangeSpec := { name := "fnPutCut", fn := fun _ => fun
  | [d1, d2] => { results := [.lit (.bool true)], args := [d1, d2] }
  | _ => none }
def fnPutCutRow : OpenClaim := { program := "ytogfelpdgeionaagreat", sum := "a21abd6c570a401a4fec4cf6a3214a1130cb8bb5c72b381eeec359728e71d4dc", func := "loop.example/buttery/laws.FnPutCut", spec := "fnPutCut", unfollowed := true, recurses := true, leaving := true, apart := false }
def FnPutCutSaid : Prop := fnPutCutRow.holds Tryz.pinned (OpenSpec.ofChange fnPutCutSpec)

/-- ITS FALSE NEIGHBOUR: 'it returns false'. Refute it at one input. -/
def fnPutCutWrong : ChangeSpec := { name := "fnPutCut", fn := fun _ => fun
  | [d1, d2] => { results := [.lit (.bool false)], args := [d1, d2] }
  | _ => none }
def FnPutCutWrongFalsely : Prop := fnPutCutRow.holds Tryz.pinned (OpenSpec.ofChange fnPutCutWrong)

/-- 'laws.FnFlushAll': WHATEVER THE INPUT: true; the input reads as it did. -/
def fnFlushAllSpec : ChangeSpec := { name := "fnFlushAll", fn := fun _ => fun
  | [d] => { results := [.lit (.bool true)], args := [d] }
  | _ => none }
def fnFlushAllRow : OpenClaim := { program := "ytogfelpdgeionaagreat", sum := "a21abd6c570a401a4fec4cf6a3214a1130cb8bb5c72b381eeec359728e71d4dc", func := "loop.example/buttery/laws.FnFlushAll", spec := "fnFlushAll", unfollowed := true, recurses := true, leaving := true, apart := false }
def FnFlushAllSaid : Prop := fnFlushAllRow.holds Tryz.pinned (OpenSpec.ofChange fnFlushAllSpec)

/-- ITS FALSE NEIGHBOUR: 'it returns false'. Refute it at one input. -/
def fnFlushAllWrong : ChangeSpec := { name := "fnFlushAll", fn := fun _ => fun
  | [d] => { results := [.lit (.bool false)], args := [d] }
  | _ => none }
def FnFlushAllWrongFalsely : Prop := fnFlushAllRow.holds Tryz.pinned (OpenSpec.ofChange fnFlushAllWrong)

/-- 'laws.FnFlushCut': WHATEVER THE INPUT: true; the input reads as it did. -/
def fnFlushCutSpec : ChangeSpec := { name := "fnFlushCut", fn := fun _ => fun
  | [d1, d2] => { results := [.lit (.bool true)], args := [d1, d2] }
  | _ => none }
def fnFlushCutRow : OpenClaim := { program := "ytogfelpdgeionaagreat", sum := "a21abd6c570a401a4fec4cf6a3214a1130cb8bb5c72b381eeec359728e71d4dc", func := "loop.example/buttery/laws.FnFlushCut", spec := "fnFlushCut", unfollowed := true, recurses := true, leaving := true, apart := false }
def FnFlushCutSaid : Prop := fnFlushCutRow.holds Tryz.pinned (OpenSpec.ofChange fnFlushCutSpec)

/-- ITS FALSE NEIGHBOUR: 'it returns false'. Refute it at one input. -/
def fnFlushCutWrong : ChangeSpec := { name := "fnFlushCut", fn := fun _ => fun
  | [d1, d2] => { results := [.lit (.bool false)], args := [d1, d2] }
  | _ => none }
def FnFlushCutWrongFalsely : Prop := fnFlushCutRow.holds Tryz.pinned (OpenSpec.ofChange fnFlushCutWrong)

/-- 'laws.FnFill': WHATEVER THE INPUT: true; the input reads as it did. -/
def fnFillSpec : ChangeSpec := { name := "fnFill", fn := fun _ => fun
  | [d1, d2] => { results := [.lit (.bool true)], args := [d1, d2] }
  | _ => none }
def fnFillRow : OpenClaim := { program := "ytogfelpdgeionaagreat", sum := "a21abd6c570a401a4fec4cf6a3214a1130cb8bb5c72b381eeec359728e71d4dc", func := "loop.example/buttery/laws.FnFill", spec := "fnFill", unfollowed := true, recurses := true, leaving := true, apart := false }
def FnFillSaid : Prop := fnFillRow.holds Tryz.pinned (OpenSpec.ofChange fnFillSpec)

/-- ITS FALSE NEIGHBOUR: 'it returns false'. Refute it at one input. -/
def fnFillWrong : ChangeSpec := { name := "fnFill", fn := fun _ => fun
  | [d1, d2] => { results := [.lit (.bool false)], args := [d1, d2] }
  | _ => none }
def FnFillWrongFalsely : Prop := fnFillRow.holds Tryz.pinned (OpenSpec.ofChange fnFillWrong)

/-- 'laws.FnToSteps': WHATEVER THE INPUT: true; the input reads as it did. -/
def fnToStepsSpec : ChangeSpec := { name := "fnToSteps", fn := fun _ => fun
  | [d1, d2] => { results := [.lit (.bool true)], args := [d1, d2] }
  | _ => none }
def fnToStepsRow : OpenClaim := { program := "ytogfelpdgeionaagreat", sum := "a21abd6c570a401a4fec4cf6a3214a1130cb8bb5c72b381eeec359728e71d4dc", func := "loop.example/buttery/laws.FnToSteps", spec := "fnToSteps", unfollowed := true, recurses := true, leaving := true, apart := false }
def FnToStepsSaid : Prop := fnToStepsRow.holds Tryz.pinned (OpenSpec.ofChange fnToStepsSpec)

/-- ITS FALSE NEIGHBOUR: 'it returns false'. Refute it at one input. -/
def fnToStepsWrong : ChangeSpec := { name := "fnToSteps", fn := fun _ => fun
  | [d1, d2] => { results := [.lit (.bool false)], args := [d1, d2] }
  | _ => none }
def FnToStepsWrongFalsely : Prop := fnToStepsRow.holds Tryz.pinned (OpenSpec.ofChange fnToStepsWrong)

/-- 'laws.FnToDisk': WHATEVER THE INPUT: true; the input reads as it did. -/
def fnToDiskSpec : ChangeSpec := { name := "fnToDisk", fn := fun _ => fun
  | [d] => { results := [.lit (.bool true)], args := [d] }
  | _ => none }
def fnToDiskRow : OpenClaim := { program := "ytogfelpdgeionaagreat", sum := "a21abd6c570a401a4fec4cf6a3214a1130cb8bb5c72b381eeec359728e71d4dc", func := "loop.example/buttery/laws.FnToDisk", spec := "fnToDisk", unfollowed := true, recurses := true, leaving := true, apart := false }
def FnToDiskSaid : Prop := fnToDiskRow.holds Tryz.pinned (OpenSpec.ofChange fnToDiskSpec)

/-- ITS FALSE NEIGHBOUR: 'it returns false'. Refute it at one input. -/
def fnToDiskWrong : ChangeSpec := { name := "fnToDisk", fn := fun _ => fun
  | [d] => { results := [.lit (.bool false)], args := [d] }
  | _ => none }
def FnToDiskWrongFalsely : Prop := fnToDiskRow.holds Tryz.pinned (OpenSpec.ofChange fnToDiskWrong)

/-- 'laws.FnStepsOk': WHATEVER THE INPUT: true; the input reads as it did. -/
def fnStepsOkSpec : ChangeSpec := { name := "fnStepsOk", fn := fun _ => fun
  | [d1, d2] => { results := [.lit (.bool true)], args := [d1, d2] }
  | _ => none }
def fnStepsOkRow : OpenClaim := { program := "ytogfelpdgeionaagreat", sum := "a21abd6c570a401a4fec4cf6a3214a1130cb8bb5c72b381eeec359728e71d4dc", func := "loop.example/buttery/laws.FnStepsOk", spec := "fnStepsOk", unfollowed := true, recurses := true, leaving := true, apart := false }
def FnStepsOkSaid : Prop := fnStepsOkRow.holds Tryz.pinned (OpenSpec.ofChange fnStepsOkSpec)

/-- ITS FALSE NEIGHBOUR: 'it returns false'. Refute it at one input. -/
def fnStepsOkWrong : ChangeSpec := { name := "fnStepsOk", fn := fun _ => fun
  | [d1, d2] => { results := [.lit (.bool false)], args := [d1, d2] }
  | _ => none }
def FnStepsOkWrongFalsely : Prop := fnStepsOkRow.holds Tryz.pinned (OpenSpec.ofChange fnStepsOkWrong)

/-- 'laws.FnToTorn': WHATEVER THE INPUT: true; the input reads as it did. -/
def fnToTornSpec : ChangeSpec := { name := "fnToTorn", fn := fun _ => fun
  | [d] => { results := [.lit (.bool true)], args := [d] }
  | _ => none }
def fnToTornRow : OpenClaim := { program := "ytogfelpdgeionaagreat", sum := "a21abd6c570a401a4fec4cf6a3214a1130cb8bb5c72b381eeec359728e71d4dc", func := "loop.example/buttery/laws.FnToTorn", spec := "fnToTorn", unfollowed := true, recurses := true, leaving := true, apart := false }
def FnToTornSaid : Prop := fnToTornRow.holds Tryz.pinned (OpenSpec.ofChange fnToTornSpec)

/-- ITS FALSE NEIGHBOUR: 'it returns false'. Refute it at one input. -/
def fnToTornWrong : ChangeSpec := { name := "fnToTorn", fn := fun _ => fun
  | [d] => { results := [.lit (.bool false)], args := [d] }
  | _ => none }
def FnToTornWrongFalsely : Prop := fnToTornRow.holds Tryz.pinned (OpenSpec.ofChange fnToTornWrong)

/-- 'laws.FnDirtyNone': WHATEVER THE INPUT: true; the input reads as it did. -/
def fnDirtyNoneSpec : ChangeSpec := { name := "fnDirtyNone", fn := fun _ => fun
  | [d] => { results := [.lit (.bool true)], args := [d] }
  | _ => none }
def fnDirtyNoneRow : OpenClaim := { program := "ytogfelpdgeionaagreat", sum := "a21abd6c570a401a4fec4cf6a3214a1130cb8bb5c72b381eeec359728e71d4dc", func := "loop.example/buttery/laws.FnDirtyNone", spec := "fnDirtyNone", inPlace := ["(*sync.WaitGroup).Add", "internal/race.ReleaseMerge", "internal/race.Disable", "internal/race.Enable", "internal/synctest.IsInBubble", "internal/synctest.Associate[sync.WaitGroup]", "sync.fatal", "sync/atomic.OrUint64", "sync/atomic.AddUint64", "internal/race.Read", "sync/atomic.LoadUint64", "sync/atomic.StoreUint64", "internal/synctest.Disassociate[sync.WaitGroup]", "sync.runtime_Semrelease", "(*sync.WaitGroup).Done", "(*sync.WaitGroup).Wait", "internal/race.Acquire", "internal/synctest.IsAssociated[sync.WaitGroup]", "sync/atomic.CompareAndSwapUint64", "internal/race.Write", "sync.runtime_SemacquireWaitGroup"], unfollowed := true, recurses := true, leaving := true, apart := false }
def FnDirtyNoneSaid : Prop := fnDirtyNoneRow.holds Tryz.pinned (OpenSpec.ofChange fnDirtyNoneSpec)

/-- ITS FALSE NEIGHBOUR: 'it returns false'. Refute it at one input. -/
def fnDirtyNoneWrong : ChangeSpec := { name := "fnDirtyNone", fn := fun _ => fun
  | [d] => { results := [.lit (.bool false)], args := [d] }
  | _ => none }
def FnDirtyNoneWrongFalsely : Prop := fnDirtyNoneRow.holds Tryz.pinned (OpenSpec.ofChange fnDirtyNoneWrong)

/-- 'laws.FnPutTwice': WHATEVER THE INPUT: true; the input reads as it did. -/
def fnPutTwiceSpec : ChangeSpec := { name := "fnPutTwice", fn := fun _ => fun
  | [d1, d2] => { results := [.lit (.bool true)], args := [d1, d2] }
  | _ => none }
def fnPutTwiceRow : OpenClaim := { program := "ytogfelpdgeionaagreat", sum := "a21abd6c570a401a4fec4cf6a3214a1130cb8bb5c72b381eeec359728e71d4dc", func := "loop.example/buttery/laws.FnPutTwice", spec := "fnPutTwice", inPlace := ["(*sync.WaitGroup).Add", "internal/race.ReleaseMerge", "internal/race.Disable", "internal/race.Enable", "internal/synctest.IsInBubble", "internal/synctest.Associate[sync.WaitGroup]", "sync.fatal", "sync/atomic.OrUint64", "sync/atomic.AddUint64", "internal/race.Read", "sync/atomic.LoadUint64", "sync/atomic.StoreUint64", "internal/synctest.Disassociate[sync.WaitGroup]", "sync.runtime_Semrelease", "(*sync.WaitGroup).Done", "(*sync.WaitGroup).Wait", "internal/race.Acquire", "internal/synctest.IsAssociated[sync.WaitGroup]", "sync/atomic.CompareAndSwapUint64", "internal/race.Write", "sync.runtime_SemacquireWaitGroup"], unfollowed := true, recurses := true, leaving := true, apart := false }
def FnPutTwiceSaid : Prop := fnPutTwiceRow.holds Tryz.pinned (OpenSpec.ofChange fnPutTwiceSpec)

/-- ITS FALSE NEIGHBOUR: 'it returns false'. Refute it at one input. -/
def fnPutTwiceWrong : ChangeSpec := { name := "fnPutTwice", fn := fun _ => fun
  | [d1, d2] => { results := [.lit (.bool false)], args := [d1, d2] }
  | _ => none }
def FnPutTwiceWrongFalsely : Prop := fnPutTwiceRow.holds Tryz.pinned (OpenSpec.ofChange fnPutTwiceWrong)

/-- 'laws.FnPutAgain': WHATEVER THE INPUT: true; the input reads as it did. -/
def fnPutAgainSpec : ChangeSpec := { name := "fnPutAgain", fn := fun _ => fun
  | [d1, d2] => { results := [.lit (.bool true)], args := [d1, d2] }
  | _ => none }
def fnPutAgainRow : OpenClaim := { program := "ytogfelpdgeionaagreat", sum := "a21abd6c570a401a4fec4cf6a3214a1130cb8bb5c72b381eeec359728e71d4dc", func := "loop.example/buttery/laws.FnPutAgain", spec := "fnPutAgain", inPlace := ["(*sync.WaitGroup).Add", "internal/race.ReleaseMerge", "internal/race.Disable", "internal/race.Enable", "internal/synctest.IsInBubble", "internal/synctest.Associate[sync.WaitGroup]", "sync.fatal", "sync/atomic.OrUint64", "sync/atomic.AddUint64", "internal/race.Read", "sync/atomic.LoadUint64", "sync/atomic.StoreUint64", "internal/synctest.Disassociate[sync.WaitGroup]", "sync.runtime_Semrelease", "(*sync.WaitGroup).Done", "(*sync.WaitGroup).Wait", "internal/race.Acquire", "internal/synctest.IsAssociated[sync.WaitGroup]", "sync/atomic.CompareAndSwapUint64", "internal/race.Write", "sync.runtime_SemacquireWaitGroup"], unfollowed := true, recurses := true, leaving := true, apart := false }
def FnPutAgainSaid : Prop := fnPutAgainRow.holds Tryz.pinned (OpenSpec.ofChange fnPutAgainSpec)

/-- ITS FALSE NEIGHBOUR: 'it returns false'. Refute it at one input. -/
def fnPutAgainWrong : ChangeSpec := { name := "fnPutAgain", fn := fun _ => fun
  | [d1, d2] => { results := [.lit (.bool false)], args := [d1, d2] }
  | _ => none }
def FnPutAgainWrongFalsely : Prop := fnPutAgainRow.holds Tryz.pinned (OpenSpec.ofChange fnPutAgainWrong)

/-- 'laws.FnFlushDisk': WHATEVER THE INPUT: true; the input reads as it did. -/
def fnFlushDiskSpec : ChangeSpec := { name := "fnFlushDisk", fn := fun _ => fun
  | [d] => { results := [.lit (.bool true)], args := [d] }
  | _ => none }
def fnFlushDiskRow : OpenClaim := { program := "ytogfelpdgeionaagreat", sum := "a21abd6c570a401a4fec4cf6a3214a1130cb8bb5c72b381eeec359728e71d4dc", func := "loop.example/buttery/laws.FnFlushDisk", spec := "fnFlushDisk", inPlace := ["(*sync.WaitGroup).Add", "internal/race.ReleaseMerge", "internal/race.Disable", "internal/race.Enable", "internal/synctest.IsInBubble", "internal/synctest.Associate[sync.WaitGroup]", "sync.fatal", "sync/atomic.OrUint64", "sync/atomic.AddUint64", "internal/race.Read", "sync/atomic.LoadUint64", "sync/atomic.StoreUint64", "internal/synctest.Disassociate[sync.WaitGroup]", "sync.runtime_Semrelease", "(*sync.WaitGroup).Done", "(*sync.WaitGroup).Wait", "internal/race.Acquire", "internal/synctest.IsAssociated[sync.WaitGroup]", "sync/atomic.CompareAndSwapUint64", "internal/race.Write", "sync.runtime_SemacquireWaitGroup"], unfollowed := true, recurses := true, leaving := true, apart := false }
def FnFlushDiskSaid : Prop := fnFlushDiskRow.holds Tryz.pinned (OpenSpec.ofChange fnFlushDiskSpec)

/-- ITS FALSE NEIGHBOUR: 'it returns false'. Refute it at one input. -/
def fnFlushDiskWrong : ChangeSpec := { name := "fnFlushDisk", fn := fun _ => fun
  | [d] => { results := [.lit (.bool false)], args := [d] }
  | _ => none }
def FnFlushDiskWrongFalsely : Prop := fnFlushDiskRow.holds Tryz.pinned (OpenSpec.ofChange fnFlushDiskWrong)

/-- 'laws.FnExactPlaySteps': WHATEVER THE INPUT: true; the input reads as it did. -/
def fnExactPlayStepsSpec : ChangeSpec := { name := "fnExactPlaySteps", fn := fun _ => fun
  | [d1, d2] => { results := [.lit (.bool true)], args := [d1, d2] }
  | _ => none }
def fnExactPlayStepsRow : OpenClaim := { program := "ytogfelpdgeionaagreat", sum := "a21abd6c570a401a4fec4cf6a3214a1130cb8bb5c72b381eeec359728e71d4dc", func := "loop.example/buttery/laws.FnExactPlaySteps", spec := "fnExactPlaySteps", unfollowed := true, recurses := true, leaving := true, apart := false }
def FnExactPlayStepsSaid : Prop := fnExactPlayStepsRow.holds Tryz.pinned (OpenSpec.ofChange fnExactPlayStepsSpec)

/-- ITS FALSE NEIGHBOUR: 'it returns false'. Refute it at one input. -/
def fnExactPlayStepsWrong : ChangeSpec := { name := "fnExactPlaySteps", fn := fun _ => fun
  | [d1, d2] => { results := [.lit (.bool false)], args := [d1, d2] }
  | _ => none }
def FnExactPlayStepsWrongFalsely : Prop := fnExactPlayStepsRow.holds Tryz.pinned (OpenSpec.ofChange fnExactPlayStepsWrong)

/-- 'laws.FnExactPlayDo': WHATEVER THE INPUT: true; the input reads as it did. -/
def fnExactPlayDoSpec : ChangeSpec := { name := "fnExactPlayDo", fn := fun _ => fun
  | [d1, d2] => { results := [.lit (.bool true)], args := [d1, d2] }
  | _ => none }
def fnExactPlayDoRow : OpenClaim := { program := "ytogfelpdgeionaagreat", sum := "a21abd6c570a401a4fec4cf6a3214a1130cb8bb5c72b381eeec359728e71d4dc", func := "loop.example/buttery/laws.FnExactPlayDo", spec := "fnExactPlayDo", unfollowed := true, recurses := true, leaving := true, apart := false }
def FnExactPlayDoSaid : Prop := fnExactPlayDoRow.holds Tryz.pinned (OpenSpec.ofChange fnExactPlayDoSpec)

/-- ITS FALSE NEIGHBOUR: 'it returns false'. Refute it at one input. -/
def fnExactPlayDoWrong : ChangeSpec := { name := "fnExactPlayDo", fn := fun _ => fun
  | [d1, d2] => { results := [.lit (.bool false)], args := [d1, d2] }
  | _ => none }
def FnExactPlayDoWrongFalsely : Prop := fnExactPlayDoRow.holds Tryz.pinned (OpenSpec.ofChange fnExactPlayDoWrong)

/-- 'laws.FnExactPlayRun': WHATEVER THE INPUT: true; the input reads as it did. -/
def fnExactPlayRunSpec : ChangeSpec := { name := "fnExactPlayRun", fn := fun _ => fun
  | [d] => { results := [.lit (.bool true)], args := [d] }
  | _ => none }
def fnExactPlayRunRow : OpenClaim := { program := "ytogfelpdgeionaagreat", sum := "a21abd6c570a401a4fec4cf6a3214a1130cb8bb5c72b381eeec359728e71d4dc", func := "loop.example/buttery/laws.FnExactPlayRun", spec := "fnExactPlayRun", unfollowed := true, recurses := true, leaving := true, apart := false }
def FnExactPlayRunSaid : Prop := fnExactPlayRunRow.holds Tryz.pinned (OpenSpec.ofChange fnExactPlayRunSpec)

/-- ITS FALSE NEIGHBOUR: 'it returns false'. Refute it at one input. -/
def fnExactPlayRunWrong : ChangeSpec := { name := "fnExactPlayRun", fn := fun _ => fun
  | [d] => { results := [.lit (.bool false)], args := [d] }
  | _ => none }
def FnExactPlayRunWrongFalsely : Prop := fnExactPlayRunRow.holds Tryz.pinned (OpenSpec.ofChange fnExactPlayRunWrong)

/-- 'laws.FnExactCostRun': WHATEVER THE INPUT: true; the input reads as it did. -/
def fnExactCostRunSpec : ChangeSpec := { name := "fnExactCostRun", fn := fun _ => fun
  | [d] => { results := [.lit (.bool true)], args := [d] }
  | _ => none }
def fnExactCostRunRow : OpenClaim := { program := "ytogfelpdgeionaagreat", sum := "a21abd6c570a401a4fec4cf6a3214a1130cb8bb5c72b381eeec359728e71d4dc", func := "loop.example/buttery/laws.FnExactCostRun", spec := "fnExactCostRun", unfollowed := true, recurses := true, leaving := true, apart := false }
def FnExactCostRunSaid : Prop := fnExactCostRunRow.holds Tryz.pinned (OpenSpec.ofChange fnExactCostRunSpec)

/-- ITS FALSE NEIGHBOUR: 'it returns false'. Refute it at one input. -/
def fnExactCostRunWrong : ChangeSpec := { name := "fnExactCostRun", fn := fun _ => fun
  | [d] => { results := [.lit (.bool false)], args := [d] }
  | _ => none }
def FnExactCostRunWrongFalsely : Prop := fnExactCostRunRow.holds Tryz.pinned (OpenSpec.ofChange fnExactCostRunWrong)

/-- 'laws.FnExactPairAll': WHATEVER THE INPUT: true; the input reads as it did. -/
def fnExactPairAllSpec : ChangeSpec := { name := "fnExactPairAll", fn := fun _ => fun
  | [d] => { results := [.lit (.bool true)], args := [d] }
  | _ => none }
def fnExactPairAllRow : OpenClaim := { program := "ytogfelpdgeionaagreat", sum := "a21abd6c570a401a4fec4cf6a3214a1130cb8bb5c72b381eeec359728e71d4dc", func := "loop.example/buttery/laws.FnExactPairAll", spec := "fnExactPairAll", unfollowed := true, recurses := true, leaving := true, apart := false }
def FnExactPairAllSaid : Prop := fnExactPairAllRow.holds Tryz.pinned (OpenSpec.ofChange fnExactPairAllSpec)

/-- ITS FALSE NEIGHBOUR: 'it returns false'. Refute it at one input. -/
def fnExactPairAllWrong : ChangeSpec := { name := "fnExactPairAll", fn := fun _ => fun
  | [d] => { results := [.lit (.bool false)], args := [d] }
  | _ => none }
def FnExactPairAllWrongFalsely : Prop := fnExactPairAllRow.holds Tryz.pinned (OpenSpec.ofChange fnExactPairAllWrong)

/-- 'laws.FnExactPairPut': WHATEVER THE INPUT: true; the input reads as it did. -/
def fnExactPairPutSpec : ChangeSpec := { name := "fnExactPairPut", fn := fun _ => fun
  | [d1, d2, d3, d4, d5] => { results := [.lit (.bool true)], args := [d1, d2, d3, d4, d5] }
  | _ => none }
def fnExactPairPutRow : OpenClaim := { program := "ytogfelpdgeionaagreat", sum := "a21abd6c570a401a4fec4cf6a3214a1130cb8bb5c72b381eeec359728e71d4dc", func := "loop.example/buttery/laws.FnExactPairPut", spec := "fnExactPairPut", unfollowed := true, recurses := true, leaving := true, apart := false }
def FnExactPairPutSaid : Prop := fnExactPairPutRow.holds Tryz.pinned (OpenSpec.ofChange fnExactPairPutSpec)

/-- ITS FALSE NEIGHBOUR: 'it returns false'. Refute it at one input. -/
def fnExactPairPutWrong : ChangeSpec := { name := "fnExactPairPut", fn := fun _ => fun
  | [d1, d2, d3, d4, d5] => { results := [.lit (.bool false)], args := [d1, d2, d3, d4, d5] }
  | _ => none }
def FnExactPairPutWrongFalsely : Prop := fnExactPairPutRow.holds Tryz.pinned (OpenSpec.ofChange fnExactPairPutWrong)

/-- 'laws.FnExactPairMend': WHATEVER THE INPUT: true; the input reads as it did. -/
def fnExactPairMendSpec : ChangeSpec := { name := "fnExactPairMend", fn := fun _ => fun
  | [d] => { results := [.lit (.bool true)], args := [d] }
  | _ => none }
def fnExactPairMendRow : OpenClaim := { program := "ytogfelpdgeionaagreat", sum := "a21abd6c570a401a4fec4cf6a3214a1130cb8bb5c72b381eeec359728e71d4dc", func := "loop.example/buttery/laws.FnExactPairMend", spec := "fnExactPairMend", unfollowed := true, recurses := true, leaving := true, apart := false }
def FnExactPairMendSaid : Prop := fnExactPairMendRow.holds Tryz.pinned (OpenSpec.ofChange fnExactPairMendSpec)

/-- ITS FALSE NEIGHBOUR: 'it returns false'. Refute it at one input. -/
def fnExactPairMendWrong : ChangeSpec := { name := "fnExactPairMend", fn := fun _ => fun
  | [d] => { results := [.lit (.bool false)], args := [d] }
  | _ => none }
def FnExactPairMendWrongFalsely : Prop := fnExactPairMendRow.holds Tryz.pinned (OpenSpec.ofChange fnExactPairMendWrong)

/-- 'laws.FnExactPairLose': WHATEVER THE INPUT: true; the input reads as it did. -/
def fnExactPairLoseSpec : ChangeSpec := { name := "fnExactPairLose", fn := fun _ => fun
  | [d1, d2] => { results := [.lit (.bool true)], args := [d1, d2] }
  | _ => none }
def fnExactPairLoseRow : OpenClaim := { program := "ytogfelpdgeionaagreat", sum := "a21abd6c570a401a4fec4cf6a3214a1130cb8bb5c72b381eeec359728e71d4dc", func := "loop.example/buttery/laws.FnExactPairLose", spec := "fnExactPairLose", unfollowed := true, recurses := true, leaving := true, apart := false }
def FnExactPairLoseSaid : Prop := fnExactPairLoseRow.holds Tryz.pinned (OpenSpec.ofChange fnExactPairLoseSpec)

/-- ITS FALSE NEIGHBOUR: 'it returns false'. Refute it at one input. -/
def fnExactPairLoseWrong : ChangeSpec := { name := "fnExactPairLose", fn := fun _ => fun
  | [d1, d2] => { results := [.lit (.bool false)], args := [d1, d2] }
  | _ => none }
def FnExactPairLoseWrongFalsely : Prop := fnExactPairLoseRow.holds Tryz.pinned (OpenSpec.ofChange fnExactPairLoseWrong)

/-- 'laws.FnExactPairBack': WHATEVER THE INPUT: true; the input reads as it did. -/
def fnExactPairBackSpec : ChangeSpec := { name := "fnExactPairBack", fn := fun _ => fun
  | [d] => { results := [.lit (.bool true)], args := [d] }
  | _ => none }
def fnExactPairBackRow : OpenClaim := { program := "ytogfelpdgeionaagreat", sum := "a21abd6c570a401a4fec4cf6a3214a1130cb8bb5c72b381eeec359728e71d4dc", func := "loop.example/buttery/laws.FnExactPairBack", spec := "fnExactPairBack", unfollowed := true, recurses := true, leaving := true, apart := false }
def FnExactPairBackSaid : Prop := fnExactPairBackRow.holds Tryz.pinned (OpenSpec.ofChange fnExactPairBackSpec)

/-- ITS FALSE NEIGHBOUR: 'it returns false'. Refute it at one input. -/
def fnExactPairBackWrong : ChangeSpec := { name := "fnExactPairBack", fn := fun _ => fun
  | [d] => { results := [.lit (.bool false)], args := [d] }
  | _ => none }
def FnExactPairBackWrongFalsely : Prop := fnExactPairBackRow.holds Tryz.pinned (OpenSpec.ofChange fnExactPairBackWrong)

/- THE SECOND FORM. 'bulk': how many values and letters a reading holds, each counted each time it is reached (what is shared counts as often as it is met; a slice's spare places count too). A statement '..UptoSaid' is the law's where the arguments, and the package variables that the reading takes, are together of bulk at most 1048576: NARROWER than '..Said'. Prove '..Said' where nothing that the law and all that it calls make is longer than what came in: it says more and counts as full. Else prove '..UptoSaid'. A law counts once. -/
mutual
def uptoBulk {H : Type} : DataW H → Nat
  | .lit (.string bytes) => bytes.length + 1
  | .lit _ => 1
  | .nil => 1
  | .ptr d => uptoBulk d + 1
  | .slice elems spare => uptoBulkAll elems + uptoBulkAll spare + 1
  | .agg parts => uptoBulkAll parts + 1
  | .iface _ d => uptoBulk d + 1
  | .map entries => uptoBulkEntries entries + 1
  | .held _ => 1
def uptoBulkAll {H : Type} : List (DataW H) → Nat
  | [] => 0
  | d :: r => uptoBulk d + uptoBulkAll r
def uptoBulkEntries {H : Type} : List (Lit × DataW H) → Nat
  | [] => 0
  | x :: r => uptoBulkEntry x + uptoBulkEntries r
def uptoBulkEntry {H : Type} : Lit × DataW H → Nat
  | (.string bytes, d) => bytes.length + uptoBulk d + 1
  | (_, d) => uptoBulk d + 1
 end
def uptoSmall : (H : Type) → List (DataW H) → Bool := fun _ ds => decide (uptoBulkAll ds ≤ 1048576)
def OpenSpec.upto (s : _root_.Go.ChangeSpec) : _root_.Go.OpenSpec := { _root_.Go.OpenSpec.ofChange s with cond := some uptoSmall }

/-- 'laws.FnPutAll', WHERE WHAT IT READS IS OF BULK AT MOST 1048576: true; the input reads as it did. -/
def fnPutAllUptoRow : OpenClaim := { program := "ytogfelpdgeionaagreat", sum := "a21abd6c570a401a4fec4cf6a3214a1130cb8bb5c72b381eeec359728e71d4dc", func := "loop.example/buttery/laws.FnPutAll", spec := "fnPutAll", unfollowed := true, recurses := true, leaving := true, apart := false, narrowed := true }
def FnPutAllUptoSaid : Prop := fnPutAllUptoRow.holds Tryz.pinned (OpenSpec.upto fnPutAllSpec)

/-- 'laws.FnPutCut', WHERE WHAT IT READS IS OF BULK AT MOST 1048576: true; the input reads as it did. -/
def fnPutCutUptoRow : OpenClaim := { program := "ytogfelpdgeionaagreat", sum := "a21abd6c570a401a4fec4cf6a3214a1130cb8bb5c72b381eeec359728e71d4dc", func := "loop.example/buttery/laws.FnPutCut", spec := "fnPutCut", unfollowed := true, recurses := true, leaving := true, apart := false, narrowed := true }
def FnPutCutUptoSaid : Prop := fnPutCutUptoRow.holds Tryz.pinned (OpenSpec.upto fnPutCutSpec)

/-- 'laws.FnFlushAll', WHERE WHAT IT READS IS OF BULK AT MOST 1048576: true; the input reads as it did. -/
def fnFlushAllUptoRow : OpenClaim := { program := "ytogfelpdgeionaagreat", sum := "a21abd6c570a401a4fec4cf6a3214a1130cb8bb5c72b381eeec359728e71d4dc", func := "loop.example/buttery/laws.FnFlushAll", spec := "fnFlushAll", unfollowed := true, recurses := true, leaving := true, apart := false, narrowed := true }
def FnFlushAllUptoSaid : Prop := fnFlushAllUptoRow.holds Tryz.pinned (OpenSpec.upto fnFlushAllSpec)

/-- 'laws.FnFlushCut', WHERE WHAT IT READS IS OF BULK AT MOST 1048576: true; the input reads as it did. -/
def fnFlushCutUptoRow : OpenClaim := { program := "ytogfelpdgeionaagreat", sum := "a21abd6c570a401a4fec4cf6a3214a1130cb8bb5c72b381eeec359728e71d4dc", func := "loop.example/buttery/laws.FnFlushCut", spec := "fnFlushCut", unfollowed := true, recurses := true, leaving := true, apart := false, narrowed := true }
def FnFlushCutUptoSaid : Prop := fnFlushCutUptoRow.holds Tryz.pinned (OpenSpec.upto fnFlushCutSpec)

/-- 'laws.FnFill', WHERE WHAT IT READS IS OF BULK AT MOST 1048576: true; the input reads as it did. -/
def fnFillUptoRow : OpenClaim := { program := "ytogfelpdgeionaagreat", sum := "a21abd6c570a401a4fec4cf6a3214a1130cb8bb5c72b381eeec359728e71d4dc", func := "loop.example/buttery/laws.FnFill", spec := "fnFill", unfollowed := true, recurses := true, leaving := true, apart := false, narrowed := true }
def FnFillUptoSaid : Prop := fnFillUptoRow.holds Tryz.pinned (OpenSpec.upto fnFillSpec)

/-- 'laws.FnToSteps', WHERE WHAT IT READS IS OF BULK AT MOST 1048576: true; the input reads as it did. -/
def fnToStepsUptoRow : OpenClaim := { program := "ytogfelpdgeionaagreat", sum := "a21abd6c570a401a4fec4cf6a3214a1130cb8bb5c72b381eeec359728e71d4dc", func := "loop.example/buttery/laws.FnToSteps", spec := "fnToSteps", unfollowed := true, recurses := true, leaving := true, apart := false, narrowed := true }
def FnToStepsUptoSaid : Prop := fnToStepsUptoRow.holds Tryz.pinned (OpenSpec.upto fnToStepsSpec)

/-- 'laws.FnToDisk', WHERE WHAT IT READS IS OF BULK AT MOST 1048576: true; the input reads as it did. -/
def fnToDiskUptoRow : OpenClaim := { program := "ytogfelpdgeionaagreat", sum := "a21abd6c570a401a4fec4cf6a3214a1130cb8bb5c72b381eeec359728e71d4dc", func := "loop.example/buttery/laws.FnToDisk", spec := "fnToDisk", unfollowed := true, recurses := true, leaving := true, apart := false, narrowed := true }
def FnToDiskUptoSaid : Prop := fnToDiskUptoRow.holds Tryz.pinned (OpenSpec.upto fnToDiskSpec)

/-- 'laws.FnStepsOk', WHERE WHAT IT READS IS OF BULK AT MOST 1048576: true; the input reads as it did. -/
def fnStepsOkUptoRow : OpenClaim := { program := "ytogfelpdgeionaagreat", sum := "a21abd6c570a401a4fec4cf6a3214a1130cb8bb5c72b381eeec359728e71d4dc", func := "loop.example/buttery/laws.FnStepsOk", spec := "fnStepsOk", unfollowed := true, recurses := true, leaving := true, apart := false, narrowed := true }
def FnStepsOkUptoSaid : Prop := fnStepsOkUptoRow.holds Tryz.pinned (OpenSpec.upto fnStepsOkSpec)

/-- 'laws.FnToTorn', WHERE WHAT IT READS IS OF BULK AT MOST 1048576: true; the input reads as it did. -/
def fnToTornUptoRow : OpenClaim := { program := "ytogfelpdgeionaagreat", sum := "a21abd6c570a401a4fec4cf6a3214a1130cb8bb5c72b381eeec359728e71d4dc", func := "loop.example/buttery/laws.FnToTorn", spec := "fnToTorn", unfollowed := true, recurses := true, leaving := true, apart := false, narrowed := true }
def FnToTornUptoSaid : Prop := fnToTornUptoRow.holds Tryz.pinned (OpenSpec.upto fnToTornSpec)

/-- 'laws.FnDirtyNone', WHERE WHAT IT READS IS OF BULK AT MOST 1048576: true; the input reads as it did. -/
def fnDirtyNoneUptoRow : OpenClaim := { program := "ytogfelpdgeionaagreat", sum := "a21abd6c570a401a4fec4cf6a3214a1130cb8bb5c72b381eeec359728e71d4dc", func := "loop.example/buttery/laws.FnDirtyNone", spec := "fnDirtyNone", inPlace := ["(*sync.WaitGroup).Add", "internal/race.ReleaseMerge", "internal/race.Disable", "internal/race.Enable", "internal/synctest.IsInBubble", "internal/synctest.Associate[sync.WaitGroup]", "sync.fatal", "sync/atomic.OrUint64", "sync/atomic.AddUint64", "internal/race.Read", "sync/atomic.LoadUint64", "sync/atomic.StoreUint64", "internal/synctest.Disassociate[sync.WaitGroup]", "sync.runtime_Semrelease", "(*sync.WaitGroup).Done", "(*sync.WaitGroup).Wait", "internal/race.Acquire", "internal/synctest.IsAssociated[sync.WaitGroup]", "sync/atomic.CompareAndSwapUint64", "internal/race.Write", "sync.runtime_SemacquireWaitGroup"], unfollowed := true, recurses := true, leaving := true, apart := false, narrowed := true }
def FnDirtyNoneUptoSaid : Prop := fnDirtyNoneUptoRow.holds Tryz.pinned (OpenSpec.upto fnDirtyNoneSpec)

/-- 'laws.FnPutTwice', WHERE WHAT IT READS IS OF BULK AT MOST 1048576: true; the input reads as it did. -/
def fnPutTwiceUptoRow : OpenClaim := { program := "ytogfelpdgeionaagreat", sum := "a21abd6c570a401a4fec4cf6a3214a1130cb8bb5c72b381eeec359728e71d4dc", func := "loop.example/buttery/laws.FnPutTwice", spec := "fnPutTwice", inPlace := ["(*sync.WaitGroup).Add", "internal/race.ReleaseMerge", "internal/race.Disable", "internal/race.Enable", "internal/synctest.IsInBubble", "internal/synctest.Associate[sync.WaitGroup]", "sync.fatal", "sync/atomic.OrUint64", "sync/atomic.AddUint64", "internal/race.Read", "sync/atomic.LoadUint64", "sync/atomic.StoreUint64", "internal/synctest.Disassociate[sync.WaitGroup]", "sync.runtime_Semrelease", "(*sync.WaitGroup).Done", "(*sync.WaitGroup).Wait", "internal/race.Acquire", "internal/synctest.IsAssociated[sync.WaitGroup]", "sync/atomic.CompareAndSwapUint64", "internal/race.Write", "sync.runtime_SemacquireWaitGroup"], unfollowed := true, recurses := true, leaving := true, apart := false, narrowed := true }
def FnPutTwiceUptoSaid : Prop := fnPutTwiceUptoRow.holds Tryz.pinned (OpenSpec.upto fnPutTwiceSpec)

/-- 'laws.FnPutAgain', WHERE WHAT IT READS IS OF BULK AT MOST 1048576: true; the input reads as it did. -/
def fnPutAgainUptoRow : OpenClaim := { program := "ytogfelpdgeionaagreat", sum := "a21abd6c570a401a4fec4cf6a3214a1130cb8bb5c72b381eeec359728e71d4dc", func := "loop.example/buttery/laws.FnPutAgain", spec := "fnPutAgain", inPlace := ["(*sync.WaitGroup).Add", "internal/race.ReleaseMerge", "internal/race.Disable", "internal/race.Enable", "internal/synctest.IsInBubble", "internal/synctest.Associate[sync.WaitGroup]", "sync.fatal", "sync/atomic.OrUint64", "sync/atomic.AddUint64", "internal/race.Read", "sync/atomic.LoadUint64", "sync/atomic.StoreUint64", "internal/synctest.Disassociate[sync.WaitGroup]", "sync.runtime_Semrelease", "(*sync.WaitGroup).Done", "(*sync.WaitGroup).Wait", "internal/race.Acquire", "internal/synctest.IsAssociated[sync.WaitGroup]", "sync/atomic.CompareAndSwapUint64", "internal/race.Write", "sync.runtime_SemacquireWaitGroup"], unfollowed := true, recurses := true, leaving := true, apart := false, narrowed := true }
def FnPutAgainUptoSaid : Prop := fnPutAgainUptoRow.holds Tryz.pinned (OpenSpec.upto fnPutAgainSpec)

/-- 'laws.FnFlushDisk', WHERE WHAT IT READS IS OF BULK AT MOST 1048576: true; the input reads as it did. -/
def fnFlushDiskUptoRow : OpenClaim := { program := "ytogfelpdgeionaagreat", sum := "a21abd6c570a401a4fec4cf6a3214a1130cb8bb5c72b381eeec359728e71d4dc", func := "loop.example/buttery/laws.FnFlushDisk", spec := "fnFlushDisk", inPlace := ["(*sync.WaitGroup).Add", "internal/race.ReleaseMerge", "internal/race.Disable", "internal/race.Enable", "internal/synctest.IsInBubble", "internal/synctest.Associate[sync.WaitGroup]", "sync.fatal", "sync/atomic.OrUint64", "sync/atomic.AddUint64", "internal/race.Read", "sync/atomic.LoadUint64", "sync/atomic.StoreUint64", "internal/synctest.Disassociate[sync.WaitGroup]", "sync.runtime_Semrelease", "(*sync.WaitGroup).Done", "(*sync.WaitGroup).Wait", "internal/race.Acquire", "internal/synctest.IsAssociated[sync.WaitGroup]", "sync/atomic.CompareAndSwapUint64", "internal/race.Write", "sync.runtime_SemacquireWaitGroup"], unfollowed := true, recurses := true, leaving := true, apart := false, narrowed := true }
def FnFlushDiskUptoSaid : Prop := fnFlushDiskUptoRow.holds Tryz.pinned (OpenSpec.upto fnFlushDiskSpec)

/-- 'laws.FnExactPlaySteps', WHERE WHAT IT READS IS OF BULK AT MOST 1048576: true; the input reads as it did. -/
def fnExactPlayStepsUptoRow : OpenClaim := { program := "ytogfelpdgeionaagreat", sum := "a21abd6c570a401a4fec4cf6a3214a1130cb8bb5c72b381eeec359728e71d4dc", func := "loop.example/buttery/laws.FnExactPlaySteps", spec := "fnExactPlaySteps", unfollowed := true, recurses := true, leaving := true, apart := false, narrowed := true }
def FnExactPlayStepsUptoSaid : Prop := fnExactPlayStepsUptoRow.holds Tryz.pinned (OpenSpec.upto fnExactPlayStepsSpec)

/-- 'laws.FnExactPlayDo', WHERE WHAT IT READS IS OF BULK AT MOST 1048576: true; the input reads as it did. -/
def fnExactPlayDoUptoRow : OpenClaim := { program := "ytogfelpdgeionaagreat", sum := "a21abd6c570a401a4fec4cf6a3214a1130cb8bb5c72b381eeec359728e71d4dc", func := "loop.example/buttery/laws.FnExactPlayDo", spec := "fnExactPlayDo", unfollowed := true, recurses := true, leaving := true, apart := false, narrowed := true }
def FnExactPlayDoUptoSaid : Prop := fnExactPlayDoUptoRow.holds Tryz.pinned (OpenSpec.upto fnExactPlayDoSpec)

/-- 'laws.FnExactPlayRun', WHERE WHAT IT READS IS OF BULK AT MOST 1048576: true; the input reads as it did. -/
def fnExactPlayRunUptoRow : OpenClaim := { program := "ytogfelpdgeionaagreat", sum := "a21abd6c570a401a4fec4cf6a3214a1130cb8bb5c72b381eeec359728e71d4dc", func := "loop.example/buttery/laws.FnExactPlayRun", spec := "fnExactPlayRun", unfollowed := true, recurses := true, leaving := true, apart := false, narrowed := true }
def FnExactPlayRunUptoSaid : Prop := fnExactPlayRunUptoRow.holds Tryz.pinned (OpenSpec.upto fnExactPlayRunSpec)

/-- 'laws.FnExactCostRun', WHERE WHAT IT READS IS OF BULK AT MOST 1048576: true; the input reads as it did. -/
def fnExactCostRunUptoRow : OpenClaim := { program := "ytogfelpdgeionaagreat", sum := "a21abd6c570a401a4fec4cf6a3214a1130cb8bb5c72b381eeec359728e71d4dc", func := "loop.example/buttery/laws.FnExactCostRun", spec := "fnExactCostRun", unfollowed := true, recurses := true, leaving := true, apart := false, narrowed := true }
def FnExactCostRunUptoSaid : Prop := fnExactCostRunUptoRow.holds Tryz.pinned (OpenSpec.upto fnExactCostRunSpec)

/-- 'laws.FnExactPairAll', WHERE WHAT IT READS IS OF BULK AT MOST 1048576: true; the input reads as it did. -/
def fnExactPairAllUptoRow : OpenClaim := { program := "ytogfelpdgeionaagreat", sum := "a21abd6c570a401a4fec4cf6a3214a1130cb8bb5c72b381eeec359728e71d4dc", func := "loop.example/buttery/laws.FnExactPairAll", spec := "fnExactPairAll", unfollowed := true, recurses := true, leaving := true, apart := false, narrowed := true }
def FnExactPairAllUptoSaid : Prop := fnExactPairAllUptoRow.holds Tryz.pinned (OpenSpec.upto fnExactPairAllSpec)

/-- 'laws.FnExactPairPut', WHERE WHAT IT READS IS OF BULK AT MOST 1048576: true; the input reads as it did. -/
def fnExactPairPutUptoRow : OpenClaim := { program := "ytogfelpdgeionaagreat", sum := "a21abd6c570a401a4fec4cf6a3214a1130cb8bb5c72b381eeec359728e71d4dc", func := "loop.example/buttery/laws.FnExactPairPut", spec := "fnExactPairPut", unfollowed := true, recurses := true, leaving := true, apart := false, narrowed := true }
def FnExactPairPutUptoSaid : Prop := fnExactPairPutUptoRow.holds Tryz.pinned (OpenSpec.upto fnExactPairPutSpec)

/-- 'laws.FnExactPairMend', WHERE WHAT IT READS IS OF BULK AT MOST 1048576: true; the input reads as it did. -/
def fnExactPairMendUptoRow : OpenClaim := { program := "ytogfelpdgeionaagreat", sum := "a21abd6c570a401a4fec4cf6a3214a1130cb8bb5c72b381eeec359728e71d4dc", func := "loop.example/buttery/laws.FnExactPairMend", spec := "fnExactPairMend", unfollowed := true, recurses := true, leaving := true, apart := false, narrowed := true }
def FnExactPairMendUptoSaid : Prop := fnExactPairMendUptoRow.holds Tryz.pinned (OpenSpec.upto fnExactPairMendSpec)

/-- 'laws.FnExactPairLose', WHERE WHAT IT READS IS OF BULK AT MOST 1048576: true; the input reads as it did. -/
def fnExactPairLoseUptoRow : OpenClaim := { program := "ytogfelpdgeionaagreat", sum := "a21abd6c570a401a4fec4cf6a3214a1130cb8bb5c72b381eeec359728e71d4dc", func := "loop.example/buttery/laws.FnExactPairLose", spec := "fnExactPairLose", unfollowed := true, recurses := true, leaving := true, apart := false, narrowed := true }
def FnExactPairLoseUptoSaid : Prop := fnExactPairLoseUptoRow.holds Tryz.pinned (OpenSpec.upto fnExactPairLoseSpec)

/-- 'laws.FnExactPairBack', WHERE WHAT IT READS IS OF BULK AT MOST 1048576: true; the input reads as it did. -/
def fnExactPairBackUptoRow : OpenClaim := { program := "ytogfelpdgeionaagreat", sum := "a21abd6c570a401a4fec4cf6a3214a1130cb8bb5c72b381eeec359728e71d4dc", func := "loop.example/buttery/laws.FnExactPairBack", spec := "fnExactPairBack", unfollowed := true, recurses := true, leaving := true, apart := false, narrowed := true }
def FnExactPairBackUptoSaid : Prop := fnExactPairBackUptoRow.holds Tryz.pinned (OpenSpec.upto fnExactPairBackSpec)

end Rows
end Go.Proofs.YtogfelpdgeionaaGreat
