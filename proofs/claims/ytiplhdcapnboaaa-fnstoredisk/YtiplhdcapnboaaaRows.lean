/-
  No cell of these rows narrows 'for every input' (looked for: loops, veiled, ifaces, maps, wideKeys, modest, calm, conditions, laid).
  DERIVED. THE GIVEN ROWS OF THIS SEAT. 21 by the template 'for every input the law returns true; each argument reads behind the call as it read before'; 0 by the template 'total and deterministic' (their statements: YtiplhdcapnboaaaTotals.lean).
  GIVEN WITH THE SEED: the statements are not yours to turn. If you find one false, say at which input.
  Laid BY PROGRAM, IN A SANDBOX (cutbox-rows.mjs): the forced cells as the released guide's own fill.sh prints them over the translation 02c047fbc21533ea… (all of the seat's roots in one cut). By AI agents, Wed Nov 11 2026. No macro, syntax, notation, axiom, sorry.
-/
import Derived.Test.YtiplhdcapnboaaaChecked
import GoSem.Claim
import GoSem.ClaimJoined
import GoSem.ClaimMapViews
import Derived.JoinedTies
import Derived.KernelRfl
namespace Go.Proofs.Ytiplhdcapnboaaa
/- THE CELL 'sum', in the pinned program and in every row, IS THE sha256 OF THE DUMP (.gsa) THAT YtiplhdcapnboaaaProg.lean LOADS. Nothing in Lean hashes anything: it is a label: what it is worth is what the hold of that sum in a sandbox is worth. -/
noncomputable def Try.pinned : Pinned := { name := "ytiplhdcapnboaaa", sum := "02c047fbc21533ea3fbfef5de29d6f564d508dfde492917d354846ec088a79d7", checked := Try.checked }
namespace Rows
def none {H : Type} : Left H := { results := [], args := [] }

/-- 'laws.FnWriteNext': WHATEVER THE INPUT: true; the input reads as it did. -/
def fnWriteNextSpec : ChangeSpec := { name := "fnWriteNext", fn := fun _ => fun
  | [d] => { results := [.lit (.bool true)], args := [d] }
  | _ => none }
def fnWriteNextRow : OpenClaim := { program := "ytiplhdcapnboaaa", sum := "02c047fbc21533ea3fbfef5de29d6f564d508dfde492917d354846ec088a79d7", func := "loop.example/buttery/laws.FnWriteNext", spec := "fnWriteNext", unfollowed := true, recurses := true, apart := false }
def FnWriteNextSaid : Prop := fnWriteNextRow.holds Try.pinned (OpenSpec.ofChange fnWriteNextSpec)

/-- ITS FALSE NEIGHBOUR: 'it returns false'. Refute it at one input. -/
def fnWriteNextWrong : ChangeSpec := { name := "fnWriteNext", fn := fun _ => fun
  | [d] => { results := [.lit (.bool false)], args := [d] }
  | _ => none }
def FnWriteNextWrongFalsely : Prop := fnWriteNextRow.holds Try.pinned (OpenSpec.ofChange fnWriteNextWrong)

/-- 'laws.FnFlashLess': WHATEVER THE INPUT: true; the input reads as it did. -/
def fnFlashLessSpec : ChangeSpec := { name := "fnFlashLess", fn := fun _ => fun
  | [d1, d2] => { results := [.lit (.bool true)], args := [d1, d2] }
  | _ => none }
def fnFlashLessRow : OpenClaim := { program := "ytiplhdcapnboaaa", sum := "02c047fbc21533ea3fbfef5de29d6f564d508dfde492917d354846ec088a79d7", func := "loop.example/buttery/laws.FnFlashLess", spec := "fnFlashLess", unfollowed := true, recurses := true, apart := false }
def FnFlashLessSaid : Prop := fnFlashLessRow.holds Try.pinned (OpenSpec.ofChange fnFlashLessSpec)

/-- ITS FALSE NEIGHBOUR: 'it returns false'. Refute it at one input. -/
def fnFlashLessWrong : ChangeSpec := { name := "fnFlashLess", fn := fun _ => fun
  | [d1, d2] => { results := [.lit (.bool false)], args := [d1, d2] }
  | _ => none }
def FnFlashLessWrongFalsely : Prop := fnFlashLessRow.holds Try.pinned (OpenSpec.ofChange fnFlashLessWrong)

/-- 'laws.FnFlashSeq': WHATEVER THE INPUT: true; the input reads as it did. -/
def fnFlashSeqSpec : ChangeSpec := { name := "fnFlashSeq", fn := fun _ => fun
  | [d1, d2] => { results := [.lit (.bool true)], args := [d1, d2] }
  | _ => none }
def fnFlashSeqRow : OpenClaim := { program := "ytiplhdcapnboaaa", sum := "02c047fbc21533ea3fbfef5de29d6f564d508dfde492917d354846ec088a79d7", func := "loop.example/buttery/laws.FnFlashSeq", spec := "fnFlashSeq", unfollowed := true, recurses := true, apart := false }
def FnFlashSeqSaid : Prop := fnFlashSeqRow.holds Try.pinned (OpenSpec.ofChange fnFlashSeqSpec)

/-- ITS FALSE NEIGHBOUR: 'it returns false'. Refute it at one input. -/
def fnFlashSeqWrong : ChangeSpec := { name := "fnFlashSeq", fn := fun _ => fun
  | [d1, d2] => { results := [.lit (.bool false)], args := [d1, d2] }
  | _ => none }
def FnFlashSeqWrongFalsely : Prop := fnFlashSeqRow.holds Try.pinned (OpenSpec.ofChange fnFlashSeqWrong)

/-- 'laws.FnWornMax': WHATEVER THE INPUT: true; the input reads as it did. -/
def fnWornMaxSpec : ChangeSpec := { name := "fnWornMax", fn := fun _ => fun
  | [d1, d2] => { results := [.lit (.bool true)], args := [d1, d2] }
  | _ => none }
def fnWornMaxRow : OpenClaim := { program := "ytiplhdcapnboaaa", sum := "02c047fbc21533ea3fbfef5de29d6f564d508dfde492917d354846ec088a79d7", func := "loop.example/buttery/laws.FnWornMax", spec := "fnWornMax", unfollowed := true, recurses := true, apart := false }
def FnWornMaxSaid : Prop := fnWornMaxRow.holds Try.pinned (OpenSpec.ofChange fnWornMaxSpec)

/-- ITS FALSE NEIGHBOUR: 'it returns false'. Refute it at one input. -/
def fnWornMaxWrong : ChangeSpec := { name := "fnWornMax", fn := fun _ => fun
  | [d1, d2] => { results := [.lit (.bool false)], args := [d1, d2] }
  | _ => none }
def FnWornMaxWrongFalsely : Prop := fnWornMaxRow.holds Try.pinned (OpenSpec.ofChange fnWornMaxWrong)

/-- 'laws.FnLive': WHATEVER THE INPUT: true; the input reads as it did. -/
def fnLiveSpec : ChangeSpec := { name := "fnLive", fn := fun _ => fun
  | [d] => { results := [.lit (.bool true)], args := [d] }
  | _ => none }
def fnLiveRow : OpenClaim := { program := "ytiplhdcapnboaaa", sum := "02c047fbc21533ea3fbfef5de29d6f564d508dfde492917d354846ec088a79d7", func := "loop.example/buttery/laws.FnLive", spec := "fnLive", unfollowed := true, recurses := true, apart := false }
def FnLiveSaid : Prop := fnLiveRow.holds Try.pinned (OpenSpec.ofChange fnLiveSpec)

/-- ITS FALSE NEIGHBOUR: 'it returns false'. Refute it at one input. -/
def fnLiveWrong : ChangeSpec := { name := "fnLive", fn := fun _ => fun
  | [d] => { results := [.lit (.bool false)], args := [d] }
  | _ => none }
def FnLiveWrongFalsely : Prop := fnLiveRow.holds Try.pinned (OpenSpec.ofChange fnLiveWrong)

/-- 'laws.FnOld': WHATEVER THE INPUT: true; the input reads as it did. -/
def fnOldSpec : ChangeSpec := { name := "fnOld", fn := fun _ => fun
  | [d] => { results := [.lit (.bool true)], args := [d] }
  | _ => none }
def fnOldRow : OpenClaim := { program := "ytiplhdcapnboaaa", sum := "02c047fbc21533ea3fbfef5de29d6f564d508dfde492917d354846ec088a79d7", func := "loop.example/buttery/laws.FnOld", spec := "fnOld", unfollowed := true, recurses := true, apart := false }
def FnOldSaid : Prop := fnOldRow.holds Try.pinned (OpenSpec.ofChange fnOldSpec)

/-- ITS FALSE NEIGHBOUR: 'it returns false'. Refute it at one input. -/
def fnOldWrong : ChangeSpec := { name := "fnOld", fn := fun _ => fun
  | [d] => { results := [.lit (.bool false)], args := [d] }
  | _ => none }
def FnOldWrongFalsely : Prop := fnOldRow.holds Try.pinned (OpenSpec.ofChange fnOldWrong)

/-- 'laws.FnOldLast': WHATEVER THE INPUT: true; the input reads as it did. -/
def fnOldLastSpec : ChangeSpec := { name := "fnOldLast", fn := fun _ => fun
  | [d] => { results := [.lit (.bool true)], args := [d] }
  | _ => none }
def fnOldLastRow : OpenClaim := { program := "ytiplhdcapnboaaa", sum := "02c047fbc21533ea3fbfef5de29d6f564d508dfde492917d354846ec088a79d7", func := "loop.example/buttery/laws.FnOldLast", spec := "fnOldLast", unfollowed := true, recurses := true, apart := false }
def FnOldLastSaid : Prop := fnOldLastRow.holds Try.pinned (OpenSpec.ofChange fnOldLastSpec)

/-- ITS FALSE NEIGHBOUR: 'it returns false'. Refute it at one input. -/
def fnOldLastWrong : ChangeSpec := { name := "fnOldLast", fn := fun _ => fun
  | [d] => { results := [.lit (.bool false)], args := [d] }
  | _ => none }
def FnOldLastWrongFalsely : Prop := fnOldLastRow.holds Try.pinned (OpenSpec.ofChange fnOldLastWrong)

/-- 'laws.FnOldNext': WHATEVER THE INPUT: true; the input reads as it did. -/
def fnOldNextSpec : ChangeSpec := { name := "fnOldNext", fn := fun _ => fun
  | [d] => { results := [.lit (.bool true)], args := [d] }
  | _ => none }
def fnOldNextRow : OpenClaim := { program := "ytiplhdcapnboaaa", sum := "02c047fbc21533ea3fbfef5de29d6f564d508dfde492917d354846ec088a79d7", func := "loop.example/buttery/laws.FnOldNext", spec := "fnOldNext", unfollowed := true, recurses := true, apart := false }
def FnOldNextSaid : Prop := fnOldNextRow.holds Try.pinned (OpenSpec.ofChange fnOldNextSpec)

/-- ITS FALSE NEIGHBOUR: 'it returns false'. Refute it at one input. -/
def fnOldNextWrong : ChangeSpec := { name := "fnOldNext", fn := fun _ => fun
  | [d] => { results := [.lit (.bool false)], args := [d] }
  | _ => none }
def FnOldNextWrongFalsely : Prop := fnOldNextRow.holds Try.pinned (OpenSpec.ofChange fnOldNextWrong)

/-- 'laws.FnOrderLess': WHATEVER THE INPUT: true; the input reads as it did. -/
def fnOrderLessSpec : ChangeSpec := { name := "fnOrderLess", fn := fun _ => fun
  | [d1, d2] => { results := [.lit (.bool true)], args := [d1, d2] }
  | _ => none }
def fnOrderLessRow : OpenClaim := { program := "ytiplhdcapnboaaa", sum := "02c047fbc21533ea3fbfef5de29d6f564d508dfde492917d354846ec088a79d7", func := "loop.example/buttery/laws.FnOrderLess", spec := "fnOrderLess", unfollowed := true, recurses := true, apart := false }
def FnOrderLessSaid : Prop := fnOrderLessRow.holds Try.pinned (OpenSpec.ofChange fnOrderLessSpec)

/-- ITS FALSE NEIGHBOUR: 'it returns false'. Refute it at one input. -/
def fnOrderLessWrong : ChangeSpec := { name := "fnOrderLess", fn := fun _ => fun
  | [d1, d2] => { results := [.lit (.bool false)], args := [d1, d2] }
  | _ => none }
def FnOrderLessWrongFalsely : Prop := fnOrderLessRow.holds Try.pinned (OpenSpec.ofChange fnOrderLessWrong)

/-- 'laws.FnRead': WHATEVER THE INPUT: true; the input reads as it did. -/
def fnReadSpec : ChangeSpec := { name := "fnRead", fn := fun _ => fun
  | [d] => { results := [.lit (.bool true)], args := [d] }
  | _ => none }
def fnReadRow : OpenClaim := { program := "ytiplhdcapnboaaa", sum := "02c047fbc21533ea3fbfef5de29d6f564d508dfde492917d354846ec088a79d7", func := "loop.example/buttery/laws.FnRead", spec := "fnRead", unfollowed := true, recurses := true, apart := false }
def FnReadSaid : Prop := fnReadRow.holds Try.pinned (OpenSpec.ofChange fnReadSpec)

/-- ITS FALSE NEIGHBOUR: 'it returns false'. Refute it at one input. -/
def fnReadWrong : ChangeSpec := { name := "fnRead", fn := fun _ => fun
  | [d] => { results := [.lit (.bool false)], args := [d] }
  | _ => none }
def FnReadWrongFalsely : Prop := fnReadRow.holds Try.pinned (OpenSpec.ofChange fnReadWrong)

/-- 'laws.FnAll': WHATEVER THE INPUT: true; the input reads as it did. -/
def fnAllSpec : ChangeSpec := { name := "fnAll", fn := fun _ => fun
  | [d] => { results := [.lit (.bool true)], args := [d] }
  | _ => none }
def fnAllRow : OpenClaim := { program := "ytiplhdcapnboaaa", sum := "02c047fbc21533ea3fbfef5de29d6f564d508dfde492917d354846ec088a79d7", func := "loop.example/buttery/laws.FnAll", spec := "fnAll", unfollowed := true, recurses := true, apart := false }
def FnAllSaid : Prop := fnAllRow.holds Try.pinned (OpenSpec.ofChange fnAllSpec)

/-- ITS FALSE NEIGHBOUR: 'it returns false'. Refute it at one input. -/
def fnAllWrong : ChangeSpec := { name := "fnAll", fn := fun _ => fun
  | [d] => { results := [.lit (.bool false)], args := [d] }
  | _ => none }
def FnAllWrongFalsely : Prop := fnAllRow.holds Try.pinned (OpenSpec.ofChange fnAllWrong)

/-- 'laws.FnDirty': WHATEVER THE INPUT: true; the input reads as it did. -/
def fnDirtySpec : ChangeSpec := { name := "fnDirty", fn := fun _ => fun
  | [d] => { results := [.lit (.bool true)], args := [d] }
  | _ => none }
def fnDirtyRow : OpenClaim := { program := "ytiplhdcapnboaaa", sum := "02c047fbc21533ea3fbfef5de29d6f564d508dfde492917d354846ec088a79d7", func := "loop.example/buttery/laws.FnDirty", spec := "fnDirty", unfollowed := true, recurses := true, apart := false }
def FnDirtySaid : Prop := fnDirtyRow.holds Try.pinned (OpenSpec.ofChange fnDirtySpec)

/-- ITS FALSE NEIGHBOUR: 'it returns false'. Refute it at one input. -/
def fnDirtyWrong : ChangeSpec := { name := "fnDirty", fn := fun _ => fun
  | [d] => { results := [.lit (.bool false)], args := [d] }
  | _ => none }
def FnDirtyWrongFalsely : Prop := fnDirtyRow.holds Try.pinned (OpenSpec.ofChange fnDirtyWrong)

/-- 'laws.FnStoreDisk': WHATEVER THE INPUT: true; the input reads as it did. -/
def fnStoreDiskSpec : ChangeSpec := { name := "fnStoreDisk", fn := fun _ => fun
  | [d1, d2] => { results := [.lit (.bool true)], args := [d1, d2] }
  | _ => none }
def fnStoreDiskRow : OpenClaim := { program := "ytiplhdcapnboaaa", sum := "02c047fbc21533ea3fbfef5de29d6f564d508dfde492917d354846ec088a79d7", func := "loop.example/buttery/laws.FnStoreDisk", spec := "fnStoreDisk", unfollowed := true, recurses := true, apart := false }
def FnStoreDiskSaid : Prop := fnStoreDiskRow.holds Try.pinned (OpenSpec.ofChange fnStoreDiskSpec)

/-- ITS FALSE NEIGHBOUR: 'it returns false'. Refute it at one input. -/
def fnStoreDiskWrong : ChangeSpec := { name := "fnStoreDisk", fn := fun _ => fun
  | [d1, d2] => { results := [.lit (.bool false)], args := [d1, d2] }
  | _ => none }
def FnStoreDiskWrongFalsely : Prop := fnStoreDiskRow.holds Try.pinned (OpenSpec.ofChange fnStoreDiskWrong)

/-- 'laws.FnStoreNew': WHATEVER THE INPUT: true; the input reads as it did. -/
def fnStoreNewSpec : ChangeSpec := { name := "fnStoreNew", fn := fun _ => fun
  | [d] => { results := [.lit (.bool true)], args := [d] }
  | _ => none }
def fnStoreNewRow : OpenClaim := { program := "ytiplhdcapnboaaa", sum := "02c047fbc21533ea3fbfef5de29d6f564d508dfde492917d354846ec088a79d7", func := "loop.example/buttery/laws.FnStoreNew", spec := "fnStoreNew", unfollowed := true, recurses := true, apart := false }
def FnStoreNewSaid : Prop := fnStoreNewRow.holds Try.pinned (OpenSpec.ofChange fnStoreNewSpec)

/-- ITS FALSE NEIGHBOUR: 'it returns false'. Refute it at one input. -/
def fnStoreNewWrong : ChangeSpec := { name := "fnStoreNew", fn := fun _ => fun
  | [d] => { results := [.lit (.bool false)], args := [d] }
  | _ => none }
def FnStoreNewWrongFalsely : Prop := fnStoreNewRow.holds Try.pinned (OpenSpec.ofChange fnStoreNewWrong)

/-- 'laws.FnReadDisk': WHATEVER THE INPUT: true; the input reads as it did. -/
def fnReadDiskSpec : ChangeSpec := { name := "fnReadDisk", fn := fun _ => fun
  | [d] => { results := [.lit (.bool true)], args := [d] }
  | _ => none }
def fnReadDiskRow : OpenClaim := { program := "ytiplhdcapnboaaa", sum := "02c047fbc21533ea3fbfef5de29d6f564d508dfde492917d354846ec088a79d7", func := "loop.example/buttery/laws.FnReadDisk", spec := "fnReadDisk", unfollowed := true, recurses := true, apart := false }
def FnReadDiskSaid : Prop := fnReadDiskRow.holds Try.pinned (OpenSpec.ofChange fnReadDiskSpec)

/-- ITS FALSE NEIGHBOUR: 'it returns false'. Refute it at one input. -/
def fnReadDiskWrong : ChangeSpec := { name := "fnReadDisk", fn := fun _ => fun
  | [d] => { results := [.lit (.bool false)], args := [d] }
  | _ => none }
def FnReadDiskWrongFalsely : Prop := fnReadDiskRow.holds Try.pinned (OpenSpec.ofChange fnReadDiskWrong)

/-- 'laws.FnReadWrite': WHATEVER THE INPUT: true; the input reads as it did. -/
def fnReadWriteSpec : ChangeSpec := { name := "fnReadWrite", fn := fun _ => fun
  | [d1, d2] => { results := [.lit (.bool true)], args := [d1, d2] }
  | _ => none }
def fnReadWriteRow : OpenClaim := { program := "ytiplhdcapnboaaa", sum := "02c047fbc21533ea3fbfef5de29d6f564d508dfde492917d354846ec088a79d7", func := "loop.example/buttery/laws.FnReadWrite", spec := "fnReadWrite", unfollowed := true, recurses := true, apart := false }
def FnReadWriteSaid : Prop := fnReadWriteRow.holds Try.pinned (OpenSpec.ofChange fnReadWriteSpec)

/-- ITS FALSE NEIGHBOUR: 'it returns false'. Refute it at one input. -/
def fnReadWriteWrong : ChangeSpec := { name := "fnReadWrite", fn := fun _ => fun
  | [d1, d2] => { results := [.lit (.bool false)], args := [d1, d2] }
  | _ => none }
def FnReadWriteWrongFalsely : Prop := fnReadWriteRow.holds Try.pinned (OpenSpec.ofChange fnReadWriteWrong)

/-- 'laws.FnPutSteps': WHATEVER THE INPUT: true; the input reads as it did. -/
def fnPutStepsSpec : ChangeSpec := { name := "fnPutSteps", fn := fun _ => fun
  | [d] => { results := [.lit (.bool true)], args := [d] }
  | _ => none }
def fnPutStepsRow : OpenClaim := { program := "ytiplhdcapnboaaa", sum := "02c047fbc21533ea3fbfef5de29d6f564d508dfde492917d354846ec088a79d7", func := "loop.example/buttery/laws.FnPutSteps", spec := "fnPutSteps", unfollowed := true, recurses := true, apart := false }
def FnPutStepsSaid : Prop := fnPutStepsRow.holds Try.pinned (OpenSpec.ofChange fnPutStepsSpec)

/-- ITS FALSE NEIGHBOUR: 'it returns false'. Refute it at one input. -/
def fnPutStepsWrong : ChangeSpec := { name := "fnPutSteps", fn := fun _ => fun
  | [d] => { results := [.lit (.bool false)], args := [d] }
  | _ => none }
def FnPutStepsWrongFalsely : Prop := fnPutStepsRow.holds Try.pinned (OpenSpec.ofChange fnPutStepsWrong)

/-- 'laws.FnPutEver': WHATEVER THE INPUT: true; the input reads as it did. -/
def fnPutEverSpec : ChangeSpec := { name := "fnPutEver", fn := fun _ => fun
  | [d] => { results := [.lit (.bool true)], args := [d] }
  | _ => none }
def fnPutEverRow : OpenClaim := { program := "ytiplhdcapnboaaa", sum := "02c047fbc21533ea3fbfef5de29d6f564d508dfde492917d354846ec088a79d7", func := "loop.example/buttery/laws.FnPutEver", spec := "fnPutEver", unfollowed := true, recurses := true, apart := false }
def FnPutEverSaid : Prop := fnPutEverRow.holds Try.pinned (OpenSpec.ofChange fnPutEverSpec)

/-- ITS FALSE NEIGHBOUR: 'it returns false'. Refute it at one input. -/
def fnPutEverWrong : ChangeSpec := { name := "fnPutEver", fn := fun _ => fun
  | [d] => { results := [.lit (.bool false)], args := [d] }
  | _ => none }
def FnPutEverWrongFalsely : Prop := fnPutEverRow.holds Try.pinned (OpenSpec.ofChange fnPutEverWrong)

/-- 'laws.FnFlushSteps': WHATEVER THE INPUT: true; the input reads as it did. -/
def fnFlushStepsSpec : ChangeSpec := { name := "fnFlushSteps", fn := fun _ => fun
  | [d] => { results := [.lit (.bool true)], args := [d] }
  | _ => none }
def fnFlushStepsRow : OpenClaim := { program := "ytiplhdcapnboaaa", sum := "02c047fbc21533ea3fbfef5de29d6f564d508dfde492917d354846ec088a79d7", func := "loop.example/buttery/laws.FnFlushSteps", spec := "fnFlushSteps", unfollowed := true, recurses := true, apart := false }
def FnFlushStepsSaid : Prop := fnFlushStepsRow.holds Try.pinned (OpenSpec.ofChange fnFlushStepsSpec)

/-- ITS FALSE NEIGHBOUR: 'it returns false'. Refute it at one input. -/
def fnFlushStepsWrong : ChangeSpec := { name := "fnFlushSteps", fn := fun _ => fun
  | [d] => { results := [.lit (.bool false)], args := [d] }
  | _ => none }
def FnFlushStepsWrongFalsely : Prop := fnFlushStepsRow.holds Try.pinned (OpenSpec.ofChange fnFlushStepsWrong)

/-- 'laws.FnPutFew': WHATEVER THE INPUT: true; the input reads as it did. -/
def fnPutFewSpec : ChangeSpec := { name := "fnPutFew", fn := fun _ => fun
  | [d] => { results := [.lit (.bool true)], args := [d] }
  | _ => none }
def fnPutFewRow : OpenClaim := { program := "ytiplhdcapnboaaa", sum := "02c047fbc21533ea3fbfef5de29d6f564d508dfde492917d354846ec088a79d7", func := "loop.example/buttery/laws.FnPutFew", spec := "fnPutFew", unfollowed := true, recurses := true, apart := false }
def FnPutFewSaid : Prop := fnPutFewRow.holds Try.pinned (OpenSpec.ofChange fnPutFewSpec)

/-- ITS FALSE NEIGHBOUR: 'it returns false'. Refute it at one input. -/
def fnPutFewWrong : ChangeSpec := { name := "fnPutFew", fn := fun _ => fun
  | [d] => { results := [.lit (.bool false)], args := [d] }
  | _ => none }
def FnPutFewWrongFalsely : Prop := fnPutFewRow.holds Try.pinned (OpenSpec.ofChange fnPutFewWrong)

/-- 'laws.FnFlushFew': WHATEVER THE INPUT: true; the input reads as it did. -/
def fnFlushFewSpec : ChangeSpec := { name := "fnFlushFew", fn := fun _ => fun
  | [d] => { results := [.lit (.bool true)], args := [d] }
  | _ => none }
def fnFlushFewRow : OpenClaim := { program := "ytiplhdcapnboaaa", sum := "02c047fbc21533ea3fbfef5de29d6f564d508dfde492917d354846ec088a79d7", func := "loop.example/buttery/laws.FnFlushFew", spec := "fnFlushFew", unfollowed := true, recurses := true, apart := false }
def FnFlushFewSaid : Prop := fnFlushFewRow.holds Try.pinned (OpenSpec.ofChange fnFlushFewSpec)

/-- ITS FALSE NEIGHBOUR: 'it returns false'. Refute it at one input. -/
def fnFlushFewWrong : ChangeSpec := { name := "fnFlushFew", fn := fun _ => fun
  | [d] => { results := [.lit (.bool false)], args := [d] }
  | _ => none }
def FnFlushFewWrongFalsely : Prop := fnFlushFewRow.holds Try.pinned (OpenSpec.ofChange fnFlushFewWrong)

/- THE SECOND FORM. 'bulk': how many values and letters a reading holds, each counted each time it is reached (what is shared counts as often as it is met; a slice's spare places count too). A statement '..UptoSaid' is the law's where the arguments, and the package variables that the reading takes, are together of bulk at most 1048576: NARROWER than '..Said'. Prove '..Said' where nothing that the law and all that it calls make is longer than what came in: it says more and counts as full. Else prove '..UptoSaid'. A law counts once. -/
mutual
def uptoBulk {H : Type} : DataW H → Nat
  | .lit (.string bytes) => bytes.length + 1
  | .lit _ => 1
  | .nil => 1
  | .ptr d => uptoBulk d + 1
  | .slice elems spare => uptoBulkAll elems + uptoBulkAll spare + 1
  | .agg parts => uptoBulkAll parts + 1
  | .iface _ d => uptoBulk d + 1
  | .map entries => uptoBulkEntries entries + 1
  | .held _ => 1
def uptoBulkAll {H : Type} : List (DataW H) → Nat
  | [] => 0
  | d :: r => uptoBulk d + uptoBulkAll r
def uptoBulkEntries {H : Type} : List (Lit × DataW H) → Nat
  | [] => 0
  | x :: r => uptoBulkEntry x + uptoBulkEntries r
def uptoBulkEntry {H : Type} : Lit × DataW H → Nat
  | (.string bytes, d) => bytes.length + uptoBulk d + 1
  | (_, d) => uptoBulk d + 1
 end
def uptoSmall : (H : Type) → List (DataW H) → Bool := fun _ ds => decide (uptoBulkAll ds ≤ 1048576)
def OpenSpec.upto (s : _root_.Go.ChangeSpec) : _root_.Go.OpenSpec := { _root_.Go.OpenSpec.ofChange s with cond := some uptoSmall }

/-- 'laws.FnWriteNext', WHERE WHAT IT READS IS OF BULK AT MOST 1048576: true; the input reads as it did. -/
def fnWriteNextUptoRow : OpenClaim := { program := "ytiplhdcapnboaaa", sum := "02c047fbc21533ea3fbfef5de29d6f564d508dfde492917d354846ec088a79d7", func := "loop.example/buttery/laws.FnWriteNext", spec := "fnWriteNext", unfollowed := true, recurses := true, apart := false, narrowed := true }
def FnWriteNextUptoSaid : Prop := fnWriteNextUptoRow.holds Try.pinned (OpenSpec.upto fnWriteNextSpec)

/-- 'laws.FnFlashLess', WHERE WHAT IT READS IS OF BULK AT MOST 1048576: true; the input reads as it did. -/
def fnFlashLessUptoRow : OpenClaim := { program := "ytiplhdcapnboaaa", sum := "02c047fbc21533ea3fbfef5de29d6f564d508dfde492917d354846ec088a79d7", func := "loop.example/buttery/laws.FnFlashLess", spec := "fnFlashLess", unfollowed := true, recurses := true, apart := false, narrowed := true }
def FnFlashLessUptoSaid : Prop := fnFlashLessUptoRow.holds Try.pinned (OpenSpec.upto fnFlashLessSpec)

/-- 'laws.FnFlashSeq', WHERE WHAT IT READS IS OF BULK AT MOST 1048576: true; the input reads as it did. -/
def fnFlashSeqUptoRow : OpenClaim := { program := "ytiplhdcapnboaaa", sum := "02c047fbc21533ea3fbfef5de29d6f564d508dfde492917d354846ec088a79d7", func := "loop.example/buttery/laws.FnFlashSeq", spec := "fnFlashSeq", unfollowed := true, recurses := true, apart := false, narrowed := true }
def FnFlashSeqUptoSaid : Prop := fnFlashSeqUptoRow.holds Try.pinned (OpenSpec.upto fnFlashSeqSpec)

/-- 'laws.FnWornMax', WHERE WHAT IT READS IS OF BULK AT MOST 1048576: true; the input reads as it did. -/
def fnWornMaxUptoRow : OpenClaim := { program := "ytiplhdcapnboaaa", sum := "02c047fbc21533ea3fbfef5de29d6f564d508dfde492917d354846ec088a79d7", func := "loop.example/buttery/laws.FnWornMax", spec := "fnWornMax", unfollowed := true, recurses := true, apart := false, narrowed := true }
def FnWornMaxUptoSaid : Prop := fnWornMaxUptoRow.holds Try.pinned (OpenSpec.upto fnWornMaxSpec)

/-- 'laws.FnLive', WHERE WHAT IT READS IS OF BULK AT MOST 1048576: true; the input reads as it did. -/
def fnLiveUptoRow : OpenClaim := { program := "ytiplhdcapnboaaa", sum := "02c047fbc21533ea3fbfef5de29d6f564d508dfde492917d354846ec088a79d7", func := "loop.example/buttery/laws.FnLive", spec := "fnLive", unfollowed := true, recurses := true, apart := false, narrowed := true }
def FnLiveUptoSaid : Prop := fnLiveUptoRow.holds Try.pinned (OpenSpec.upto fnLiveSpec)

/-- 'laws.FnOld', WHERE WHAT IT READS IS OF BULK AT MOST 1048576: true; the input reads as it did. -/
def fnOldUptoRow : OpenClaim := { program := "ytiplhdcapnboaaa", sum := "02c047fbc21533ea3fbfef5de29d6f564d508dfde492917d354846ec088a79d7", func := "loop.example/buttery/laws.FnOld", spec := "fnOld", unfollowed := true, recurses := true, apart := false, narrowed := true }
def FnOldUptoSaid : Prop := fnOldUptoRow.holds Try.pinned (OpenSpec.upto fnOldSpec)

/-- 'laws.FnOldLast', WHERE WHAT IT READS IS OF BULK AT MOST 1048576: true; the input reads as it did. -/
def fnOldLastUptoRow : OpenClaim := { program := "ytiplhdcapnboaaa", sum := "02c047fbc21533ea3fbfef5de29d6f564d508dfde492917d354846ec088a79d7", func := "loop.example/buttery/laws.FnOldLast", spec := "fnOldLast", unfollowed := true, recurses := true, apart := false, narrowed := true }
def FnOldLastUptoSaid : Prop := fnOldLastUptoRow.holds Try.pinned (OpenSpec.upto fnOldLastSpec)

/-- 'laws.FnOldNext', WHERE WHAT IT READS IS OF BULK AT MOST 1048576: true; the input reads as it did. -/
def fnOldNextUptoRow : OpenClaim := { program := "ytiplhdcapnboaaa", sum := "02c047fbc21533ea3fbfef5de29d6f564d508dfde492917d354846ec088a79d7", func := "loop.example/buttery/laws.FnOldNext", spec := "fnOldNext", unfollowed := true, recurses := true, apart := false, narrowed := true }
def FnOldNextUptoSaid : Prop := fnOldNextUptoRow.holds Try.pinned (OpenSpec.upto fnOldNextSpec)

/-- 'laws.FnOrderLess', WHERE WHAT IT READS IS OF BULK AT MOST 1048576: true; the input reads as it did. -/
def fnOrderLessUptoRow : OpenClaim := { program := "ytiplhdcapnboaaa", sum := "02c047fbc21533ea3fbfef5de29d6f564d508dfde492917d354846ec088a79d7", func := "loop.example/buttery/laws.FnOrderLess", spec := "fnOrderLess", unfollowed := true, recurses := true, apart := false, narrowed := true }
def FnOrderLessUptoSaid : Prop := fnOrderLessUptoRow.holds Try.pinned (OpenSpec.upto fnOrderLessSpec)

/-- 'laws.FnRead', WHERE WHAT IT READS IS OF BULK AT MOST 1048576: true; the input reads as it did. -/
def fnReadUptoRow : OpenClaim := { program := "ytiplhdcapnboaaa", sum := "02c047fbc21533ea3fbfef5de29d6f564d508dfde492917d354846ec088a79d7", func := "loop.example/buttery/laws.FnRead", spec := "fnRead", unfollowed := true, recurses := true, apart := false, narrowed := true }
def FnReadUptoSaid : Prop := fnReadUptoRow.holds Try.pinned (OpenSpec.upto fnReadSpec)

/-- 'laws.FnAll', WHERE WHAT IT READS IS OF BULK AT MOST 1048576: true; the input reads as it did. -/
def fnAllUptoRow : OpenClaim := { program := "ytiplhdcapnboaaa", sum := "02c047fbc21533ea3fbfef5de29d6f564d508dfde492917d354846ec088a79d7", func := "loop.example/buttery/laws.FnAll", spec := "fnAll", unfollowed := true, recurses := true, apart := false, narrowed := true }
def FnAllUptoSaid : Prop := fnAllUptoRow.holds Try.pinned (OpenSpec.upto fnAllSpec)

/-- 'laws.FnDirty', WHERE WHAT IT READS IS OF BULK AT MOST 1048576: true; the input reads as it did. -/
def fnDirtyUptoRow : OpenClaim := { program := "ytiplhdcapnboaaa", sum := "02c047fbc21533ea3fbfef5de29d6f564d508dfde492917d354846ec088a79d7", func := "loop.example/buttery/laws.FnDirty", spec := "fnDirty", unfollowed := true, recurses := true, apart := false, narrowed := true }
def FnDirtyUptoSaid : Prop := fnDirtyUptoRow.holds Try.pinned (OpenSpec.upto fnDirtySpec)

/-- 'laws.FnStoreDisk', WHERE WHAT IT READS IS OF BULK AT MOST 1048576: true; the input reads as it did. -/
def fnStoreDiskUptoRow : OpenClaim := { program := "ytiplhdcapnboaaa", sum := "02c047fbc21533ea3fbfef5de29d6f564d508dfde492917d354846ec088a79d7", func := "loop.example/buttery/laws.FnStoreDisk", spec := "fnStoreDisk", unfollowed := true, recurses := true, apart := false, narrowed := true }
def FnStoreDiskUptoSaid : Prop := fnStoreDiskUptoRow.holds Try.pinned (OpenSpec.upto fnStoreDiskSpec)

/-- 'laws.FnStoreNew', WHERE WHAT IT READS IS OF BULK AT MOST 1048576: true; the input reads as it did. -/
def fnStoreNewUptoRow : OpenClaim := { program := "ytiplhdcapnboaaa", sum := "02c047fbc21533ea3fbfef5de29d6f564d508dfde492917d354846ec088a79d7", func := "loop.example/buttery/laws.FnStoreNew", spec := "fnStoreNew", unfollowed := true, recurses := true, apart := false, narrowed := true }
def FnStoreNewUptoSaid : Prop := fnStoreNewUptoRow.holds Try.pinned (OpenSpec.upto fnStoreNewSpec)

/-- 'laws.FnReadDisk', WHERE WHAT IT READS IS OF BULK AT MOST 1048576: true; the input reads as it did. -/
def fnReadDiskUptoRow : OpenClaim := { program := "ytiplhdcapnboaaa", sum := "02c047fbc21533ea3fbfef5de29d6f564d508dfde492917d354846ec088a79d7", func := "loop.example/buttery/laws.FnReadDisk", spec := "fnReadDisk", unfollowed := true, recurses := true, apart := false, narrowed := true }
def FnReadDiskUptoSaid : Prop := fnReadDiskUptoRow.holds Try.pinned (OpenSpec.upto fnReadDiskSpec)

/-- 'laws.FnReadWrite', WHERE WHAT IT READS IS OF BULK AT MOST 1048576: true; the input reads as it did. -/
def fnReadWriteUptoRow : OpenClaim := { program := "ytiplhdcapnboaaa", sum := "02c047fbc21533ea3fbfef5de29d6f564d508dfde492917d354846ec088a79d7", func := "loop.example/buttery/laws.FnReadWrite", spec := "fnReadWrite", unfollowed := true, recurses := true, apart := false, narrowed := true }
def FnReadWriteUptoSaid : Prop := fnReadWriteUptoRow.holds Try.pinned (OpenSpec.upto fnReadWriteSpec)

/-- 'laws.FnPutSteps', WHERE WHAT IT READS IS OF BULK AT MOST 1048576: true; the input reads as it did. -/
def fnPutStepsUptoRow : OpenClaim := { program := "ytiplhdcapnboaaa", sum := "02c047fbc21533ea3fbfef5de29d6f564d508dfde492917d354846ec088a79d7", func := "loop.example/buttery/laws.FnPutSteps", spec := "fnPutSteps", unfollowed := true, recurses := true, apart := false, narrowed := true }
def FnPutStepsUptoSaid : Prop := fnPutStepsUptoRow.holds Try.pinned (OpenSpec.upto fnPutStepsSpec)

/-- 'laws.FnPutEver', WHERE WHAT IT READS IS OF BULK AT MOST 1048576: true; the input reads as it did. -/
def fnPutEverUptoRow : OpenClaim := { program := "ytiplhdcapnboaaa", sum := "02c047fbc21533ea3fbfef5de29d6f564d508dfde492917d354846ec088a79d7", func := "loop.example/buttery/laws.FnPutEver", spec := "fnPutEver", unfollowed := true, recurses := true, apart := false, narrowed := true }
def FnPutEverUptoSaid : Prop := fnPutEverUptoRow.holds Try.pinned (OpenSpec.upto fnPutEverSpec)

/-- 'laws.FnFlushSteps', WHERE WHAT IT READS IS OF BULK AT MOST 1048576: true; the input reads as it did. -/
def fnFlushStepsUptoRow : OpenClaim := { program := "ytiplhdcapnboaaa", sum := "02c047fbc21533ea3fbfef5de29d6f564d508dfde492917d354846ec088a79d7", func := "loop.example/buttery/laws.FnFlushSteps", spec := "fnFlushSteps", unfollowed := true, recurses := true, apart := false, narrowed := true }
def FnFlushStepsUptoSaid : Prop := fnFlushStepsUptoRow.holds Try.pinned (OpenSpec.upto fnFlushStepsSpec)

/-- 'laws.FnPutFew', WHERE WHAT IT READS IS OF BULK AT MOST 1048576: true; the input reads as it did. -/
def fnPutFewUptoRow : OpenClaim := { program := "ytiplhdcapnboaaa", sum := "02c047fbc21533ea3fbfef5de29d6f564d508dfde492917d354846ec088a79d7", func := "loop.example/buttery/laws.FnPutFew", spec := "fnPutFew", unfollowed := true, recurses := true, apart := false, narrowed := true }
def FnPutFewUptoSaid : Prop := fnPutFewUptoRow.holds Try.pinned (OpenSpec.upto fnPutFewSpec)

/-- 'laws.FnFlushFew', WHERE WHAT IT READS IS OF BULK AT MOST 1048576: true; the input reads as it did. -/
def fnFlushFewUptoRow : OpenClaim := { program := "ytiplhdcapnboaaa", sum := "02c047fbc21533ea3fbfef5de29d6f564d508dfde492917d354846ec088a79d7", func := "loop.example/buttery/laws.FnFlushFew", spec := "fnFlushFew", unfollowed := true, recurses := true, apart := false, narrowed := true }
def FnFlushFewUptoSaid : Prop := fnFlushFewUptoRow.holds Try.pinned (OpenSpec.upto fnFlushFewSpec)

end Rows
end Go.Proofs.Ytiplhdcapnboaaa
