/-
  No cell of these rows narrows 'for every input' (looked for: loops, veiled, ifaces, maps, wideKeys, modest, calm, conditions, laid).
  DERIVED. THE GIVEN ROWS OF THIS SEAT. 21 by the template 'for every input the law returns true; each argument reads behind the call as it read before'; 0 by the template 'total and deterministic' (their statements: YtogioeflbbmppaaTotals.lean).
  GIVEN WITH THE SEED: the statements are not yours to turn. If you find one false, say at which input.
  Laid BY PROGRAM, IN A SANDBOX (cutbox-rows.mjs): the forced cells as the released guide's own fill.sh prints them over the translation b924b3c2c0f35c88… (all of the seat's roots in one cut). By AI agents, Wed Nov 11 2026. No macro, syntax, notation, axiom, sorry.
-/
import Derived.Test.YtogioeflbbmppaaChecked
import GoSem.Claim
import GoSem.ClaimJoined
import GoSem.ClaimMapViews
import Derived.JoinedTies
import Derived.KernelRfl
namespace Go.Proofs.Ytogioeflbbmppaa
/- THE CELL 'sum', in the pinned program and in every row, IS THE sha256 OF THE DUMP (.gsa) THAT YtogioeflbbmppaaProg.lean LOADS. Nothing in Lean hashes anything: it is a label: what it is worth is what the hold of that sum in a sandbox is worth. -/
noncomputable def Try.pinned : Pinned := { name := "ytogioeflbbmppaa", sum := "b924b3c2c0f35c888900da777e46c4283fee50cf4c4d8b41b00b5a4d5cff4c67", checked := Try.checked }
namespace Rows
def none {H : Type} : Left H := { results := [], args := [] }

/-- 'laws.FnWriteNext': WHATEVER THE INPUT: true; the input reads as it did. -/
def fnWriteNextSpec : ChangeSpec := { name := "fnWriteNext", fn := fun _ => fun
  | [d] => { results := [.lit (.bool true)], args := [d] }
  | _ => none }
def fnWriteNextRow : OpenClaim := { program := "ytogioeflbbmppaa", sum := "b924b3c2c0f35c888900da777e46c4283fee50cf4c4d8b41b00b5a4d5cff4c67", func := "loop.example/buttery/laws.FnWriteNext", spec := "fnWriteNext", unfollowed := true, recurses := true, apart := false }
def FnWriteNextSaid : Prop := fnWriteNextRow.holds Try.pinned (OpenSpec.ofChange fnWriteNextSpec)

/-- ITS FALSE NEIGHBOUR: 'it returns false'. Refute it at one input. -/
def fnWriteNextWrong : ChangeSpec := { name := "fnWriteNext", fn := fun _ => fun
  | [d] => { results := [.lit (.bool false)], args := [d] }
  | _ => none }
def FnWriteNextWrongFalsely : Prop := fnWriteNextRow.holds Try.pinned (OpenSpec.ofChange fnWriteNextWrong)

/-- 'laws.FnWriteNot': WHATEVER THE INPUT: true; the input reads as it did. -/
def fnWriteNotSpec : ChangeSpec := { name := "fnWriteNot", fn := fun _ => fun
  | [d] => { results := [.lit (.bool true)], args := [d] }
  | _ => none }
def fnWriteNotRow : OpenClaim := { program := "ytogioeflbbmppaa", sum := "b924b3c2c0f35c888900da777e46c4283fee50cf4c4d8b41b00b5a4d5cff4c67", func := "loop.example/buttery/laws.FnWriteNot", spec := "fnWriteNot", unfollowed := true, recurses := true, apart := false }
def FnWriteNotSaid : Prop := fnWriteNotRow.holds Try.pinned (OpenSpec.ofChange fnWriteNotSpec)

/-- ITS FALSE NEIGHBOUR: 'it returns false'. Refute it at one input. -/
def fnWriteNotWrong : ChangeSpec := { name := "fnWriteNot", fn := fun _ => fun
  | [d] => { results := [.lit (.bool false)], args := [d] }
  | _ => none }
def FnWriteNotWrongFalsely : Prop := fnWriteNotRow.holds Try.pinned (OpenSpec.ofChange fnWriteNotWrong)

/-- 'laws.FnWipe': WHATEVER THE INPUT: true; the input reads as it did. -/
def fnWipeSpec : ChangeSpec := { name := "fnWipe", fn := fun _ => fun
  | [d] => { results := [.lit (.bool true)], args := [d] }
  | _ => none }
def fnWipeRow : OpenClaim := { program := "ytogioeflbbmppaa", sum := "b924b3c2c0f35c888900da777e46c4283fee50cf4c4d8b41b00b5a4d5cff4c67", func := "loop.example/buttery/laws.FnWipe", spec := "fnWipe", unfollowed := true, recurses := true, apart := false }
def FnWipeSaid : Prop := fnWipeRow.holds Try.pinned (OpenSpec.ofChange fnWipeSpec)

/-- ITS FALSE NEIGHBOUR: 'it returns false'. Refute it at one input. -/
def fnWipeWrong : ChangeSpec := { name := "fnWipe", fn := fun _ => fun
  | [d] => { results := [.lit (.bool false)], args := [d] }
  | _ => none }
def FnWipeWrongFalsely : Prop := fnWipeRow.holds Try.pinned (OpenSpec.ofChange fnWipeWrong)

/-- 'laws.FnWipeAgain': WHATEVER THE INPUT: true; the input reads as it did. -/
def fnWipeAgainSpec : ChangeSpec := { name := "fnWipeAgain", fn := fun _ => fun
  | [d] => { results := [.lit (.bool true)], args := [d] }
  | _ => none }
def fnWipeAgainRow : OpenClaim := { program := "ytogioeflbbmppaa", sum := "b924b3c2c0f35c888900da777e46c4283fee50cf4c4d8b41b00b5a4d5cff4c67", func := "loop.example/buttery/laws.FnWipeAgain", spec := "fnWipeAgain", unfollowed := true, recurses := true, apart := false }
def FnWipeAgainSaid : Prop := fnWipeAgainRow.holds Try.pinned (OpenSpec.ofChange fnWipeAgainSpec)

/-- ITS FALSE NEIGHBOUR: 'it returns false'. Refute it at one input. -/
def fnWipeAgainWrong : ChangeSpec := { name := "fnWipeAgain", fn := fun _ => fun
  | [d] => { results := [.lit (.bool false)], args := [d] }
  | _ => none }
def FnWipeAgainWrongFalsely : Prop := fnWipeAgainRow.holds Try.pinned (OpenSpec.ofChange fnWipeAgainWrong)

/-- 'laws.FnFlashLess': WHATEVER THE INPUT: true; the input reads as it did. -/
def fnFlashLessSpec : ChangeSpec := { name := "fnFlashLess", fn := fun _ => fun
  | [d1, d2] => { results := [.lit (.bool true)], args := [d1, d2] }
  | _ => none }
def fnFlashLessRow : OpenClaim := { program := "ytogioeflbbmppaa", sum := "b924b3c2c0f35c888900da777e46c4283fee50cf4c4d8b41b00b5a4d5cff4c67", func := "loop.example/buttery/laws.FnFlashLess", spec := "fnFlashLess", unfollowed := true, recurses := true, apart := false }
def FnFlashLessSaid : Prop := fnFlashLessRow.holds Try.pinned (OpenSpec.ofChange fnFlashLessSpec)

/-- ITS FALSE NEIGHBOUR: 'it returns false'. Refute it at one input. -/
def fnFlashLessWrong : ChangeSpec := { name := "fnFlashLess", fn := fun _ => fun
  | [d1, d2] => { results := [.lit (.bool false)], args := [d1, d2] }
  | _ => none }
def FnFlashLessWrongFalsely : Prop := fnFlashLessRow.holds Try.pinned (OpenSpec.ofChange fnFlashLessWrong)

/-- 'laws.FnWriteTwo': WHATEVER THE INPUT: true; the input reads as it did. -/
def fnWriteTwoSpec : ChangeSpec := { name := "fnWriteTwo", fn := fun _ => fun
  | [d1, d2] => { results := [.lit (.bool true)], args := [d1, d2] }
  | _ => none }
def fnWriteTwoRow : OpenClaim := { program := "ytogioeflbbmppaa", sum := "b924b3c2c0f35c888900da777e46c4283fee50cf4c4d8b41b00b5a4d5cff4c67", func := "loop.example/buttery/laws.FnWriteTwo", spec := "fnWriteTwo", unfollowed := true, recurses := true, apart := false }
def FnWriteTwoSaid : Prop := fnWriteTwoRow.holds Try.pinned (OpenSpec.ofChange fnWriteTwoSpec)

/-- ITS FALSE NEIGHBOUR: 'it returns false'. Refute it at one input. -/
def fnWriteTwoWrong : ChangeSpec := { name := "fnWriteTwo", fn := fun _ => fun
  | [d1, d2] => { results := [.lit (.bool false)], args := [d1, d2] }
  | _ => none }
def FnWriteTwoWrongFalsely : Prop := fnWriteTwoRow.holds Try.pinned (OpenSpec.ofChange fnWriteTwoWrong)

/-- 'laws.FnWipeAll': WHATEVER THE INPUT: true; the input reads as it did. -/
def fnWipeAllSpec : ChangeSpec := { name := "fnWipeAll", fn := fun _ => fun
  | [d] => { results := [.lit (.bool true)], args := [d] }
  | _ => none }
def fnWipeAllRow : OpenClaim := { program := "ytogioeflbbmppaa", sum := "b924b3c2c0f35c888900da777e46c4283fee50cf4c4d8b41b00b5a4d5cff4c67", func := "loop.example/buttery/laws.FnWipeAll", spec := "fnWipeAll", unfollowed := true, recurses := true, apart := false }
def FnWipeAllSaid : Prop := fnWipeAllRow.holds Try.pinned (OpenSpec.ofChange fnWipeAllSpec)

/-- ITS FALSE NEIGHBOUR: 'it returns false'. Refute it at one input. -/
def fnWipeAllWrong : ChangeSpec := { name := "fnWipeAll", fn := fun _ => fun
  | [d] => { results := [.lit (.bool false)], args := [d] }
  | _ => none }
def FnWipeAllWrongFalsely : Prop := fnWipeAllRow.holds Try.pinned (OpenSpec.ofChange fnWipeAllWrong)

/-- 'laws.FnFlashSeq': WHATEVER THE INPUT: true; the input reads as it did. -/
def fnFlashSeqSpec : ChangeSpec := { name := "fnFlashSeq", fn := fun _ => fun
  | [d1, d2] => { results := [.lit (.bool true)], args := [d1, d2] }
  | _ => none }
def fnFlashSeqRow : OpenClaim := { program := "ytogioeflbbmppaa", sum := "b924b3c2c0f35c888900da777e46c4283fee50cf4c4d8b41b00b5a4d5cff4c67", func := "loop.example/buttery/laws.FnFlashSeq", spec := "fnFlashSeq", unfollowed := true, recurses := true, apart := false }
def FnFlashSeqSaid : Prop := fnFlashSeqRow.holds Try.pinned (OpenSpec.ofChange fnFlashSeqSpec)

/-- ITS FALSE NEIGHBOUR: 'it returns false'. Refute it at one input. -/
def fnFlashSeqWrong : ChangeSpec := { name := "fnFlashSeq", fn := fun _ => fun
  | [d1, d2] => { results := [.lit (.bool false)], args := [d1, d2] }
  | _ => none }
def FnFlashSeqWrongFalsely : Prop := fnFlashSeqRow.holds Try.pinned (OpenSpec.ofChange fnFlashSeqWrong)

/-- 'laws.FnWornMax': WHATEVER THE INPUT: true; the input reads as it did. -/
def fnWornMaxSpec : ChangeSpec := { name := "fnWornMax", fn := fun _ => fun
  | [d1, d2] => { results := [.lit (.bool true)], args := [d1, d2] }
  | _ => none }
def fnWornMaxRow : OpenClaim := { program := "ytogioeflbbmppaa", sum := "b924b3c2c0f35c888900da777e46c4283fee50cf4c4d8b41b00b5a4d5cff4c67", func := "loop.example/buttery/laws.FnWornMax", spec := "fnWornMax", unfollowed := true, recurses := true, apart := false }
def FnWornMaxSaid : Prop := fnWornMaxRow.holds Try.pinned (OpenSpec.ofChange fnWornMaxSpec)

/-- ITS FALSE NEIGHBOUR: 'it returns false'. Refute it at one input. -/
def fnWornMaxWrong : ChangeSpec := { name := "fnWornMax", fn := fun _ => fun
  | [d1, d2] => { results := [.lit (.bool false)], args := [d1, d2] }
  | _ => none }
def FnWornMaxWrongFalsely : Prop := fnWornMaxRow.holds Try.pinned (OpenSpec.ofChange fnWornMaxWrong)

/-- 'laws.FnLast': WHATEVER THE INPUT: true; the input reads as it did. -/
def fnLastSpec : ChangeSpec := { name := "fnLast", fn := fun _ => fun
  | [d] => { results := [.lit (.bool true)], args := [d] }
  | _ => none }
def fnLastRow : OpenClaim := { program := "ytogioeflbbmppaa", sum := "b924b3c2c0f35c888900da777e46c4283fee50cf4c4d8b41b00b5a4d5cff4c67", func := "loop.example/buttery/laws.FnLast", spec := "fnLast", unfollowed := true, recurses := true, apart := false }
def FnLastSaid : Prop := fnLastRow.holds Try.pinned (OpenSpec.ofChange fnLastSpec)

/-- ITS FALSE NEIGHBOUR: 'it returns false'. Refute it at one input. -/
def fnLastWrong : ChangeSpec := { name := "fnLast", fn := fun _ => fun
  | [d] => { results := [.lit (.bool false)], args := [d] }
  | _ => none }
def FnLastWrongFalsely : Prop := fnLastRow.holds Try.pinned (OpenSpec.ofChange fnLastWrong)

/-- 'laws.FnLive': WHATEVER THE INPUT: true; the input reads as it did. -/
def fnLiveSpec : ChangeSpec := { name := "fnLive", fn := fun _ => fun
  | [d] => { results := [.lit (.bool true)], args := [d] }
  | _ => none }
def fnLiveRow : OpenClaim := { program := "ytogioeflbbmppaa", sum := "b924b3c2c0f35c888900da777e46c4283fee50cf4c4d8b41b00b5a4d5cff4c67", func := "loop.example/buttery/laws.FnLive", spec := "fnLive", unfollowed := true, recurses := true, apart := false }
def FnLiveSaid : Prop := fnLiveRow.holds Try.pinned (OpenSpec.ofChange fnLiveSpec)

/-- ITS FALSE NEIGHBOUR: 'it returns false'. Refute it at one input. -/
def fnLiveWrong : ChangeSpec := { name := "fnLive", fn := fun _ => fun
  | [d] => { results := [.lit (.bool false)], args := [d] }
  | _ => none }
def FnLiveWrongFalsely : Prop := fnLiveRow.holds Try.pinned (OpenSpec.ofChange fnLiveWrong)

/-- 'laws.FnNext': WHATEVER THE INPUT: true; the input reads as it did. -/
def fnNextSpec : ChangeSpec := { name := "fnNext", fn := fun _ => fun
  | [d] => { results := [.lit (.bool true)], args := [d] }
  | _ => none }
def fnNextRow : OpenClaim := { program := "ytogioeflbbmppaa", sum := "b924b3c2c0f35c888900da777e46c4283fee50cf4c4d8b41b00b5a4d5cff4c67", func := "loop.example/buttery/laws.FnNext", spec := "fnNext", unfollowed := true, recurses := true, apart := false }
def FnNextSaid : Prop := fnNextRow.holds Try.pinned (OpenSpec.ofChange fnNextSpec)

/-- ITS FALSE NEIGHBOUR: 'it returns false'. Refute it at one input. -/
def fnNextWrong : ChangeSpec := { name := "fnNext", fn := fun _ => fun
  | [d] => { results := [.lit (.bool false)], args := [d] }
  | _ => none }
def FnNextWrongFalsely : Prop := fnNextRow.holds Try.pinned (OpenSpec.ofChange fnNextWrong)

/-- 'laws.FnOpen': WHATEVER THE INPUT: true; the input reads as it did. -/
def fnOpenSpec : ChangeSpec := { name := "fnOpen", fn := fun _ => fun
  | [d] => { results := [.lit (.bool true)], args := [d] }
  | _ => none }
def fnOpenRow : OpenClaim := { program := "ytogioeflbbmppaa", sum := "b924b3c2c0f35c888900da777e46c4283fee50cf4c4d8b41b00b5a4d5cff4c67", func := "loop.example/buttery/laws.FnOpen", spec := "fnOpen", unfollowed := true, recurses := true, apart := false }
def FnOpenSaid : Prop := fnOpenRow.holds Try.pinned (OpenSpec.ofChange fnOpenSpec)

/-- ITS FALSE NEIGHBOUR: 'it returns false'. Refute it at one input. -/
def fnOpenWrong : ChangeSpec := { name := "fnOpen", fn := fun _ => fun
  | [d] => { results := [.lit (.bool false)], args := [d] }
  | _ => none }
def FnOpenWrongFalsely : Prop := fnOpenRow.holds Try.pinned (OpenSpec.ofChange fnOpenWrong)

/-- 'laws.FnOld': WHATEVER THE INPUT: true; the input reads as it did. -/
def fnOldSpec : ChangeSpec := { name := "fnOld", fn := fun _ => fun
  | [d] => { results := [.lit (.bool true)], args := [d] }
  | _ => none }
def fnOldRow : OpenClaim := { program := "ytogioeflbbmppaa", sum := "b924b3c2c0f35c888900da777e46c4283fee50cf4c4d8b41b00b5a4d5cff4c67", func := "loop.example/buttery/laws.FnOld", spec := "fnOld", unfollowed := true, recurses := true, apart := false }
def FnOldSaid : Prop := fnOldRow.holds Try.pinned (OpenSpec.ofChange fnOldSpec)

/-- ITS FALSE NEIGHBOUR: 'it returns false'. Refute it at one input. -/
def fnOldWrong : ChangeSpec := { name := "fnOld", fn := fun _ => fun
  | [d] => { results := [.lit (.bool false)], args := [d] }
  | _ => none }
def FnOldWrongFalsely : Prop := fnOldRow.holds Try.pinned (OpenSpec.ofChange fnOldWrong)

/-- 'laws.FnOldLast': WHATEVER THE INPUT: true; the input reads as it did. -/
def fnOldLastSpec : ChangeSpec := { name := "fnOldLast", fn := fun _ => fun
  | [d] => { results := [.lit (.bool true)], args := [d] }
  | _ => none }
def fnOldLastRow : OpenClaim := { program := "ytogioeflbbmppaa", sum := "b924b3c2c0f35c888900da777e46c4283fee50cf4c4d8b41b00b5a4d5cff4c67", func := "loop.example/buttery/laws.FnOldLast", spec := "fnOldLast", unfollowed := true, recurses := true, apart := false }
def FnOldLastSaid : Prop := fnOldLastRow.holds Try.pinned (OpenSpec.ofChange fnOldLastSpec)

/-- ITS FALSE NEIGHBOUR: 'it returns false'. Refute it at one input. -/
def fnOldLastWrong : ChangeSpec := { name := "fnOldLast", fn := fun _ => fun
  | [d] => { results := [.lit (.bool false)], args := [d] }
  | _ => none }
def FnOldLastWrongFalsely : Prop := fnOldLastRow.holds Try.pinned (OpenSpec.ofChange fnOldLastWrong)

/-- 'laws.FnOrderStep': WHATEVER THE INPUT: true; the input reads as it did. -/
def fnOrderStepSpec : ChangeSpec := { name := "fnOrderStep", fn := fun _ => fun
  | [d1, d2] => { results := [.lit (.bool true)], args := [d1, d2] }
  | _ => none }
def fnOrderStepRow : OpenClaim := { program := "ytogioeflbbmppaa", sum := "b924b3c2c0f35c888900da777e46c4283fee50cf4c4d8b41b00b5a4d5cff4c67", func := "loop.example/buttery/laws.FnOrderStep", spec := "fnOrderStep", unfollowed := true, recurses := true, apart := false }
def FnOrderStepSaid : Prop := fnOrderStepRow.holds Try.pinned (OpenSpec.ofChange fnOrderStepSpec)

/-- ITS FALSE NEIGHBOUR: 'it returns false'. Refute it at one input. -/
def fnOrderStepWrong : ChangeSpec := { name := "fnOrderStep", fn := fun _ => fun
  | [d1, d2] => { results := [.lit (.bool false)], args := [d1, d2] }
  | _ => none }
def FnOrderStepWrongFalsely : Prop := fnOrderStepRow.holds Try.pinned (OpenSpec.ofChange fnOrderStepWrong)

/-- 'laws.FnLastWrite': WHATEVER THE INPUT: true; the input reads as it did. -/
def fnLastWriteSpec : ChangeSpec := { name := "fnLastWrite", fn := fun _ => fun
  | [d1, d2] => { results := [.lit (.bool true)], args := [d1, d2] }
  | _ => none }
def fnLastWriteRow : OpenClaim := { program := "ytogioeflbbmppaa", sum := "b924b3c2c0f35c888900da777e46c4283fee50cf4c4d8b41b00b5a4d5cff4c67", func := "loop.example/buttery/laws.FnLastWrite", spec := "fnLastWrite", unfollowed := true, recurses := true, apart := false }
def FnLastWriteSaid : Prop := fnLastWriteRow.holds Try.pinned (OpenSpec.ofChange fnLastWriteSpec)

/-- ITS FALSE NEIGHBOUR: 'it returns false'. Refute it at one input. -/
def fnLastWriteWrong : ChangeSpec := { name := "fnLastWrite", fn := fun _ => fun
  | [d1, d2] => { results := [.lit (.bool false)], args := [d1, d2] }
  | _ => none }
def FnLastWriteWrongFalsely : Prop := fnLastWriteRow.holds Try.pinned (OpenSpec.ofChange fnLastWriteWrong)

/-- 'laws.FnOpenNone': WHATEVER THE INPUT: true; the input reads as it did. -/
def fnOpenNoneSpec : ChangeSpec := { name := "fnOpenNone", fn := fun _ => fun
  | [d] => { results := [.lit (.bool true)], args := [d] }
  | _ => none }
def fnOpenNoneRow : OpenClaim := { program := "ytogioeflbbmppaa", sum := "b924b3c2c0f35c888900da777e46c4283fee50cf4c4d8b41b00b5a4d5cff4c67", func := "loop.example/buttery/laws.FnOpenNone", spec := "fnOpenNone", unfollowed := true, recurses := true, apart := false }
def FnOpenNoneSaid : Prop := fnOpenNoneRow.holds Try.pinned (OpenSpec.ofChange fnOpenNoneSpec)

/-- ITS FALSE NEIGHBOUR: 'it returns false'. Refute it at one input. -/
def fnOpenNoneWrong : ChangeSpec := { name := "fnOpenNone", fn := fun _ => fun
  | [d] => { results := [.lit (.bool false)], args := [d] }
  | _ => none }
def FnOpenNoneWrongFalsely : Prop := fnOpenNoneRow.holds Try.pinned (OpenSpec.ofChange fnOpenNoneWrong)

/-- 'laws.FnOldNext': WHATEVER THE INPUT: true; the input reads as it did. -/
def fnOldNextSpec : ChangeSpec := { name := "fnOldNext", fn := fun _ => fun
  | [d] => { results := [.lit (.bool true)], args := [d] }
  | _ => none }
def fnOldNextRow : OpenClaim := { program := "ytogioeflbbmppaa", sum := "b924b3c2c0f35c888900da777e46c4283fee50cf4c4d8b41b00b5a4d5cff4c67", func := "loop.example/buttery/laws.FnOldNext", spec := "fnOldNext", unfollowed := true, recurses := true, apart := false }
def FnOldNextSaid : Prop := fnOldNextRow.holds Try.pinned (OpenSpec.ofChange fnOldNextSpec)

/-- ITS FALSE NEIGHBOUR: 'it returns false'. Refute it at one input. -/
def fnOldNextWrong : ChangeSpec := { name := "fnOldNext", fn := fun _ => fun
  | [d] => { results := [.lit (.bool false)], args := [d] }
  | _ => none }
def FnOldNextWrongFalsely : Prop := fnOldNextRow.holds Try.pinned (OpenSpec.ofChange fnOldNextWrong)

/-- 'laws.FnOrderLess': WHATEVER THE INPUT: true; the input reads as it did. -/
def fnOrderLessSpec : ChangeSpec := { name := "fnOrderLess", fn := fun _ => fun
  | [d1, d2] => { results := [.lit (.bool true)], args := [d1, d2] }
  | _ => none }
def fnOrderLessRow : OpenClaim := { program := "ytogioeflbbmppaa", sum := "b924b3c2c0f35c888900da777e46c4283fee50cf4c4d8b41b00b5a4d5cff4c67", func := "loop.example/buttery/laws.FnOrderLess", spec := "fnOrderLess", unfollowed := true, recurses := true, apart := false }
def FnOrderLessSaid : Prop := fnOrderLessRow.holds Try.pinned (OpenSpec.ofChange fnOrderLessSpec)

/-- ITS FALSE NEIGHBOUR: 'it returns false'. Refute it at one input. -/
def fnOrderLessWrong : ChangeSpec := { name := "fnOrderLess", fn := fun _ => fun
  | [d1, d2] => { results := [.lit (.bool false)], args := [d1, d2] }
  | _ => none }
def FnOrderLessWrongFalsely : Prop := fnOrderLessRow.holds Try.pinned (OpenSpec.ofChange fnOrderLessWrong)

/-- 'laws.FnNextWipe': WHATEVER THE INPUT: true; the input reads as it did. -/
def fnNextWipeSpec : ChangeSpec := { name := "fnNextWipe", fn := fun _ => fun
  | [d1, d2] => { results := [.lit (.bool true)], args := [d1, d2] }
  | _ => none }
def fnNextWipeRow : OpenClaim := { program := "ytogioeflbbmppaa", sum := "b924b3c2c0f35c888900da777e46c4283fee50cf4c4d8b41b00b5a4d5cff4c67", func := "loop.example/buttery/laws.FnNextWipe", spec := "fnNextWipe", unfollowed := true, recurses := true, apart := false }
def FnNextWipeSaid : Prop := fnNextWipeRow.holds Try.pinned (OpenSpec.ofChange fnNextWipeSpec)

/-- ITS FALSE NEIGHBOUR: 'it returns false'. Refute it at one input. -/
def fnNextWipeWrong : ChangeSpec := { name := "fnNextWipe", fn := fun _ => fun
  | [d1, d2] => { results := [.lit (.bool false)], args := [d1, d2] }
  | _ => none }
def FnNextWipeWrongFalsely : Prop := fnNextWipeRow.holds Try.pinned (OpenSpec.ofChange fnNextWipeWrong)

/- THE SECOND FORM. 'bulk': how many values and letters a reading holds, each counted each time it is reached (what is shared counts as often as it is met; a slice's spare places count too). A statement '..UptoSaid' is the law's where the arguments, and the package variables that the reading takes, are together of bulk at most 1048576: NARROWER than '..Said'. Prove '..Said' where nothing that the law and all that it calls make is longer than what came in: it says more and counts as full. Else prove '..UptoSaid'. A law counts once. -/
mutual
def uptoBulk {H : Type} : DataW H → Nat
  | .lit (.string bytes) => bytes.length + 1
  | .lit _ => 1
  | .nil => 1
  | .ptr d => uptoBulk d + 1
  | .slice elems spare => uptoBulkAll elems + uptoBulkAll spare + 1
  | .agg parts => uptoBulkAll parts + 1
  | .iface _ d => uptoBulk d + 1
  | .map entries => uptoBulkEntries entries + 1
  | .held _ => 1
def uptoBulkAll {H : Type} : List (DataW H) → Nat
  | [] => 0
  | d :: r => uptoBulk d + uptoBulkAll r
def uptoBulkEntries {H : Type} : List (Lit × DataW H) → Nat
  | [] => 0
  | x :: r => uptoBulkEntry x + uptoBulkEntries r
def uptoBulkEntry {H : Type} : Lit × DataW H → Nat
  | (.string bytes, d) => bytes.length + uptoBulk d + 1
  | (_, d) => uptoBulk d + 1
 end
def uptoSmall : (H : Type) → List (DataW H) → Bool := fun _ ds => decide (uptoBulkAll ds ≤ 1048576)
def OpenSpec.upto (s : _root_.Go.ChangeSpec) : _root_.Go.OpenSpec := { _root_.Go.OpenSpec.ofChange s with cond := some uptoSmall }

/-- 'laws.FnWriteNext', WHERE WHAT IT READS IS OF BULK AT MOST 1048576: true; the input reads as it did. -/
def fnWriteNextUptoRow : OpenClaim := { program := "ytogioeflbbmppaa", sum := "b924b3c2c0f35c888900da777e46c4283fee50cf4c4d8b41b00b5a4d5cff4c67", func := "loop.example/buttery/laws.FnWriteNext", spec := "fnWriteNext", unfollowed := true, recurses := true, apart := false, narrowed := true }
def FnWriteNextUptoSaid : Prop := fnWriteNextUptoRow.holds Try.pinned (OpenSpec.upto fnWriteNextSpec)

/-- 'laws.FnWriteNot', WHERE WHAT IT READS IS OF BULK AT MOST 1048576: true; the input reads as it did. -/
def fnWriteNotUptoRow : OpenClaim := { program := "ytogioeflbbmppaa", sum := "b924b3c2c0f35c888900da777e46c4283fee50cf4c4d8b41b00b5a4d5cff4c67", func := "loop.example/buttery/laws.FnWriteNot", spec := "fnWriteNot", unfollowed := true, recurses := true, apart := false, narrowed := true }
def FnWriteNotUptoSaid : Prop := fnWriteNotUptoRow.holds Try.pinned (OpenSpec.upto fnWriteNotSpec)

/-- 'laws.FnWipe', WHERE WHAT IT READS IS OF BULK AT MOST 1048576: true; the input reads as it did. -/
def fnWipeUptoRow : OpenClaim := { program := "ytogioeflbbmppaa", sum := "b924b3c2c0f35c888900da777e46c4283fee50cf4c4d8b41b00b5a4d5cff4c67", func := "loop.example/buttery/laws.FnWipe", spec := "fnWipe", unfollowed := true, recurses := true, apart := false, narrowed := true }
def FnWipeUptoSaid : Prop := fnWipeUptoRow.holds Try.pinned (OpenSpec.upto fnWipeSpec)

/-- 'laws.FnWipeAgain', WHERE WHAT IT READS IS OF BULK AT MOST 1048576: true; the input reads as it did. -/
def fnWipeAgainUptoRow : OpenClaim := { program := "ytogioeflbbmppaa", sum := "b924b3c2c0f35c888900da777e46c4283fee50cf4c4d8b41b00b5a4d5cff4c67", func := "loop.example/buttery/laws.FnWipeAgain", spec := "fnWipeAgain", unfollowed := true, recurses := true, apart := false, narrowed := true }
def FnWipeAgainUptoSaid : Prop := fnWipeAgainUptoRow.holds Try.pinned (OpenSpec.upto fnWipeAgainSpec)

/-- 'laws.FnFlashLess', WHERE WHAT IT READS IS OF BULK AT MOST 1048576: true; the input reads as it did. -/
def fnFlashLessUptoRow : OpenClaim := { program := "ytogioeflbbmppaa", sum := "b924b3c2c0f35c888900da777e46c4283fee50cf4c4d8b41b00b5a4d5cff4c67", func := "loop.example/buttery/laws.FnFlashLess", spec := "fnFlashLess", unfollowed := true, recurses := true, apart := false, narrowed := true }
def FnFlashLessUptoSaid : Prop := fnFlashLessUptoRow.holds Try.pinned (OpenSpec.upto fnFlashLessSpec)

/-- 'laws.FnWriteTwo', WHERE WHAT IT READS IS OF BULK AT MOST 1048576: true; the input reads as it did. -/
def fnWriteTwoUptoRow : OpenClaim := { program := "ytogioeflbbmppaa", sum := "b924b3c2c0f35c888900da777e46c4283fee50cf4c4d8b41b00b5a4d5cff4c67", func := "loop.example/buttery/laws.FnWriteTwo", spec := "fnWriteTwo", unfollowed := true, recurses := true, apart := false, narrowed := true }
def FnWriteTwoUptoSaid : Prop := fnWriteTwoUptoRow.holds Try.pinned (OpenSpec.upto fnWriteTwoSpec)

/-- 'laws.FnWipeAll', WHERE WHAT IT READS IS OF BULK AT MOST 1048576: true; the input reads as it did. -/
def fnWipeAllUptoRow : OpenClaim := { program := "ytogioeflbbmppaa", sum := "b924b3c2c0f35c888900da777e46c4283fee50cf4c4d8b41b00b5a4d5cff4c67", func := "loop.example/buttery/laws.FnWipeAll", spec := "fnWipeAll", unfollowed := true, recurses := true, apart := false, narrowed := true }
def FnWipeAllUptoSaid : Prop := fnWipeAllUptoRow.holds Try.pinned (OpenSpec.upto fnWipeAllSpec)

/-- 'laws.FnFlashSeq', WHERE WHAT IT READS IS OF BULK AT MOST 1048576: true; the input reads as it did. -/
def fnFlashSeqUptoRow : OpenClaim := { program := "ytogioeflbbmppaa", sum := "b924b3c2c0f35c888900da777e46c4283fee50cf4c4d8b41b00b5a4d5cff4c67", func := "loop.example/buttery/laws.FnFlashSeq", spec := "fnFlashSeq", unfollowed := true, recurses := true, apart := false, narrowed := true }
def FnFlashSeqUptoSaid : Prop := fnFlashSeqUptoRow.holds Try.pinned (OpenSpec.upto fnFlashSeqSpec)

/-- 'laws.FnWornMax', WHERE WHAT IT READS IS OF BULK AT MOST 1048576: true; the input reads as it did. -/
def fnWornMaxUptoRow : OpenClaim := { program := "ytogioeflbbmppaa", sum := "b924b3c2c0f35c888900da777e46c4283fee50cf4c4d8b41b00b5a4d5cff4c67", func := "loop.example/buttery/laws.FnWornMax", spec := "fnWornMax", unfollowed := true, recurses := true, apart := false, narrowed := true }
def FnWornMaxUptoSaid : Prop := fnWornMaxUptoRow.holds Try.pinned (OpenSpec.upto fnWornMaxSpec)

/-- 'laws.FnLast', WHERE WHAT IT READS IS OF BULK AT MOST 1048576: true; the input reads as it did. -/
def fnLastUptoRow : OpenClaim := { program := "ytogioeflbbmppaa", sum := "b924b3c2c0f35c888900da777e46c4283fee50cf4c4d8b41b00b5a4d5cff4c67", func := "loop.example/buttery/laws.FnLast", spec := "fnLast", unfollowed := true, recurses := true, apart := false, narrowed := true }
def FnLastUptoSaid : Prop := fnLastUptoRow.holds Try.pinned (OpenSpec.upto fnLastSpec)

/-- 'laws.FnLive', WHERE WHAT IT READS IS OF BULK AT MOST 1048576: true; the input reads as it did. -/
def fnLiveUptoRow : OpenClaim := { program := "ytogioeflbbmppaa", sum := "b924b3c2c0f35c888900da777e46c4283fee50cf4c4d8b41b00b5a4d5cff4c67", func := "loop.example/buttery/laws.FnLive", spec := "fnLive", unfollowed := true, recurses := true, apart := false, narrowed := true }
def FnLiveUptoSaid : Prop := fnLiveUptoRow.holds Try.pinned (OpenSpec.upto fnLiveSpec)

/-- 'laws.FnNext', WHERE WHAT IT READS IS OF BULK AT MOST 1048576: true; the input reads as it did. -/
def fnNextUptoRow : OpenClaim := { program := "ytogioeflbbmppaa", sum := "b924b3c2c0f35c888900da777e46c4283fee50cf4c4d8b41b00b5a4d5cff4c67", func := "loop.example/buttery/laws.FnNext", spec := "fnNext", unfollowed := true, recurses := true, apart := false, narrowed := true }
def FnNextUptoSaid : Prop := fnNextUptoRow.holds Try.pinned (OpenSpec.upto fnNextSpec)

/-- 'laws.FnOpen', WHERE WHAT IT READS IS OF BULK AT MOST 1048576: true; the input reads as it did. -/
def fnOpenUptoRow : OpenClaim := { program := "ytogioeflbbmppaa", sum := "b924b3c2c0f35c888900da777e46c4283fee50cf4c4d8b41b00b5a4d5cff4c67", func := "loop.example/buttery/laws.FnOpen", spec := "fnOpen", unfollowed := true, recurses := true, apart := false, narrowed := true }
def FnOpenUptoSaid : Prop := fnOpenUptoRow.holds Try.pinned (OpenSpec.upto fnOpenSpec)

/-- 'laws.FnOld', WHERE WHAT IT READS IS OF BULK AT MOST 1048576: true; the input reads as it did. -/
def fnOldUptoRow : OpenClaim := { program := "ytogioeflbbmppaa", sum := "b924b3c2c0f35c888900da777e46c4283fee50cf4c4d8b41b00b5a4d5cff4c67", func := "loop.example/buttery/laws.FnOld", spec := "fnOld", unfollowed := true, recurses := true, apart := false, narrowed := true }
def FnOldUptoSaid : Prop := fnOldUptoRow.holds Try.pinned (OpenSpec.upto fnOldSpec)

/-- 'laws.FnOldLast', WHERE WHAT IT READS IS OF BULK AT MOST 1048576: true; the input reads as it did. -/
def fnOldLastUptoRow : OpenClaim := { program := "ytogioeflbbmppaa", sum := "b924b3c2c0f35c888900da777e46c4283fee50cf4c4d8b41b00b5a4d5cff4c67", func := "loop.example/buttery/laws.FnOldLast", spec := "fnOldLast", unfollowed := true, recurses := true, apart := false, narrowed := true }
def FnOldLastUptoSaid : Prop := fnOldLastUptoRow.holds Try.pinned (OpenSpec.upto fnOldLastSpec)

/-- 'laws.FnOrderStep', WHERE WHAT IT READS IS OF BULK AT MOST 1048576: true; the input reads as it did. -/
def fnOrderStepUptoRow : OpenClaim := { program := "ytogioeflbbmppaa", sum := "b924b3c2c0f35c888900da777e46c4283fee50cf4c4d8b41b00b5a4d5cff4c67", func := "loop.example/buttery/laws.FnOrderStep", spec := "fnOrderStep", unfollowed := true, recurses := true, apart := false, narrowed := true }
def FnOrderStepUptoSaid : Prop := fnOrderStepUptoRow.holds Try.pinned (OpenSpec.upto fnOrderStepSpec)

/-- 'laws.FnLastWrite', WHERE WHAT IT READS IS OF BULK AT MOST 1048576: true; the input reads as it did. -/
def fnLastWriteUptoRow : OpenClaim := { program := "ytogioeflbbmppaa", sum := "b924b3c2c0f35c888900da777e46c4283fee50cf4c4d8b41b00b5a4d5cff4c67", func := "loop.example/buttery/laws.FnLastWrite", spec := "fnLastWrite", unfollowed := true, recurses := true, apart := false, narrowed := true }
def FnLastWriteUptoSaid : Prop := fnLastWriteUptoRow.holds Try.pinned (OpenSpec.upto fnLastWriteSpec)

/-- 'laws.FnOpenNone', WHERE WHAT IT READS IS OF BULK AT MOST 1048576: true; the input reads as it did. -/
def fnOpenNoneUptoRow : OpenClaim := { program := "ytogioeflbbmppaa", sum := "b924b3c2c0f35c888900da777e46c4283fee50cf4c4d8b41b00b5a4d5cff4c67", func := "loop.example/buttery/laws.FnOpenNone", spec := "fnOpenNone", unfollowed := true, recurses := true, apart := false, narrowed := true }
def FnOpenNoneUptoSaid : Prop := fnOpenNoneUptoRow.holds Try.pinned (OpenSpec.upto fnOpenNoneSpec)

/-- 'laws.FnOldNext', WHERE WHAT IT READS IS OF BULK AT MOST 1048576: true; the input reads as it did. -/
def fnOldNextUptoRow : OpenClaim := { program := "ytogioeflbbmppaa", sum := "b924b3c2c0f35c888900da777e46c4283fee50cf4c4d8b41b00b5a4d5cff4c67", func := "loop.example/buttery/laws.FnOldNext", spec := "fnOldNext", unfollowed := true, recurses := true, apart := false, narrowed := true }
def FnOldNextUptoSaid : Prop := fnOldNextUptoRow.holds Try.pinned (OpenSpec.upto fnOldNextSpec)

/-- 'laws.FnOrderLess', WHERE WHAT IT READS IS OF BULK AT MOST 1048576: true; the input reads as it did. -/
def fnOrderLessUptoRow : OpenClaim := { program := "ytogioeflbbmppaa", sum := "b924b3c2c0f35c888900da777e46c4283fee50cf4c4d8b41b00b5a4d5cff4c67", func := "loop.example/buttery/laws.FnOrderLess", spec := "fnOrderLess", unfollowed := true, recurses := true, apart := false, narrowed := true }
def FnOrderLessUptoSaid : Prop := fnOrderLessUptoRow.holds Try.pinned (OpenSpec.upto fnOrderLessSpec)

/-- 'laws.FnNextWipe', WHERE WHAT IT READS IS OF BULK AT MOST 1048576: true; the input reads as it did. -/
def fnNextWipeUptoRow : OpenClaim := { program := "ytogioeflbbmppaa", sum := "b924b3c2c0f35c888900da777e46c4283fee50cf4c4d8b41b00b5a4d5cff4c67", func := "loop.example/buttery/laws.FnNextWipe", spec := "fnNextWipe", unfollowed := true, recurses := true, apart := false, narrowed := true }
def FnNextWipeUptoSaid : Prop := fnNextWipeUptoRow.holds Try.pinned (OpenSpec.upto fnNextWipeSpec)

end Rows
end Go.Proofs.Ytogioeflbbmppaa
