/-
  No cell of these rows narrows 'for every input' (looked for: loops, veiled, ifaces, maps, wideKeys, modest, calm, conditions, laid).
  DERIVED. THE GIVEN ROWS OF THIS SEAT. 15 by the template 'for every input the law returns true; each argument reads behind the call as it read before'; 0 by the template 'total and deterministic' (their statements: YtmbeloipeckcaaaTotals.lean).
  GIVEN WITH THE SEED: the statements are not yours to turn. If you find one false, say at which input.
  Laid BY PROGRAM, IN A SANDBOX (cutbox-rows.mjs): the forced cells as the released guide's own fill.sh prints them over the translation 1cb4d2a794687eed… (all of the seat's roots in one cut). By AI agents, Wed Nov 11 2026. No macro, syntax, notation, axiom, sorry.
-/
import Derived.Test.YtmbeloipeckcaaaChecked
import GoSem.Claim
import GoSem.ClaimJoined
import GoSem.ClaimMapViews
import Derived.JoinedTies
import Derived.KernelRfl
namespace Go.Proofs.Ytmbeloipeckcaaa
/- THE CELL 'sum', in the pinned program and in every row, IS THE sha256 OF THE DUMP (.gsa) THAT YtmbeloipeckcaaaProg.lean LOADS. Nothing in Lean hashes anything: it is a label: what it is worth is what the hold of that sum in a sandbox is worth. -/
noncomputable def Try.pinned : Pinned := { name := "ytmbeloipeckcaaa", sum := "1cb4d2a794687eedf15c4c583973fd648bb2f22b0bad55d4c1bff617c9be6e47", checked := Try.checked }
namespace Rows
def none {H : Type} : Left H := { results := [], args := [] }

/-- 'laws.FnCleanAll': WHATEVER THE INPUT: true; the input reads as it did. -/
def fnCleanAllSpec : ChangeSpec := { name := "fnCleanAll", fn := fun _ => fun
  | [d] => { results := [.lit (.bool true)], args := [d] }
  | _ => none }
def fnCleanAllRow : OpenClaim := { program := "ytmbeloipeckcaaa", sum := "1cb4d2a794687eedf15c4c583973fd648bb2f22b0bad55d4c1bff617c9be6e47", func := "loop.example/buttery/laws.FnCleanAll", spec := "fnCleanAll", unfollowed := true, recurses := true, apart := false }
def FnCleanAllSaid : Prop := fnCleanAllRow.holds Try.pinned (OpenSpec.ofChange fnCleanAllSpec)

/-- ITS FALSE NEIGHBOUR: 'it returns false'. Refute it at one input. -/
def fnCleanAllWrong : ChangeSpec := { name := "fnCleanAll", fn := fun _ => fun
  | [d] => { results := [.lit (.bool false)], args := [d] }
  | _ => none }
def FnCleanAllWrongFalsely : Prop := fnCleanAllRow.holds Try.pinned (OpenSpec.ofChange fnCleanAllWrong)

/-- 'laws.FnWriteNext': WHATEVER THE INPUT: true; the input reads as it did. -/
def fnWriteNextSpec : ChangeSpec := { name := "fnWriteNext", fn := fun _ => fun
  | [d] => { results := [.lit (.bool true)], args := [d] }
  | _ => none }
def fnWriteNextRow : OpenClaim := { program := "ytmbeloipeckcaaa", sum := "1cb4d2a794687eedf15c4c583973fd648bb2f22b0bad55d4c1bff617c9be6e47", func := "loop.example/buttery/laws.FnWriteNext", spec := "fnWriteNext", unfollowed := true, recurses := true, apart := false }
def FnWriteNextSaid : Prop := fnWriteNextRow.holds Try.pinned (OpenSpec.ofChange fnWriteNextSpec)

/-- ITS FALSE NEIGHBOUR: 'it returns false'. Refute it at one input. -/
def fnWriteNextWrong : ChangeSpec := { name := "fnWriteNext", fn := fun _ => fun
  | [d] => { results := [.lit (.bool false)], args := [d] }
  | _ => none }
def FnWriteNextWrongFalsely : Prop := fnWriteNextRow.holds Try.pinned (OpenSpec.ofChange fnWriteNextWrong)

/-- 'laws.FnWriteNot': WHATEVER THE INPUT: true; the input reads as it did. -/
def fnWriteNotSpec : ChangeSpec := { name := "fnWriteNot", fn := fun _ => fun
  | [d] => { results := [.lit (.bool true)], args := [d] }
  | _ => none }
def fnWriteNotRow : OpenClaim := { program := "ytmbeloipeckcaaa", sum := "1cb4d2a794687eedf15c4c583973fd648bb2f22b0bad55d4c1bff617c9be6e47", func := "loop.example/buttery/laws.FnWriteNot", spec := "fnWriteNot", unfollowed := true, recurses := true, apart := false }
def FnWriteNotSaid : Prop := fnWriteNotRow.holds Try.pinned (OpenSpec.ofChange fnWriteNotSpec)

/-- ITS FALSE NEIGHBOUR: 'it returns false'. Refute it at one input. -/
def fnWriteNotWrong : ChangeSpec := { name := "fnWriteNot", fn := fun _ => fun
  | [d] => { results := [.lit (.bool false)], args := [d] }
  | _ => none }
def FnWriteNotWrongFalsely : Prop := fnWriteNotRow.holds Try.pinned (OpenSpec.ofChange fnWriteNotWrong)

/-- 'laws.FnWipe': WHATEVER THE INPUT: true; the input reads as it did. -/
def fnWipeSpec : ChangeSpec := { name := "fnWipe", fn := fun _ => fun
  | [d] => { results := [.lit (.bool true)], args := [d] }
  | _ => none }
def fnWipeRow : OpenClaim := { program := "ytmbeloipeckcaaa", sum := "1cb4d2a794687eedf15c4c583973fd648bb2f22b0bad55d4c1bff617c9be6e47", func := "loop.example/buttery/laws.FnWipe", spec := "fnWipe", unfollowed := true, recurses := true, apart := false }
def FnWipeSaid : Prop := fnWipeRow.holds Try.pinned (OpenSpec.ofChange fnWipeSpec)

/-- ITS FALSE NEIGHBOUR: 'it returns false'. Refute it at one input. -/
def fnWipeWrong : ChangeSpec := { name := "fnWipe", fn := fun _ => fun
  | [d] => { results := [.lit (.bool false)], args := [d] }
  | _ => none }
def FnWipeWrongFalsely : Prop := fnWipeRow.holds Try.pinned (OpenSpec.ofChange fnWipeWrong)

/-- 'laws.FnWipeAgain': WHATEVER THE INPUT: true; the input reads as it did. -/
def fnWipeAgainSpec : ChangeSpec := { name := "fnWipeAgain", fn := fun _ => fun
  | [d] => { results := [.lit (.bool true)], args := [d] }
  | _ => none }
def fnWipeAgainRow : OpenClaim := { program := "ytmbeloipeckcaaa", sum := "1cb4d2a794687eedf15c4c583973fd648bb2f22b0bad55d4c1bff617c9be6e47", func := "loop.example/buttery/laws.FnWipeAgain", spec := "fnWipeAgain", unfollowed := true, recurses := true, apart := false }
def FnWipeAgainSaid : Prop := fnWipeAgainRow.holds Try.pinned (OpenSpec.ofChange fnWipeAgainSpec)

/-- ITS FALSE NEIGHBOUR: 'it returns false'. Refute it at one input. -/
def fnWipeAgainWrong : ChangeSpec := { name := "fnWipeAgain", fn := fun _ => fun
  | [d] => { results := [.lit (.bool false)], args := [d] }
  | _ => none }
def FnWipeAgainWrongFalsely : Prop := fnWipeAgainRow.holds Try.pinned (OpenSpec.ofChange fnWipeAgainWrong)

/-- 'laws.FnFlashLess': WHATEVER THE INPUT: true; the input reads as it did. -/
def fnFlashLessSpec : ChangeSpec := { name := "fnFlashLess", fn := fun _ => fun
  | [d1, d2] => { results := [.lit (.bool true)], args := [d1, d2] }
  | _ => none }
def fnFlashLessRow : OpenClaim := { program := "ytmbeloipeckcaaa", sum := "1cb4d2a794687eedf15c4c583973fd648bb2f22b0bad55d4c1bff617c9be6e47", func := "loop.example/buttery/laws.FnFlashLess", spec := "fnFlashLess", unfollowed := true, recurses := true, apart := false }
def FnFlashLessSaid : Prop := fnFlashLessRow.holds Try.pinned (OpenSpec.ofChange fnFlashLessSpec)

/-- ITS FALSE NEIGHBOUR: 'it returns false'. Refute it at one input. -/
def fnFlashLessWrong : ChangeSpec := { name := "fnFlashLess", fn := fun _ => fun
  | [d1, d2] => { results := [.lit (.bool false)], args := [d1, d2] }
  | _ => none }
def FnFlashLessWrongFalsely : Prop := fnFlashLessRow.holds Try.pinned (OpenSpec.ofChange fnFlashLessWrong)

/-- 'laws.FnWriteTwo': WHATEVER THE INPUT: true; the input reads as it did. -/
def fnWriteTwoSpec : ChangeSpec := { name := "fnWriteTwo", fn := fun _ => fun
  | [d1, d2] => { results := [.lit (.bool true)], args := [d1, d2] }
  | _ => none }
def fnWriteTwoRow : OpenClaim := { program := "ytmbeloipeckcaaa", sum := "1cb4d2a794687eedf15c4c583973fd648bb2f22b0bad55d4c1bff617c9be6e47", func := "loop.example/buttery/laws.FnWriteTwo", spec := "fnWriteTwo", unfollowed := true, recurses := true, apart := false }
def FnWriteTwoSaid : Prop := fnWriteTwoRow.holds Try.pinned (OpenSpec.ofChange fnWriteTwoSpec)

/-- ITS FALSE NEIGHBOUR: 'it returns false'. Refute it at one input. -/
def fnWriteTwoWrong : ChangeSpec := { name := "fnWriteTwo", fn := fun _ => fun
  | [d1, d2] => { results := [.lit (.bool false)], args := [d1, d2] }
  | _ => none }
def FnWriteTwoWrongFalsely : Prop := fnWriteTwoRow.holds Try.pinned (OpenSpec.ofChange fnWriteTwoWrong)

/-- 'laws.FnWipeAll': WHATEVER THE INPUT: true; the input reads as it did. -/
def fnWipeAllSpec : ChangeSpec := { name := "fnWipeAll", fn := fun _ => fun
  | [d] => { results := [.lit (.bool true)], args := [d] }
  | _ => none }
def fnWipeAllRow : OpenClaim := { program := "ytmbeloipeckcaaa", sum := "1cb4d2a794687eedf15c4c583973fd648bb2f22b0bad55d4c1bff617c9be6e47", func := "loop.example/buttery/laws.FnWipeAll", spec := "fnWipeAll", unfollowed := true, recurses := true, apart := false }
def FnWipeAllSaid : Prop := fnWipeAllRow.holds Try.pinned (OpenSpec.ofChange fnWipeAllSpec)

/-- ITS FALSE NEIGHBOUR: 'it returns false'. Refute it at one input. -/
def fnWipeAllWrong : ChangeSpec := { name := "fnWipeAll", fn := fun _ => fun
  | [d] => { results := [.lit (.bool false)], args := [d] }
  | _ => none }
def FnWipeAllWrongFalsely : Prop := fnWipeAllRow.holds Try.pinned (OpenSpec.ofChange fnWipeAllWrong)

/-- 'laws.FnFlashSeq': WHATEVER THE INPUT: true; the input reads as it did. -/
def fnFlashSeqSpec : ChangeSpec := { name := "fnFlashSeq", fn := fun _ => fun
  | [d1, d2] => { results := [.lit (.bool true)], args := [d1, d2] }
  | _ => none }
def fnFlashSeqRow : OpenClaim := { program := "ytmbeloipeckcaaa", sum := "1cb4d2a794687eedf15c4c583973fd648bb2f22b0bad55d4c1bff617c9be6e47", func := "loop.example/buttery/laws.FnFlashSeq", spec := "fnFlashSeq", unfollowed := true, recurses := true, apart := false }
def FnFlashSeqSaid : Prop := fnFlashSeqRow.holds Try.pinned (OpenSpec.ofChange fnFlashSeqSpec)

/-- ITS FALSE NEIGHBOUR: 'it returns false'. Refute it at one input. -/
def fnFlashSeqWrong : ChangeSpec := { name := "fnFlashSeq", fn := fun _ => fun
  | [d1, d2] => { results := [.lit (.bool false)], args := [d1, d2] }
  | _ => none }
def FnFlashSeqWrongFalsely : Prop := fnFlashSeqRow.holds Try.pinned (OpenSpec.ofChange fnFlashSeqWrong)

/-- 'laws.FnWornMax': WHATEVER THE INPUT: true; the input reads as it did. -/
def fnWornMaxSpec : ChangeSpec := { name := "fnWornMax", fn := fun _ => fun
  | [d1, d2] => { results := [.lit (.bool true)], args := [d1, d2] }
  | _ => none }
def fnWornMaxRow : OpenClaim := { program := "ytmbeloipeckcaaa", sum := "1cb4d2a794687eedf15c4c583973fd648bb2f22b0bad55d4c1bff617c9be6e47", func := "loop.example/buttery/laws.FnWornMax", spec := "fnWornMax", unfollowed := true, recurses := true, apart := false }
def FnWornMaxSaid : Prop := fnWornMaxRow.holds Try.pinned (OpenSpec.ofChange fnWornMaxSpec)

/-- ITS FALSE NEIGHBOUR: 'it returns false'. Refute it at one input. -/
def fnWornMaxWrong : ChangeSpec := { name := "fnWornMax", fn := fun _ => fun
  | [d1, d2] => { results := [.lit (.bool false)], args := [d1, d2] }
  | _ => none }
def FnWornMaxWrongFalsely : Prop := fnWornMaxRow.holds Try.pinned (OpenSpec.ofChange fnWornMaxWrong)

/-- 'laws.FnExactFlashNew': WHATEVER THE INPUT: true; the input reads as it did. -/
def fnExactFlashNewSpec : ChangeSpec := { name := "fnExactFlashNew", fn := fun _ => fun
  | [] => { results := [.lit (.bool true)], args := [] }
  | _ => none }
def fnExactFlashNewRow : OpenClaim := { program := "ytmbeloipeckcaaa", sum := "1cb4d2a794687eedf15c4c583973fd648bb2f22b0bad55d4c1bff617c9be6e47", func := "loop.example/buttery/laws.FnExactFlashNew", spec := "fnExactFlashNew", apart := false }
def FnExactFlashNewSaid : Prop := fnExactFlashNewRow.holds Try.pinned (OpenSpec.ofChange fnExactFlashNewSpec)

/-- ITS FALSE NEIGHBOUR: 'it returns false'. Refute it at one input. -/
def fnExactFlashNewWrong : ChangeSpec := { name := "fnExactFlashNew", fn := fun _ => fun
  | [] => { results := [.lit (.bool false)], args := [] }
  | _ => none }
def FnExactFlashNewWrongFalsely : Prop := fnExactFlashNewRow.holds Try.pinned (OpenSpec.ofChange fnExactFlashNewWrong)

/-- 'laws.FnExactFlashOk': WHATEVER THE INPUT: true; the input reads as it did. -/
def fnExactFlashOkSpec : ChangeSpec := { name := "fnExactFlashOk", fn := fun _ => fun
  | [d] => { results := [.lit (.bool true)], args := [d] }
  | _ => none }
def fnExactFlashOkRow : OpenClaim := { program := "ytmbeloipeckcaaa", sum := "1cb4d2a794687eedf15c4c583973fd648bb2f22b0bad55d4c1bff617c9be6e47", func := "loop.example/buttery/laws.FnExactFlashOk", spec := "fnExactFlashOk", unfollowed := true, recurses := true, apart := false }
def FnExactFlashOkSaid : Prop := fnExactFlashOkRow.holds Try.pinned (OpenSpec.ofChange fnExactFlashOkSpec)

/-- ITS FALSE NEIGHBOUR: 'it returns false'. Refute it at one input. -/
def fnExactFlashOkWrong : ChangeSpec := { name := "fnExactFlashOk", fn := fun _ => fun
  | [d] => { results := [.lit (.bool false)], args := [d] }
  | _ => none }
def FnExactFlashOkWrongFalsely : Prop := fnExactFlashOkRow.holds Try.pinned (OpenSpec.ofChange fnExactFlashOkWrong)

/-- 'laws.FnExactFlashClean': WHATEVER THE INPUT: true; the input reads as it did. -/
def fnExactFlashCleanSpec : ChangeSpec := { name := "fnExactFlashClean", fn := fun _ => fun
  | [d1, d2] => { results := [.lit (.bool true)], args := [d1, d2] }
  | _ => none }
def fnExactFlashCleanRow : OpenClaim := { program := "ytmbeloipeckcaaa", sum := "1cb4d2a794687eedf15c4c583973fd648bb2f22b0bad55d4c1bff617c9be6e47", func := "loop.example/buttery/laws.FnExactFlashClean", spec := "fnExactFlashClean", unfollowed := true, recurses := true, apart := false }
def FnExactFlashCleanSaid : Prop := fnExactFlashCleanRow.holds Try.pinned (OpenSpec.ofChange fnExactFlashCleanSpec)

/-- ITS FALSE NEIGHBOUR: 'it returns false'. Refute it at one input. -/
def fnExactFlashCleanWrong : ChangeSpec := { name := "fnExactFlashClean", fn := fun _ => fun
  | [d1, d2] => { results := [.lit (.bool false)], args := [d1, d2] }
  | _ => none }
def FnExactFlashCleanWrongFalsely : Prop := fnExactFlashCleanRow.holds Try.pinned (OpenSpec.ofChange fnExactFlashCleanWrong)

/-- 'laws.FnExactFlashWrite': WHATEVER THE INPUT: true; the input reads as it did. -/
def fnExactFlashWriteSpec : ChangeSpec := { name := "fnExactFlashWrite", fn := fun _ => fun
  | [d1, d2, d3, d4] => { results := [.lit (.bool true)], args := [d1, d2, d3, d4] }
  | _ => none }
def fnExactFlashWriteRow : OpenClaim := { program := "ytmbeloipeckcaaa", sum := "1cb4d2a794687eedf15c4c583973fd648bb2f22b0bad55d4c1bff617c9be6e47", func := "loop.example/buttery/laws.FnExactFlashWrite", spec := "fnExactFlashWrite", unfollowed := true, recurses := true, apart := false }
def FnExactFlashWriteSaid : Prop := fnExactFlashWriteRow.holds Try.pinned (OpenSpec.ofChange fnExactFlashWriteSpec)

/-- ITS FALSE NEIGHBOUR: 'it returns false'. Refute it at one input. -/
def fnExactFlashWriteWrong : ChangeSpec := { name := "fnExactFlashWrite", fn := fun _ => fun
  | [d1, d2, d3, d4] => { results := [.lit (.bool false)], args := [d1, d2, d3, d4] }
  | _ => none }
def FnExactFlashWriteWrongFalsely : Prop := fnExactFlashWriteRow.holds Try.pinned (OpenSpec.ofChange fnExactFlashWriteWrong)

/-- 'laws.FnExactFlashWipe': WHATEVER THE INPUT: true; the input reads as it did. -/
def fnExactFlashWipeSpec : ChangeSpec := { name := "fnExactFlashWipe", fn := fun _ => fun
  | [d1, d2, d3] => { results := [.lit (.bool true)], args := [d1, d2, d3] }
  | _ => none }
def fnExactFlashWipeRow : OpenClaim := { program := "ytmbeloipeckcaaa", sum := "1cb4d2a794687eedf15c4c583973fd648bb2f22b0bad55d4c1bff617c9be6e47", func := "loop.example/buttery/laws.FnExactFlashWipe", spec := "fnExactFlashWipe", unfollowed := true, recurses := true, apart := false }
def FnExactFlashWipeSaid : Prop := fnExactFlashWipeRow.holds Try.pinned (OpenSpec.ofChange fnExactFlashWipeSpec)

/-- ITS FALSE NEIGHBOUR: 'it returns false'. Refute it at one input. -/
def fnExactFlashWipeWrong : ChangeSpec := { name := "fnExactFlashWipe", fn := fun _ => fun
  | [d1, d2, d3] => { results := [.lit (.bool false)], args := [d1, d2, d3] }
  | _ => none }
def FnExactFlashWipeWrongFalsely : Prop := fnExactFlashWipeRow.holds Try.pinned (OpenSpec.ofChange fnExactFlashWipeWrong)

/- THE SECOND FORM. 'bulk': how many values and letters a reading holds, each counted each time it is reached (what is shared counts as often as it is met; a slice's spare places count too). A statement '..UptoSaid' is the law's where the arguments, and the package variables that the reading takes, are together of bulk at most 1048576: NARROWER than '..Said'. Prove '..Said' where nothing that the law and all that it calls make is longer than what came in: it says more and counts as full. Else prove '..UptoSaid'. A law counts once. -/
mutual
def uptoBulk {H : Type} : DataW H → Nat
  | .lit (.string bytes) => bytes.length + 1
  | .lit _ => 1
  | .nil => 1
  | .ptr d => uptoBulk d + 1
  | .slice elems spare => uptoBulkAll elems + uptoBulkAll spare + 1
  | .agg parts => uptoBulkAll parts + 1
  | .iface _ d => uptoBulk d + 1
  | .map entries => uptoBulkEntries entries + 1
  | .held _ => 1
def uptoBulkAll {H : Type} : List (DataW H) → Nat
  | [] => 0
  | d :: r => uptoBulk d + uptoBulkAll r
def uptoBulkEntries {H : Type} : List (Lit × DataW H) → Nat
  | [] => 0
  | x :: r => uptoBulkEntry x + uptoBulkEntries r
def uptoBulkEntry {H : Type} : Lit × DataW H → Nat
  | (.string bytes, d) => bytes.length + uptoBulk d + 1
  | (_, d) => uptoBulk d + 1
 end
def uptoSmall : (H : Type) → List (DataW H) → Bool := fun _ ds => decide (uptoBulkAll ds ≤ 1048576)
def OpenSpec.upto (s : _root_.Go.ChangeSpec) : _root_.Go.OpenSpec := { _root_.Go.OpenSpec.ofChange s with cond := some uptoSmall }

/-- 'laws.FnCleanAll', WHERE WHAT IT READS IS OF BULK AT MOST 1048576: true; the input reads as it did. -/
def fnCleanAllUptoRow : OpenClaim := { program := "ytmbeloipeckcaaa", sum := "1cb4d2a794687eedf15c4c583973fd648bb2f22b0bad55d4c1bff617c9be6e47", func := "loop.example/buttery/laws.FnCleanAll", spec := "fnCleanAll", unfollowed := true, recurses := true, apart := false, narrowed := true }
def FnCleanAllUptoSaid : Prop := fnCleanAllUptoRow.holds Try.pinned (OpenSpec.upto fnCleanAllSpec)

/-- 'laws.FnWriteNext', WHERE WHAT IT READS IS OF BULK AT MOST 1048576: true; the input reads as it did. -/
def fnWriteNextUptoRow : OpenClaim := { program := "ytmbeloipeckcaaa", sum := "1cb4d2a794687eedf15c4c583973fd648bb2f22b0bad55d4c1bff617c9be6e47", func := "loop.example/buttery/laws.FnWriteNext", spec := "fnWriteNext", unfollowed := true, recurses := true, apart := false, narrowed := true }
def FnWriteNextUptoSaid : Prop := fnWriteNextUptoRow.holds Try.pinned (OpenSpec.upto fnWriteNextSpec)

/-- 'laws.FnWriteNot', WHERE WHAT IT READS IS OF BULK AT MOST 1048576: true; the input reads as it did. -/
def fnWriteNotUptoRow : OpenClaim := { program := "ytmbeloipeckcaaa", sum := "1cb4d2a794687eedf15c4c583973fd648bb2f22b0bad55d4c1bff617c9be6e47", func := "loop.example/buttery/laws.FnWriteNot", spec := "fnWriteNot", unfollowed := true, recurses := true, apart := false, narrowed := true }
def FnWriteNotUptoSaid : Prop := fnWriteNotUptoRow.holds Try.pinned (OpenSpec.upto fnWriteNotSpec)

/-- 'laws.FnWipe', WHERE WHAT IT READS IS OF BULK AT MOST 1048576: true; the input reads as it did. -/
def fnWipeUptoRow : OpenClaim := { program := "ytmbeloipeckcaaa", sum := "1cb4d2a794687eedf15c4c583973fd648bb2f22b0bad55d4c1bff617c9be6e47", func := "loop.example/buttery/laws.FnWipe", spec := "fnWipe", unfollowed := true, recurses := true, apart := false, narrowed := true }
def FnWipeUptoSaid : Prop := fnWipeUptoRow.holds Try.pinned (OpenSpec.upto fnWipeSpec)

/-- 'laws.FnWipeAgain', WHERE WHAT IT READS IS OF BULK AT MOST 1048576: true; the input reads as it did. -/
def fnWipeAgainUptoRow : OpenClaim := { program := "ytmbeloipeckcaaa", sum := "1cb4d2a794687eedf15c4c583973fd648bb2f22b0bad55d4c1bff617c9be6e47", func := "loop.example/buttery/laws.FnWipeAgain", spec := "fnWipeAgain", unfollowed := true, recurses := true, apart := false, narrowed := true }
def FnWipeAgainUptoSaid : Prop := fnWipeAgainUptoRow.holds Try.pinned (OpenSpec.upto fnWipeAgainSpec)

/-- 'laws.FnFlashLess', WHERE WHAT IT READS IS OF BULK AT MOST 1048576: true; the input reads as it did. -/
def fnFlashLessUptoRow : OpenClaim := { program := "ytmbeloipeckcaaa", sum := "1cb4d2a794687eedf15c4c583973fd648bb2f22b0bad55d4c1bff617c9be6e47", func := "loop.example/buttery/laws.FnFlashLess", spec := "fnFlashLess", unfollowed := true, recurses := true, apart := false, narrowed := true }
def FnFlashLessUptoSaid : Prop := fnFlashLessUptoRow.holds Try.pinned (OpenSpec.upto fnFlashLessSpec)

/-- 'laws.FnWriteTwo', WHERE WHAT IT READS IS OF BULK AT MOST 1048576: true; the input reads as it did. -/
def fnWriteTwoUptoRow : OpenClaim := { program := "ytmbeloipeckcaaa", sum := "1cb4d2a794687eedf15c4c583973fd648bb2f22b0bad55d4c1bff617c9be6e47", func := "loop.example/buttery/laws.FnWriteTwo", spec := "fnWriteTwo", unfollowed := true, recurses := true, apart := false, narrowed := true }
def FnWriteTwoUptoSaid : Prop := fnWriteTwoUptoRow.holds Try.pinned (OpenSpec.upto fnWriteTwoSpec)

/-- 'laws.FnWipeAll', WHERE WHAT IT READS IS OF BULK AT MOST 1048576: true; the input reads as it did. -/
def fnWipeAllUptoRow : OpenClaim := { program := "ytmbeloipeckcaaa", sum := "1cb4d2a794687eedf15c4c583973fd648bb2f22b0bad55d4c1bff617c9be6e47", func := "loop.example/buttery/laws.FnWipeAll", spec := "fnWipeAll", unfollowed := true, recurses := true, apart := false, narrowed := true }
def FnWipeAllUptoSaid : Prop := fnWipeAllUptoRow.holds Try.pinned (OpenSpec.upto fnWipeAllSpec)

/-- 'laws.FnFlashSeq', WHERE WHAT IT READS IS OF BULK AT MOST 1048576: true; the input reads as it did. -/
def fnFlashSeqUptoRow : OpenClaim := { program := "ytmbeloipeckcaaa", sum := "1cb4d2a794687eedf15c4c583973fd648bb2f22b0bad55d4c1bff617c9be6e47", func := "loop.example/buttery/laws.FnFlashSeq", spec := "fnFlashSeq", unfollowed := true, recurses := true, apart := false, narrowed := true }
def FnFlashSeqUptoSaid : Prop := fnFlashSeqUptoRow.holds Try.pinned (OpenSpec.upto fnFlashSeqSpec)

/-- 'laws.FnWornMax', WHERE WHAT IT READS IS OF BULK AT MOST 1048576: true; the input reads as it did. -/
def fnWornMaxUptoRow : OpenClaim := { program := "ytmbeloipeckcaaa", sum := "1cb4d2a794687eedf15c4c583973fd648bb2f22b0bad55d4c1bff617c9be6e47", func := "loop.example/buttery/laws.FnWornMax", spec := "fnWornMax", unfollowed := true, recurses := true, apart := false, narrowed := true }
def FnWornMaxUptoSaid : Prop := fnWornMaxUptoRow.holds Try.pinned (OpenSpec.upto fnWornMaxSpec)

/-- 'laws.FnExactFlashNew', WHERE WHAT IT READS IS OF BULK AT MOST 1048576: true; the input reads as it did. -/
def fnExactFlashNewUptoRow : OpenClaim := { program := "ytmbeloipeckcaaa", sum := "1cb4d2a794687eedf15c4c583973fd648bb2f22b0bad55d4c1bff617c9be6e47", func := "loop.example/buttery/laws.FnExactFlashNew", spec := "fnExactFlashNew", apart := false, narrowed := true }
def FnExactFlashNewUptoSaid : Prop := fnExactFlashNewUptoRow.holds Try.pinned (OpenSpec.upto fnExactFlashNewSpec)

/-- 'laws.FnExactFlashOk', WHERE WHAT IT READS IS OF BULK AT MOST 1048576: true; the input reads as it did. -/
def fnExactFlashOkUptoRow : OpenClaim := { program := "ytmbeloipeckcaaa", sum := "1cb4d2a794687eedf15c4c583973fd648bb2f22b0bad55d4c1bff617c9be6e47", func := "loop.example/buttery/laws.FnExactFlashOk", spec := "fnExactFlashOk", unfollowed := true, recurses := true, apart := false, narrowed := true }
def FnExactFlashOkUptoSaid : Prop := fnExactFlashOkUptoRow.holds Try.pinned (OpenSpec.upto fnExactFlashOkSpec)

/-- 'laws.FnExactFlashClean', WHERE WHAT IT READS IS OF BULK AT MOST 1048576: true; the input reads as it did. -/
def fnExactFlashCleanUptoRow : OpenClaim := { program := "ytmbeloipeckcaaa", sum := "1cb4d2a794687eedf15c4c583973fd648bb2f22b0bad55d4c1bff617c9be6e47", func := "loop.example/buttery/laws.FnExactFlashClean", spec := "fnExactFlashClean", unfollowed := true, recurses := true, apart := false, narrowed := true }
def FnExactFlashCleanUptoSaid : Prop := fnExactFlashCleanUptoRow.holds Try.pinned (OpenSpec.upto fnExactFlashCleanSpec)

/-- 'laws.FnExactFlashWrite', WHERE WHAT IT READS IS OF BULK AT MOST 1048576: true; the input reads as it did. -/
def fnExactFlashWriteUptoRow : OpenClaim := { program := "ytmbeloipeckcaaa", sum := "1cb4d2a794687eedf15c4c583973fd648bb2f22b0bad55d4c1bff617c9be6e47", func := "loop.example/buttery/laws.FnExactFlashWrite", spec := "fnExactFlashWrite", unfollowed := true, recurses := true, apart := false, narrowed := true }
def FnExactFlashWriteUptoSaid : Prop := fnExactFlashWriteUptoRow.holds Try.pinned (OpenSpec.upto fnExactFlashWriteSpec)

/-- 'laws.FnExactFlashWipe', WHERE WHAT IT READS IS OF BULK AT MOST 1048576: true; the input reads as it did. -/
def fnExactFlashWipeUptoRow : OpenClaim := { program := "ytmbeloipeckcaaa", sum := "1cb4d2a794687eedf15c4c583973fd648bb2f22b0bad55d4c1bff617c9be6e47", func := "loop.example/buttery/laws.FnExactFlashWipe", spec := "fnExactFlashWipe", unfollowed := true, recurses := true, apart := false, narrowed := true }
def FnExactFlashWipeUptoSaid : Prop := fnExactFlashWipeUptoRow.holds Try.pinned (OpenSpec.upto fnExactFlashWipeSpec)

end Rows
end Go.Proofs.Ytmbeloipeckcaaa
