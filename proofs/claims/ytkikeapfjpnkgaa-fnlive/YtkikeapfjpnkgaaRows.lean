/-
  No cell of these rows narrows 'for every input' (looked for: loops, veiled, ifaces, maps, wideKeys, modest, calm, conditions, laid).
  DERIVED. THE GIVEN ROWS OF THIS SEAT. 10 by the template 'for every input the law returns true; each argument reads behind the call as it read before'; 0 by the template 'total and deterministic' (their statements: YtkikeapfjpnkgaaTotals.lean).
  GIVEN WITH THE SEED: the statements are not yours to turn. If you find one false, say at which input.
  Laid BY PROGRAM, IN A SANDBOX (cutbox-rows.mjs): the forced cells as the released guide's own fill.sh prints them over the translation 70e62b313764e11b… (all of the seat's roots in one cut). By AI agents, Wed Nov 11 2026. No macro, syntax, notation, axiom, sorry.
-/
import Derived.Test.YtkikeapfjpnkgaaChecked
import GoSem.Claim
import GoSem.ClaimJoined
import GoSem.ClaimMapViews
import Derived.JoinedTies
import Derived.KernelRfl
namespace Go.Proofs.Ytkikeapfjpnkgaa
/- THE CELL 'sum', in the pinned program and in every row, IS THE sha256 OF THE DUMP (.gsa) THAT YtkikeapfjpnkgaaProg.lean LOADS. Nothing in Lean hashes anything: it is a label: what it is worth is what the hold of that sum in a sandbox is worth. -/
noncomputable def Try.pinned : Pinned := { name := "ytkikeapfjpnkgaa", sum := "70e62b313764e11b24eea27b56ebb456dc65be844b9ce8afd0a31560d0e18a25", checked := Try.checked }
namespace Rows
def none {H : Type} : Left H := { results := [], args := [] }

/-- 'laws.FnWriteNext': WHATEVER THE INPUT: true; the input reads as it did. -/
def fnWriteNextSpec : ChangeSpec := { name := "fnWriteNext", fn := fun _ => fun
  | [d] => { results := [.lit (.bool true)], args := [d] }
  | _ => none }
def fnWriteNextRow : OpenClaim := { program := "ytkikeapfjpnkgaa", sum := "70e62b313764e11b24eea27b56ebb456dc65be844b9ce8afd0a31560d0e18a25", func := "loop.example/buttery/laws.FnWriteNext", spec := "fnWriteNext", unfollowed := true, recurses := true, apart := false }
def FnWriteNextSaid : Prop := fnWriteNextRow.holds Try.pinned (OpenSpec.ofChange fnWriteNextSpec)

/-- ITS FALSE NEIGHBOUR: 'it returns false'. Refute it at one input. -/
def fnWriteNextWrong : ChangeSpec := { name := "fnWriteNext", fn := fun _ => fun
  | [d] => { results := [.lit (.bool false)], args := [d] }
  | _ => none }
def FnWriteNextWrongFalsely : Prop := fnWriteNextRow.holds Try.pinned (OpenSpec.ofChange fnWriteNextWrong)

/-- 'laws.FnFlashLess': WHATEVER THE INPUT: true; the input reads as it did. -/
def fnFlashLessSpec : ChangeSpec := { name := "fnFlashLess", fn := fun _ => fun
  | [d1, d2] => { results := [.lit (.bool true)], args := [d1, d2] }
  | _ => none }
def fnFlashLessRow : OpenClaim := { program := "ytkikeapfjpnkgaa", sum := "70e62b313764e11b24eea27b56ebb456dc65be844b9ce8afd0a31560d0e18a25", func := "loop.example/buttery/laws.FnFlashLess", spec := "fnFlashLess", unfollowed := true, recurses := true, apart := false }
def FnFlashLessSaid : Prop := fnFlashLessRow.holds Try.pinned (OpenSpec.ofChange fnFlashLessSpec)

/-- ITS FALSE NEIGHBOUR: 'it returns false'. Refute it at one input. -/
def fnFlashLessWrong : ChangeSpec := { name := "fnFlashLess", fn := fun _ => fun
  | [d1, d2] => { results := [.lit (.bool false)], args := [d1, d2] }
  | _ => none }
def FnFlashLessWrongFalsely : Prop := fnFlashLessRow.holds Try.pinned (OpenSpec.ofChange fnFlashLessWrong)

/-- 'laws.FnFlashSeq': WHATEVER THE INPUT: true; the input reads as it did. -/
def fnFlashSeqSpec : ChangeSpec := { name := "fnFlashSeq", fn := fun _ => fun
  | [d1, d2] => { results := [.lit (.bool true)], args := [d1, d2] }
  | _ => none }
def fnFlashSeqRow : OpenClaim := { program := "ytkikeapfjpnkgaa", sum := "70e62b313764e11b24eea27b56ebb456dc65be844b9ce8afd0a31560d0e18a25", func := "loop.example/buttery/laws.FnFlashSeq", spec := "fnFlashSeq", unfollowed := true, recurses := true, apart := false }
def FnFlashSeqSaid : Prop := fnFlashSeqRow.holds Try.pinned (OpenSpec.ofChange fnFlashSeqSpec)

/-- ITS FALSE NEIGHBOUR: 'it returns false'. Refute it at one input. -/
def fnFlashSeqWrong : ChangeSpec := { name := "fnFlashSeq", fn := fun _ => fun
  | [d1, d2] => { results := [.lit (.bool false)], args := [d1, d2] }
  | _ => none }
def FnFlashSeqWrongFalsely : Prop := fnFlashSeqRow.holds Try.pinned (OpenSpec.ofChange fnFlashSeqWrong)

/-- 'laws.FnWornMax': WHATEVER THE INPUT: true; the input reads as it did. -/
def fnWornMaxSpec : ChangeSpec := { name := "fnWornMax", fn := fun _ => fun
  | [d1, d2] => { results := [.lit (.bool true)], args := [d1, d2] }
  | _ => none }
def fnWornMaxRow : OpenClaim := { program := "ytkikeapfjpnkgaa", sum := "70e62b313764e11b24eea27b56ebb456dc65be844b9ce8afd0a31560d0e18a25", func := "loop.example/buttery/laws.FnWornMax", spec := "fnWornMax", unfollowed := true, recurses := true, apart := false }
def FnWornMaxSaid : Prop := fnWornMaxRow.holds Try.pinned (OpenSpec.ofChange fnWornMaxSpec)

/-- ITS FALSE NEIGHBOUR: 'it returns false'. Refute it at one input. -/
def fnWornMaxWrong : ChangeSpec := { name := "fnWornMax", fn := fun _ => fun
  | [d1, d2] => { results := [.lit (.bool false)], args := [d1, d2] }
  | _ => none }
def FnWornMaxWrongFalsely : Prop := fnWornMaxRow.holds Try.pinned (OpenSpec.ofChange fnWornMaxWrong)

/-- 'laws.FnLive': WHATEVER THE INPUT: true; the input reads as it did. -/
def fnLiveSpec : ChangeSpec := { name := "fnLive", fn := fun _ => fun
  | [d] => { results := [.lit (.bool true)], args := [d] }
  | _ => none }
def fnLiveRow : OpenClaim := { program := "ytkikeapfjpnkgaa", sum := "70e62b313764e11b24eea27b56ebb456dc65be844b9ce8afd0a31560d0e18a25", func := "loop.example/buttery/laws.FnLive", spec := "fnLive", unfollowed := true, recurses := true, apart := false }
def FnLiveSaid : Prop := fnLiveRow.holds Try.pinned (OpenSpec.ofChange fnLiveSpec)

/-- ITS FALSE NEIGHBOUR: 'it returns false'. Refute it at one input. -/
def fnLiveWrong : ChangeSpec := { name := "fnLive", fn := fun _ => fun
  | [d] => { results := [.lit (.bool false)], args := [d] }
  | _ => none }
def FnLiveWrongFalsely : Prop := fnLiveRow.holds Try.pinned (OpenSpec.ofChange fnLiveWrong)

/-- 'laws.FnOld': WHATEVER THE INPUT: true; the input reads as it did. -/
def fnOldSpec : ChangeSpec := { name := "fnOld", fn := fun _ => fun
  | [d] => { results := [.lit (.bool true)], args := [d] }
  | _ => none }
def fnOldRow : OpenClaim := { program := "ytkikeapfjpnkgaa", sum := "70e62b313764e11b24eea27b56ebb456dc65be844b9ce8afd0a31560d0e18a25", func := "loop.example/buttery/laws.FnOld", spec := "fnOld", unfollowed := true, recurses := true, apart := false }
def FnOldSaid : Prop := fnOldRow.holds Try.pinned (OpenSpec.ofChange fnOldSpec)

/-- ITS FALSE NEIGHBOUR: 'it returns false'. Refute it at one input. -/
def fnOldWrong : ChangeSpec := { name := "fnOld", fn := fun _ => fun
  | [d] => { results := [.lit (.bool false)], args := [d] }
  | _ => none }
def FnOldWrongFalsely : Prop := fnOldRow.holds Try.pinned (OpenSpec.ofChange fnOldWrong)

/-- 'laws.FnOldLast': WHATEVER THE INPUT: true; the input reads as it did. -/
def fnOldLastSpec : ChangeSpec := { name := "fnOldLast", fn := fun _ => fun
  | [d] => { results := [.lit (.bool true)], args := [d] }
  | _ => none }
def fnOldLastRow : OpenClaim := { program := "ytkikeapfjpnkgaa", sum := "70e62b313764e11b24eea27b56ebb456dc65be844b9ce8afd0a31560d0e18a25", func := "loop.example/buttery/laws.FnOldLast", spec := "fnOldLast", unfollowed := true, recurses := true, apart := false }
def FnOldLastSaid : Prop := fnOldLastRow.holds Try.pinned (OpenSpec.ofChange fnOldLastSpec)

/-- ITS FALSE NEIGHBOUR: 'it returns false'. Refute it at one input. -/
def fnOldLastWrong : ChangeSpec := { name := "fnOldLast", fn := fun _ => fun
  | [d] => { results := [.lit (.bool false)], args := [d] }
  | _ => none }
def FnOldLastWrongFalsely : Prop := fnOldLastRow.holds Try.pinned (OpenSpec.ofChange fnOldLastWrong)

/-- 'laws.FnOldNext': WHATEVER THE INPUT: true; the input reads as it did. -/
def fnOldNextSpec : ChangeSpec := { name := "fnOldNext", fn := fun _ => fun
  | [d] => { results := [.lit (.bool true)], args := [d] }
  | _ => none }
def fnOldNextRow : OpenClaim := { program := "ytkikeapfjpnkgaa", sum := "70e62b313764e11b24eea27b56ebb456dc65be844b9ce8afd0a31560d0e18a25", func := "loop.example/buttery/laws.FnOldNext", spec := "fnOldNext", unfollowed := true, recurses := true, apart := false }
def FnOldNextSaid : Prop := fnOldNextRow.holds Try.pinned (OpenSpec.ofChange fnOldNextSpec)

/-- ITS FALSE NEIGHBOUR: 'it returns false'. Refute it at one input. -/
def fnOldNextWrong : ChangeSpec := { name := "fnOldNext", fn := fun _ => fun
  | [d] => { results := [.lit (.bool false)], args := [d] }
  | _ => none }
def FnOldNextWrongFalsely : Prop := fnOldNextRow.holds Try.pinned (OpenSpec.ofChange fnOldNextWrong)

/-- 'laws.FnOrderLess': WHATEVER THE INPUT: true; the input reads as it did. -/
def fnOrderLessSpec : ChangeSpec := { name := "fnOrderLess", fn := fun _ => fun
  | [d1, d2] => { results := [.lit (.bool true)], args := [d1, d2] }
  | _ => none }
def fnOrderLessRow : OpenClaim := { program := "ytkikeapfjpnkgaa", sum := "70e62b313764e11b24eea27b56ebb456dc65be844b9ce8afd0a31560d0e18a25", func := "loop.example/buttery/laws.FnOrderLess", spec := "fnOrderLess", unfollowed := true, recurses := true, apart := false }
def FnOrderLessSaid : Prop := fnOrderLessRow.holds Try.pinned (OpenSpec.ofChange fnOrderLessSpec)

/-- ITS FALSE NEIGHBOUR: 'it returns false'. Refute it at one input. -/
def fnOrderLessWrong : ChangeSpec := { name := "fnOrderLess", fn := fun _ => fun
  | [d1, d2] => { results := [.lit (.bool false)], args := [d1, d2] }
  | _ => none }
def FnOrderLessWrongFalsely : Prop := fnOrderLessRow.holds Try.pinned (OpenSpec.ofChange fnOrderLessWrong)

/-- 'laws.FnPutSteps': WHATEVER THE INPUT: true; the input reads as it did. -/
def fnPutStepsSpec : ChangeSpec := { name := "fnPutSteps", fn := fun _ => fun
  | [d] => { results := [.lit (.bool true)], args := [d] }
  | _ => none }
def fnPutStepsRow : OpenClaim := { program := "ytkikeapfjpnkgaa", sum := "70e62b313764e11b24eea27b56ebb456dc65be844b9ce8afd0a31560d0e18a25", func := "loop.example/buttery/laws.FnPutSteps", spec := "fnPutSteps", unfollowed := true, recurses := true, apart := false }
def FnPutStepsSaid : Prop := fnPutStepsRow.holds Try.pinned (OpenSpec.ofChange fnPutStepsSpec)

/-- ITS FALSE NEIGHBOUR: 'it returns false'. Refute it at one input. -/
def fnPutStepsWrong : ChangeSpec := { name := "fnPutSteps", fn := fun _ => fun
  | [d] => { results := [.lit (.bool false)], args := [d] }
  | _ => none }
def FnPutStepsWrongFalsely : Prop := fnPutStepsRow.holds Try.pinned (OpenSpec.ofChange fnPutStepsWrong)

/- THE SECOND FORM. 'bulk': how many values and letters a reading holds, each counted each time it is reached (what is shared counts as often as it is met; a slice's spare places count too). A statement '..UptoSaid' is the law's where the arguments, and the package variables that the reading takes, are together of bulk at most 1048576: NARROWER than '..Said'. Prove '..Said' where nothing that the law and all that it calls make is longer than what came in: it says more and counts as full. Else prove '..UptoSaid'. A law counts once. -/
mutual
def uptoBulk {H : Type} : DataW H → Nat
  | .lit (.string bytes) => bytes.length + 1
  | .lit _ => 1
  | .nil => 1
  | .ptr d => uptoBulk d + 1
  | .slice elems spare => uptoBulkAll elems + uptoBulkAll spare + 1
  | .agg parts => uptoBulkAll parts + 1
  | .iface _ d => uptoBulk d + 1
  | .map entries => uptoBulkEntries entries + 1
  | .held _ => 1
def uptoBulkAll {H : Type} : List (DataW H) → Nat
  | [] => 0
  | d :: r => uptoBulk d + uptoBulkAll r
def uptoBulkEntries {H : Type} : List (Lit × DataW H) → Nat
  | [] => 0
  | x :: r => uptoBulkEntry x + uptoBulkEntries r
def uptoBulkEntry {H : Type} : Lit × DataW H → Nat
  | (.string bytes, d) => bytes.length + uptoBulk d + 1
  | (_, d) => uptoBulk d + 1
 end
def uptoSmall : (H : Type) → List (DataW H) → Bool := fun _ ds => decide (uptoBulkAll ds ≤ 1048576)
def OpenSpec.upto (s : _root_.Go.ChangeSpec) : _root_.Go.OpenSpec := { _root_.Go.OpenSpec.ofChange s with cond := some uptoSmall }

/-- 'laws.FnWriteNext', WHERE WHAT IT READS IS OF BULK AT MOST 1048576: true; the input reads as it did. -/
def fnWriteNextUptoRow : OpenClaim := { program := "ytkikeapfjpnkgaa", sum := "70e62b313764e11b24eea27b56ebb456dc65be844b9ce8afd0a31560d0e18a25", func := "loop.example/buttery/laws.FnWriteNext", spec := "fnWriteNext", unfollowed := true, recurses := true, apart := false, narrowed := true }
def FnWriteNextUptoSaid : Prop := fnWriteNextUptoRow.holds Try.pinned (OpenSpec.upto fnWriteNextSpec)

/-- 'laws.FnFlashLess', WHERE WHAT IT READS IS OF BULK AT MOST 1048576: true; the input reads as it did. -/
def fnFlashLessUptoRow : OpenClaim := { program := "ytkikeapfjpnkgaa", sum := "70e62b313764e11b24eea27b56ebb456dc65be844b9ce8afd0a31560d0e18a25", func := "loop.example/buttery/laws.FnFlashLess", spec := "fnFlashLess", unfollowed := true, recurses := true, apart := false, narrowed := true }
def FnFlashLessUptoSaid : Prop := fnFlashLessUptoRow.holds Try.pinned (OpenSpec.upto fnFlashLessSpec)

/-- 'laws.FnFlashSeq', WHERE WHAT IT READS IS OF BULK AT MOST 1048576: true; the input reads as it did. -/
def fnFlashSeqUptoRow : OpenClaim := { program := "ytkikeapfjpnkgaa", sum := "70e62b313764e11b24eea27b56ebb456dc65be844b9ce8afd0a31560d0e18a25", func := "loop.example/buttery/laws.FnFlashSeq", spec := "fnFlashSeq", unfollowed := true, recurses := true, apart := false, narrowed := true }
def FnFlashSeqUptoSaid : Prop := fnFlashSeqUptoRow.holds Try.pinned (OpenSpec.upto fnFlashSeqSpec)

/-- 'laws.FnWornMax', WHERE WHAT IT READS IS OF BULK AT MOST 1048576: true; the input reads as it did. -/
def fnWornMaxUptoRow : OpenClaim := { program := "ytkikeapfjpnkgaa", sum := "70e62b313764e11b24eea27b56ebb456dc65be844b9ce8afd0a31560d0e18a25", func := "loop.example/buttery/laws.FnWornMax", spec := "fnWornMax", unfollowed := true, recurses := true, apart := false, narrowed := true }
def FnWornMaxUptoSaid : Prop := fnWornMaxUptoRow.holds Try.pinned (OpenSpec.upto fnWornMaxSpec)

/-- 'laws.FnLive', WHERE WHAT IT READS IS OF BULK AT MOST 1048576: true; the input reads as it did. -/
def fnLiveUptoRow : OpenClaim := { program := "ytkikeapfjpnkgaa", sum := "70e62b313764e11b24eea27b56ebb456dc65be844b9ce8afd0a31560d0e18a25", func := "loop.example/buttery/laws.FnLive", spec := "fnLive", unfollowed := true, recurses := true, apart := false, narrowed := true }
def FnLiveUptoSaid : Prop := fnLiveUptoRow.holds Try.pinned (OpenSpec.upto fnLiveSpec)

/-- 'laws.FnOld', WHERE WHAT IT READS IS OF BULK AT MOST 1048576: true; the input reads as it did. -/
def fnOldUptoRow : OpenClaim := { program := "ytkikeapfjpnkgaa", sum := "70e62b313764e11b24eea27b56ebb456dc65be844b9ce8afd0a31560d0e18a25", func := "loop.example/buttery/laws.FnOld", spec := "fnOld", unfollowed := true, recurses := true, apart := false, narrowed := true }
def FnOldUptoSaid : Prop := fnOldUptoRow.holds Try.pinned (OpenSpec.upto fnOldSpec)

/-- 'laws.FnOldLast', WHERE WHAT IT READS IS OF BULK AT MOST 1048576: true; the input reads as it did. -/
def fnOldLastUptoRow : OpenClaim := { program := "ytkikeapfjpnkgaa", sum := "70e62b313764e11b24eea27b56ebb456dc65be844b9ce8afd0a31560d0e18a25", func := "loop.example/buttery/laws.FnOldLast", spec := "fnOldLast", unfollowed := true, recurses := true, apart := false, narrowed := true }
def FnOldLastUptoSaid : Prop := fnOldLastUptoRow.holds Try.pinned (OpenSpec.upto fnOldLastSpec)

/-- 'laws.FnOldNext', WHERE WHAT IT READS IS OF BULK AT MOST 1048576: true; the input reads as it did. -/
def fnOldNextUptoRow : OpenClaim := { program := "ytkikeapfjpnkgaa", sum := "70e62b313764e11b24eea27b56ebb456dc65be844b9ce8afd0a31560d0e18a25", func := "loop.example/buttery/laws.FnOldNext", spec := "fnOldNext", unfollowed := true, recurses := true, apart := false, narrowed := true }
def FnOldNextUptoSaid : Prop := fnOldNextUptoRow.holds Try.pinned (OpenSpec.upto fnOldNextSpec)

/-- 'laws.FnOrderLess', WHERE WHAT IT READS IS OF BULK AT MOST 1048576: true; the input reads as it did. -/
def fnOrderLessUptoRow : OpenClaim := { program := "ytkikeapfjpnkgaa", sum := "70e62b313764e11b24eea27b56ebb456dc65be844b9ce8afd0a31560d0e18a25", func := "loop.example/buttery/laws.FnOrderLess", spec := "fnOrderLess", unfollowed := true, recurses := true, apart := false, narrowed := true }
def FnOrderLessUptoSaid : Prop := fnOrderLessUptoRow.holds Try.pinned (OpenSpec.upto fnOrderLessSpec)

/-- 'laws.FnPutSteps', WHERE WHAT IT READS IS OF BULK AT MOST 1048576: true; the input reads as it did. -/
def fnPutStepsUptoRow : OpenClaim := { program := "ytkikeapfjpnkgaa", sum := "70e62b313764e11b24eea27b56ebb456dc65be844b9ce8afd0a31560d0e18a25", func := "loop.example/buttery/laws.FnPutSteps", spec := "fnPutSteps", unfollowed := true, recurses := true, apart := false, narrowed := true }
def FnPutStepsUptoSaid : Prop := fnPutStepsUptoRow.holds Try.pinned (OpenSpec.upto fnPutStepsSpec)

end Rows
end Go.Proofs.Ytkikeapfjpnkgaa
