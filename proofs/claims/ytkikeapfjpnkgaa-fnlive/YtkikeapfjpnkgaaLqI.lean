/-
  The laws' own comparing of numbers: it says whether they are the same.
-/
import Derived.Test.YtkikeapfjpnkgaaLqM
import Derived.Test.YtkikeapfjpnkgaaStM
namespace Go.Proofs.Ytkikeapfjpnkgaa.LqI
open Go.ChangeShapes Go.WideShapes Go.ChangeAt Go.RowKit OkA Big Fl ImplB ImplF ImplS ImplT ImplU SpecA SpecB LawsA LawsB LawsE StA StB
set_option linter.unusedVariables false
set_option linter.unusedSimpArgs false
attribute [local go_sem ↓] Go.wp_at_zero Go.wp_at_succ

/-- Whether two lists are the same. -/
def sameL (xs ys : List Int) : Bool := decide (xs = ys)
theorem same_iff {xs ys : List Int} : sameL xs ys = true ↔ xs = ys := by simp [sameL]
theorem same_self (xs : List Int) : sameL xs xs = true := by simp [sameL]
theorem same_len {xs ys : List Int} (h : xs.length ≠ ys.length) : sameL xs ys = false := by
  cases hs : sameL xs ys
  · rfl
  · exact absurd (congrArg List.length (same_iff.1 hs)) h
theorem here : True := trivial
end Go.Proofs.Ytkikeapfjpnkgaa.LqI
