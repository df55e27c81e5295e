/-
  The specification's FlashWrite, for every list of blocks.
-/
import Derived.Test.YtbfklmlniepihaaSpecX
namespace Go.Proofs.Ytbfklmlniepihaa.SpecY
open Go.ChangeShapes Go.WideShapes Go.ChangeAt Go.RowKit OkA Big Fl ImplB ImplF ImplS Own ImplT ImplU SpecA SpecB SpecC SpecD SpecW SpecX
set_option linter.unusedVariables false
set_option linter.unusedSimpArgs false
attribute [local go_sem ↓] Go.wp_at_zero Go.wp_at_succ

theorem wrL_len {bs : List Bk} {k : Nat} {p : Pg} : (wrL bs k p).length = bs.length := by simp [wrL]
theorem wrL_fours {bs : List Bk} (h : Fours bs) {k : Nat} (hk : k < bs.length) {p : Pg} : Fours (wrL bs k p) := fun b hb => by
  have hgd : bs.getD k zBk = bs[k] := by rw [List.getD_eq_getElem?_getD, List.getElem?_eq_getElem hk]; rfl
  rcases List.mem_or_eq_of_mem_set hb with h' | rfl
  · exact h b h'
  · simp only [List.length_set, hgd]; exact h.at k hk

theorem here : True := trivial
end Go.Proofs.Ytbfklmlniepihaa.SpecY
