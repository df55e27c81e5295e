/-
  What the laws of stores ask besides: lists that are answered, a new store, boxes.
-/
import Derived.Test.YtkikeapfjpnkgaaSvM
import Derived.Test.YtkikeapfjpnkgaaLqI
import Derived.Test.YtkikeapfjpnkgaaSn9
namespace Go.Proofs.Ytkikeapfjpnkgaa.Px
open Go.ChangeShapes Go.WideShapes Go.ChangeAt Go.RowKit Go.Shelf OkA Big Fl ImplB ImplF ImplS ImplT ImplU SpecA SpecB SpecC SpecD SpecW SpecF SpecG SpecH FindP ImplL FindN FindL Pl Kp StA StB StC StD StE StF StG SpS SpT Sv NwA LqI
set_option linter.unusedVariables false
set_option linter.unusedSimpArgs false

theorem rng2 {w : World} {s : Nat} {x y : Value} (h : Bx w s x y) : w.rangeAt s 0 [x, y] := fun j v hv => by
  rw [Nat.zero_add]
  match j, hv with
  | 0, hv => simp at hv; subst hv; exact h.c0
  | 1, hv => simp at hv; subst hv; exact h.c1
/-- A list that is answered. -/
def LsPost (w : World) (l : List Int) (e : Ending) (w' : World) : Prop := ∃ a cap, e = .returned (.slice a l.length cap) ∧ DkAt w' a l ∧ Below w.heap.size w w'
theorem isForm {w : World} {l : List Int} {e : Ending} {w' : World} (h : IsPost w l e w') : LsPost w l e w' := by
  obtain ⟨v, rfl, hv, b⟩ := h
  obtain ⟨a, cap, rfl, hd⟩ := hv.form
  exact ⟨a, cap, rfl, hd, b⟩
variable {fa da : Option Addr} {fc dc : Nat} {bs : List Bk} {dk : List Int}
theorem al_le : (alS bs dk).length ≤ 6 := by
  cases h : stB bs dk
  · rw [al_not h]; simp
  · rw [al_len h]; exact Nat.le_refl _
theorem al_new : alS zFs zDk = zDk := by decide
theorem dy_new : dyS zFs zDk = [] := by decide
theorem here : True := trivial
end Go.Proofs.Ytkikeapfjpnkgaa.Px
