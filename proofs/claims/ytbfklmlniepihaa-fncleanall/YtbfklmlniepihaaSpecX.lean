/-
  The specification's FlashWipe, for every list of blocks.
-/
import Derived.Test.YtbfklmlniepihaaSpecW
namespace Go.Proofs.Ytbfklmlniepihaa.SpecX
open Go.ChangeShapes Go.WideShapes Go.ChangeAt Go.RowKit OkA Big Fl ImplB ImplF ImplS Own ImplT ImplU SpecA SpecB SpecC SpecD SpecW
set_option linter.unusedVariables false
set_option linter.unusedSimpArgs false

/-- What FlashWipe answers. -/
def wiR (bs : List Bk) (blk : Int) (torn : Bool) : List Bk :=
  if okB bs && inB blk 0 3 then (if wiN bs blk.toNat then bs else wiL bs blk.toNat torn) else []
def wiO (bs : List Bk) (blk : Int) : Bool := okB bs && inB blk 0 3 && !wiN bs blk.toNat
theorem wiL_len {bs : List Bk} {k : Nat} {t : Bool} : (wiL bs k t).length = bs.length := by simp [wiL]
theorem wiL_fours {bs : List Bk} (h : Fours bs) {k : Nat} {t : Bool} : Fours (wiL bs k t) := fun b hb => by
  rcases List.mem_or_eq_of_mem_set hb with h' | rfl
  · exact h b h'
  · simp [wiB]
theorem fs_at {w : World} {a : Option Addr} {bs : List Bk} (hf : FsAt w a bs) (h : bs.length = 4) : ∃ b o, a = some ⟨b, o, none⟩ ∧ ∀ i (hi : i < bs.length), BkAt w b (o + i * 2) bs[i] := by
  rcases hf with rfl | h'
  · simp at h
  · exact h'
theorem here : True := trivial
end Go.Proofs.Ytbfklmlniepihaa.SpecX
