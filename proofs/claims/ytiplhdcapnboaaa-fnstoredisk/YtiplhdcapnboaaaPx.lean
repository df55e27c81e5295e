/-
  What the laws of stores ask besides: lists that are answered, a new store, boxes.
-/
import Derived.Test.YtiplhdcapnboaaaSvM
import Derived.Test.YtiplhdcapnboaaaLqI
import Derived.Test.YtiplhdcapnboaaaSn9
namespace Go.Proofs.Ytiplhdcapnboaaa.Px
open Go.ChangeShapes Go.WideShapes Go.ChangeAt Go.RowKit Go.Shelf OkA Big Fl ImplB ImplF ImplS ImplT ImplU SpecA SpecB SpecC SpecD SpecW SpecF SpecG SpecH FindP ImplL FindN FindL Pl Kp StA StB StC StD StE StF StG SpS SpT Sv NwA LqI
set_option linter.unusedVariables false
set_option linter.unusedSimpArgs false

theorem rng2 {w : World} {s : Nat} {x y : Value} (h : Bx w s x y) : w.rangeAt s 0 [x, y] := fun j v hv => by
  rw [Nat.zero_add]
  match j, hv with
  | 0, hv => simp at hv; subst hv; exact h.c0
  | 1, hv => simp at hv; subst hv; exact h.c1
/-- A list that is answered. -/
def LsPost (w : World) (l : List Int) (e : Ending) (w' : World) : Prop := ∃ a cap, e = .returned (.slice a l.length cap) ∧ DkAt w' a l ∧ Below w.heap.size w w'
theorem isForm {w : World} {l : List Int} {e : Ending} {w' : World} (h : IsPost w l e w') : LsPost w l e w' := by
  obtain ⟨v, rfl, hv, b⟩ := h
  obtain ⟨a, cap, rfl, hd⟩ := hv.form
  exact ⟨a, cap, rfl, hd, b⟩
variable {fa da : Option Addr} {fc dc : Nat} {bs : List Bk} {dk : List Int}
theorem iAll2 (w : World) (h : SAt w fa bs da dk) (h4 : bs.length ≤ 4) (h6 : dk.length ≤ 6) :
    Calls Try.prog 52 #[.agg #[.slice fa bs.length fc, .slice da dk.length dc]] w fun e w' => LsPost w (alS bs dk) e w' := (iAll w h h4 h6).mono fun _ _ q => isForm q
theorem sAll2 (w : World) (h : SAt w fa bs da dk) (h4 : bs.length ≤ 4) (h6 : dk.length ≤ 6) (hp : ∀ b ∈ bs, b.ps.length ≤ 4) :
    Calls Try.prog 54 #[.agg #[.slice fa bs.length fc, .slice da dk.length dc]] w fun e w' => LsPost w (alS bs dk) e w' := (sAll w h h4 h6 hp).mono fun _ _ q => isForm q
theorem iDirty2 (w : World) (h : SAt w fa bs da dk) (h4 : bs.length ≤ 4) (h6 : dk.length ≤ 6) :
    Calls Try.prog 57 #[.agg #[.slice fa bs.length fc, .slice da dk.length dc]] w fun e w' => LsPost w (dyS bs dk) e w' := (iDirty w h h4 h6).mono fun _ _ q => isForm q
theorem sDirty2 (w : World) (h : SAt w fa bs da dk) (h4 : bs.length ≤ 4) (h6 : dk.length ≤ 6) (hp : ∀ b ∈ bs, b.ps.length ≤ 4) :
    Calls Try.prog 58 #[.agg #[.slice fa bs.length fc, .slice da dk.length dc]] w fun e w' => LsPost w (dyS bs dk) e w' := (sDirty w h h4 h6 hp).mono fun _ _ q => isForm q
theorem al_le : (alS bs dk).length ≤ 6 := by
  cases h : stB bs dk
  · rw [al_not h]; simp
  · rw [al_len h]; exact Nat.le_refl _
theorem al_new : alS zFs zDk = zDk := by decide
theorem dy_new : dyS zFs zDk = [] := by decide
theorem iAllN (a b : Option Addr) (c1 c2 : Nat) (w : World) (h : SAt w a zFs b zDk) :
    Calls Try.prog 52 #[.agg #[.slice a 4 c1, .slice b 6 c2]] w fun e w' => ∃ p q, e = .returned (.slice p 6 q) ∧ DkAt w' p zDk ∧ Below w.heap.size w w' := by
  have := iAll2 (fc := c1) (dc := c2) w h (by decide) (by decide)
  rw [al_new] at this
  exact this
/-- Of two lists that are the same. -/
theorem lqSame (a1 a2 : Option Addr) (c1 c2 : Nat) (xs : List Int) (w : World) (h1 : DkAt w a1 xs) (h2 : DkAt w a2 xs) (hl : xs.length ≤ 6) :
    Calls Try.prog 53 #[.slice a1 xs.length c1, .slice a2 xs.length c2] w fun e w' => e = .returned (.bool true) ∧ Below w.heap.size w w' := by
  have := lqInts_any a1 a2 c1 c2 xs xs w h1 h2 (by omega) (by omega)
  rwa [same_self] at this
end Go.Proofs.Ytiplhdcapnboaaa.Px
