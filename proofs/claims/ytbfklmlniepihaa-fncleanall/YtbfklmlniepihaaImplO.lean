/-
  The program's finding of the block on which the next record is to be written.
-/
import Derived.Test.YtbfklmlniepihaaSpecH
import Derived.Test.YtbfklmlniepihaaOk2
namespace Go.Proofs.Ytbfklmlniepihaa.ImplO
open Go.ChangeShapes Go.WideShapes Go.ChangeAt Go.RowKit OkA Big Fl ImplB ImplF ImplS Own ImplT ImplU SpecA SpecB SpecC SpecD SpecW SpecF SpecG SpecH Ok2
set_option linter.unusedVariables false
set_option linter.unusedSimpArgs false
attribute [local go_sem ↓] Go.wp_at_zero Go.wp_at_succ

def begB (b : Bk) : Bool := inB (usedN b.ps) 1 3
/-- What the program tells of the blocks from the i-th on, if o is the best that was met so far (f: whether there is one). -/
def openG (bs : List Bk) : List Bk → Nat → Nat → Bool → Int × Bool
  | [], _, o, f => (o, f)
  | b :: r, i, o, f => if begB b then ((i : Int), true) else if usedN b.ps = 0 ∧ (f = false ∨ b.wn < (bs.getD o zBk).wn) then openG bs r (i + 1) i true else openG bs r (i + 1) o f
def openI (bs : List Bk) : Int × Bool := openG bs bs 0 0 false

theorem here : True := trivial
end Go.Proofs.Ytbfklmlniepihaa.ImplO
