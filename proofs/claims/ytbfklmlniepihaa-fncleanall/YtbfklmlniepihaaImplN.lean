/-
  The program's spans: the least and the greatest number of each block's records.
-/
import Derived.Test.YtbfklmlniepihaaImplL
import Derived.Test.YtbfklmlniepihaaImplO
namespace Go.Proofs.Ytbfklmlniepihaa.ImplN
open Go.ChangeShapes Go.WideShapes Go.ChangeAt Go.RowKit Go.Shelf OkA Big Fl ImplB ImplF ImplS _root_.Go.Proofs.Ytbfklmlniepihaa.Own ImplT ImplU SpecA SpecB SpecC SpecD SpecW SpecF SpecG SpecH Ok2 Pl FindP Rnd Iter ImplL ImplO
set_option linter.unusedVariables false
set_option linter.unusedSimpArgs false
attribute [local go_sem] Oper.semAt_some
attribute [local go_sem ↓] Go.wp_at_zero Go.wp_at_succ

def SpPost (w : World) (x : Sp) (e : Ending) (w' : World) : Prop := e = .returned (.agg #[.int .i64 x.1, .int .i64 x.2]) ∧ Below w.heap.size w w'
theorem here : True := trivial
end Go.Proofs.Ytbfklmlniepihaa.ImplN
