/-
  The program's iterator over the pages that are written: for every list of blocks that are kept, whatever is done with each.
-/
import Derived.Test.YtbfklmlniepihaaFindP
import Derived.Test.YtbfklmlniepihaaRnd
namespace Go.Proofs.Ytbfklmlniepihaa.Iter
open Go.ChangeShapes Go.WideShapes Go.ChangeAt Go.RowKit Go.Shelf OkA Big Fl ImplB ImplF ImplS _root_.Go.Proofs.Ytbfklmlniepihaa.Own ImplT ImplU SpecA SpecB SpecC SpecD SpecW SpecF SpecG SpecH Ok2 Pl FindP Rnd
set_option linter.unusedVariables false
set_option linter.unusedSimpArgs false
attribute [local go_sem] Oper.semAt_some
attribute [local go_sem ↓] Go.wp_at_zero Go.wp_at_succ

def encW (x : Wr) : Array Value := #[.int .i64 (x.1 : Nat), .agg (rcC x.2).toArray]
theorem abides_new {β : Type} {B : Nat} {J : β → World → Prop} (h : AbidesFrom B J) {s : β} {W : World} (hs : J s W) (o : Obj) : J s (W.alloc o) := h s W _ none hs (World.grownBy_alloc W o none) (fun r e => by cases e)

theorem here : True := trivial
end Go.Proofs.Ytbfklmlniepihaa.Iter
