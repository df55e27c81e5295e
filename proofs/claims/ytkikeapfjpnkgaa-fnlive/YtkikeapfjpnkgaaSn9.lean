/-
  A new store, as the laws that draw ask it.
-/
import Derived.Test.YtkikeapfjpnkgaaStO
import Derived.Test.YtkikeapfjpnkgaaDrwC
import Derived.Test.YtkikeapfjpnkgaaOrdL
namespace Go.Proofs.Ytkikeapfjpnkgaa.Sn9
open Go.ChangeShapes Go.WideShapes Go.ChangeAt Go.RowKit Go.Shelf Big Fl ImplB ImplF ImplL ImplT ImplU ImplW Kp StA DoA NwA StB StG
set_option linter.unusedVariables false
set_option linter.unusedSimpArgs false
attribute [local go_sem ↓] Go.wp_at_zero Go.wp_at_succ

theorem here : True := trivial
end Go.Proofs.Ytkikeapfjpnkgaa.Sn9
