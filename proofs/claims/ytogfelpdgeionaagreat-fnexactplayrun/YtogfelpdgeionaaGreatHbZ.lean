/-
  Texts that belong together, one behind the other: Lv.
-/
import Derived.Test.YtogfelpdgeionaaGreatRows
import Derived.Handed
import Derived.Leaving
import Derived.Conc.Holds

/-
  A call that starts no goroutine, at a row that says 'leaving': what the row asks follows from the call's contract over one goroutine.
-/
namespace Go.Proofs.YtogfelpdgeionaaGreat.Lv
theorem leave_of {a : Assume} {C : Checked} {os : Os} {f : FuncId} {r : Reach} {Pre : World → Array Value → Prop} {Post : World → Array Value → Value → World → Prop}
    (h : ReturnsInHanded a C os f r Pre Post) : ReturnsInLeavingWide a C os f r Pre Post := fun enter =>
  ReturnsInOpen.mono (fun _ _ _ x => ⟨x.2.1, onlyLeaving_of_quiet x.1, x.2.2⟩) (fun _ x => x) (h enter)
end Go.Proofs.YtogfelpdgeionaaGreat.Lv
