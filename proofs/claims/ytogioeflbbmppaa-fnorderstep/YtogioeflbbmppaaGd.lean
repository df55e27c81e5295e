/-
  Regions that draw their order and hold guards: an operation whose guard is a truth value that is not known, taken all the same. Nothing here speaks of the program.
-/
import Derived.Test.YtogioeflbbmppaaBig
namespace Go.Proofs.Ytogioeflbbmppaa.Gd
open Go.ChangeShapes Go.WideShapes Go.ChangeAt Go.RowKit Big
set_option linter.unusedVariables false
variable {P : Program} {ops : Array Oper} {o : Oper} {a : Act} {w : World} {Q : Exit → Act → World → Prop}

def onlyIf (b : Bool) (v : Value) : Value := if b then v else undef
theorem onlyIf_t (v : Value) : onlyIf true v = v := rfl
theorem onlyIf_f (v : Value) : onlyIf false v = undef := rfl
/-- An operation that only yields, under a guard b. -/
theorem takeG {l : List Oper} {md : Region.Mode} {S : World → Prop} (i : Nat) {oi : Oper} (b : Bool) (v : Value) {fuel : Nat} {listed : Array Bool} (hi : nth l i = some oi)
    (hs : Region.noSelect l.toArray = true) (hf : Region.free md l.toArray listed i = true) (hr : (Region.ready md l.toArray listed).contains i = true)
    (hQ : ∀ c a w, Q (.panic c) (a.put oi.dst (onlyIf b v)) w → Q (.panic c) a w) (hw : Region.wanted oi (yielded l.toArray a.tmps) = b)
    (hy : b = true → ∀ w, S w → (execOp a.eval oi).run P w = .ok (.value v) w) (hS : S w)
    (h : wpAnyH P md l.toArray Q S fuel (listed.setIfInBounds i true) (a.put oi.dst (onlyIf b v)) w) : wpAnyH P md l.toArray Q S (fuel + 1) listed a w := by
  refine takeL i (onlyIf b v) hi hs hf hr hQ ?_ hS h
  cases b
  · exact .inr ⟨hw, rfl⟩
  · exact .inl ⟨hw, hy rfl⟩
/-- A call under a guard b: where it is not made the world stands. -/
theorem callG {l : List Oper} {md : Region.Mode} {S : World → Prop} (i : Nat) {o : Oper} (b : Bool) (v : Value) {fuel : Nat} {listed : Array Bool} (hi : nth l i = some o) (hr : Region.ready md l.toArray listed = [i])
    (hw : Region.wanted o (yielded l.toArray a.tmps) = b) (hS : S w)
    (hy : b = true → ∀ K' : Act → World → Prop, Shut (∀ w', S w' → K' (a.put o.dst v) w') → Oper.wp P o a w K' Q)
    (h : ∀ w', S w' → wpAnyH P md l.toArray Q S fuel (listed.setIfInBounds i true) (a.put o.dst (onlyIf b v)) w') : wpAnyH P md l.toArray Q S (fuel + 1) listed a w := by
  refine wpAnyH_ready hr (by simp) (AllReadyH.cons (nth_spec l i o hi) (fun K hK => ?_) AllReadyH.nil)
  cases b
  · rw [if_neg (by rw [hw]; simp)]
    exact hK.out _ _ hS (fun _ => h w hS)
  · rw [if_pos hw]
    exact hy rfl K (fun w' hS' => hK.out _ _ hS' (fun _ => h w' hS'))
end Go.Proofs.Ytogioeflbbmppaa.Gd
