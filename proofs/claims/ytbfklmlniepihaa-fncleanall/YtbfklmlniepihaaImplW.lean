/-
  The program's FlashWipe, for every list of blocks.
-/
import Derived.Test.YtbfklmlniepihaaSpecX
namespace Go.Proofs.Ytbfklmlniepihaa.ImplW
open Go.ChangeShapes Go.WideShapes Go.ChangeAt Go.RowKit OkA Big Fl ImplB ImplF ImplS Own ImplT ImplU SpecA SpecB SpecC SpecD SpecW SpecX
set_option linter.unusedVariables false
set_option linter.unusedSimpArgs false
attribute [local go_sem ↓] Go.wp_at_zero Go.wp_at_succ

section
variable {P : Program} {rest : List Oper} {o : Oper} {a : Act} {w : World} {Q : Exit → Act → World → Prop}
/-- Two operations may come up. -/
theorem twoL {l : List Oper} {md : Region.Mode} {S : World → Prop} (i j : Nat) {oi oj : Oper} {fuel : Nat} {listed : Array Bool} (hi : nth l i = some oi) (hj : nth l j = some oj) (hr : Region.ready md l.toArray listed = [i, j])
    (hwi : Region.wanted oi (yielded l.toArray a.tmps) = true) (hwj : Region.wanted oj (yielded l.toArray a.tmps) = true)
    (h1 : ∀ K' : Act → World → Prop, Shut (∀ a w, S w → (S w → wpAnyH P md l.toArray Q S fuel (listed.setIfInBounds i true) a w) → K' a w) → Oper.wp P oi a w K' Q)
    (h2 : ∀ K' : Act → World → Prop, Shut (∀ a w, S w → (S w → wpAnyH P md l.toArray Q S fuel (listed.setIfInBounds j true) a w) → K' a w) → Oper.wp P oj a w K' Q) : wpAnyH P md l.toArray Q S (fuel + 1) listed a w :=
  wpAnyH_ready hr (by simp) (AllReadyH.cons (nth_spec l i oi hi) (fun K hK => by rw [if_pos hwi]; exact h1 K hK) (AllReadyH.cons (nth_spec l j oj hj) (fun K hK => by rw [if_pos hwj]; exact h2 K hK) AllReadyH.nil))
theorem wp_build_two {K : Act → World → Prop} (T : TypeId) (x y : Operand) (ho : o.op = .build T #[(0, x), (1, y)]) (vx vy : Value) (hx : a.eval x = vx) (hy : a.eval y = vy) (cs : Array Value) (hb : P.built T [(0, vx), (1, vy)] = some cs)
    (h : K (a.put o.dst (.agg cs)) w) : o.wp P a w K Q := by
  have hp : ((#[(0, x), (1, y)] : Array (Nat × Operand)).map fun (i, x) => (i, a.eval x)).toList = [(0, vx), (1, vy)] := by simp [hx, hy]
  exact wp_build T _ ho (by rw [hp, hb]; rfl) (by rw [hp, hb]; exact h)
end
theorem wiB_len (b : Bk) (t : Bool) : (wiB b t).ps.length = 4 := by simp [wiB]
theorem size_bkA {b : Bk} (h4 : b.ps.length = 4) : (Try.prog.info? 44).map (·.size) = some (bkC b).toArray.size := by rw [List.size_toArray, len_bkC b h4]; kernel_rfl

def RowPost (w : World) (p : Pg) (e : Ending) (w' : World) : Prop := e = .returned (.agg (psC (List.replicate 4 p)).toArray) ∧ Below w.heap.size w w'
/-- What a change of kept blocks answers. -/
def KpPost (w : World) (ks : List Bk) (o : Bool) (e : Ending) (w' : World) : Prop := e = .returned (.tuple #[.agg (fsC ks).toArray, .bool o]) ∧ Below w.heap.size w w'
def wiK (ks : List Bk) (k : Nat) (torn : Bool) : List Bk := if wiN ks k then ks else wiL ks k torn
theorem wiK_len {ks : List Bk} (h4 : ks.length = 4) (k : Nat) (torn : Bool) : (wiK ks k torn).length = 4 := by
  unfold wiK; split
  · exact h4
  · rw [wiL_len]; exact h4
theorem wiK_fours {ks : List Bk} (hF : Fours ks) (k : Nat) (torn : Bool) : Fours (wiK ks k torn) := by
  unfold wiK; split
  · exact hF
  · exact wiL_fours hF

theorem here : True := trivial
end Go.Proofs.Ytbfklmlniepihaa.ImplW
