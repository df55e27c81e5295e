/-
  The laws' own lists of steps: how much; the same as the program's, in memory of its own; an argument that is such a list.
-/
import Derived.Test.YtogfelpdgeionaaGreatGbG
import Derived.Test.YtogfelpdgeionaaGreatGaK
namespace Go.Proofs.YtogfelpdgeionaaGreat.LawW
open Go.ChangeShapes Go.WideShapes Go.ChangeAt Go.RowKit Go.Joins Go.Deep OkA Big Fl ImplB ImplF ImplS _root_.Go.Proofs.YtogfelpdgeionaaGreat.Own ImplT ImplU SpecA SpecB LawsA OpenF Pl ImplL Kp RmA LawU
set_option linter.unusedVariables false
set_option linter.unusedSimpArgs false

def rcA (x : Stp) : Array Value := #[.int .i64 x.r.k, .int .i64 x.r.s, .int .i64 x.r.a, .int .i64 x.r.v]
theorem one_rcA (x : Stp) : (rcA x).all (·.oneCell') = true := one_rec _ _ _ _
theorem size_rcA (x : Stp) : (Tryz.prog.info? 35).map (·.size) = some (rcA x).size := by show _ = some 4; kernel_rfl
theorem stsC_take (ps : List Stp) (k : Nat) (hk : k < ps.length) : stsC (ps.take (k + 1)) = stsC (ps.take k) ++ stC ps[k] := by
  rw [List.take_succ_eq_append_getElem hk]; simp only [stsC, List.flatMap_append, List.flatMap_cons, List.flatMap_nil, List.append_nil]

/-- A row of steps in new memory. -/
def RowS (w : World) (ps : List Stp) (e : Ending) (w' : World) : Prop := e = .returned (.slice (some ⟨w.heap.size, 0, none⟩) ps.length ps.length) ∧ CsAt w' w.heap.size (stsC ps) ∧ w.heap.size < w'.heap.size ∧ Below w.heap.size w w'

/-! An argument that is a list of steps. -/
theorem list8 {cs : List Value} (h : cs.length = 8) : ∃ a b c d e f g i, cs = [a, b, c, d, e, f, g, i] := by
  match cs, h with
  | [a, b, c, d, e, f, g, i], _ => exact ⟨a, b, c, d, e, f, g, i, rfl⟩
variable {H : Type} {enc : TypeId × Value → H} {w : World}
theorem trod_struct5 {P : Program} {base : Nat} {spare : Nat → Bool} {held : Bool} {t : TypeId} {f0 f1 f2 f3 f4 : Field} {fuel : Nat} {cs : List Value} {x : DataW H × List MemPlace} (ht : P.underlying t = some (.struct #[f0, f1, f2, f3, f4])) (h : DataW.trod enc P w base spare held fuel t cs = some x) :
    ∃ y0 y1 y2 y3 y4 n, cs.length = P.cellsOf t ∧ DataW.trod enc P w base spare held n f0.type ((cs.drop f0.offset).take (P.cellsOf f0.type)) = some y0 ∧ DataW.trod enc P w base spare held n f1.type ((cs.drop f1.offset).take (P.cellsOf f1.type)) = some y1 ∧ DataW.trod enc P w base spare held n f2.type ((cs.drop f2.offset).take (P.cellsOf f2.type)) = some y2 ∧
      DataW.trod enc P w base spare held n f3.type ((cs.drop f3.offset).take (P.cellsOf f3.type)) = some y3 ∧ DataW.trod enc P w base spare held n f4.type ((cs.drop f4.offset).take (P.cellsOf f4.type)) = some y4 := by
  obtain ⟨xs, n, _, rfl, hl, hlen, hf⟩ := DataW.trod_struct ht h
  match xs, hlen with
  | [y0, y1, y2, y3, y4], _ => exact ⟨y0, y1, y2, y3, y4, n, hl, by simpa using hf 0 f0 rfl, by simpa using hf 1 f1 rfl, by simpa using hf 2 f2 rfl, by simpa using hf 3 f3 rfl, by simpa using hf 4 f4 rfl⟩
theorem here : True := trivial
end Go.Proofs.YtogfelpdgeionaaGreat.LawW
