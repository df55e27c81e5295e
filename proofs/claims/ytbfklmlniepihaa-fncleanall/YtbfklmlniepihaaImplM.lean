/-
  The program's spans of all blocks: the written pages, gone by by the iterator.
-/
import Derived.Test.YtbfklmlniepihaaImplN
namespace Go.Proofs.Ytbfklmlniepihaa.ImplM
open Go.ChangeShapes Go.WideShapes Go.ChangeAt Go.RowKit Go.Shelf OkA Big Fl ImplB ImplF ImplS _root_.Go.Proofs.Ytbfklmlniepihaa.Own ImplT ImplU SpecA SpecB SpecC SpecD SpecW SpecF SpecG SpecH Ok2 Pl FindP Rnd Iter ImplL ImplO ImplN
set_option linter.unusedVariables false
set_option linter.unusedSimpArgs false
attribute [local go_sem] Oper.semAt_some
attribute [local go_sem ↓] Go.wp_at_zero Go.wp_at_succ

theorem csAt_drew {w : World} {b : Nat} {cs : List Value} (h : CsAt w b cs) : CsAt w.drew b cs := ⟨fun j v hv => h.cells j v hv, fun j hj => h.free j hj⟩
theorem keeps_below {w w' : World} (h : Below w.heap.size w w') : KeepsOthers w w' := ⟨h.size, fun k o hk ho => (h.block k (Array.getElem?_eq_some_iff.1 hk).1).trans hk⟩
theorem keeps_drew (w : World) : KeepsOthers w w.drew := ⟨Nat.le_refl _, fun k o hk ho => hk⟩
theorem part_sps (l : List Sp) (i : Nat) (hi : i < l.length) : ((spsC l).drop (i * 2)).take 2 = spC l[i] := part_of spC 2 l (fun _ _ => rfl) i hi
theorem ext_sps (l : List Sp) (k : Nat) (hk : k < l.length) : (spsC l).toArray.extract ((k : Int).toNat * 2) ((k : Int).toNat * 2 + 2) = #[.int .i64 l[k].1, .int .i64 l[k].2] := by
  rw [Int.toNat_natCast]; exact extract_of _ _ _ _ (part_sps l k hk)
theorem csSpan {w : World} {b : Nat} {l : List Sp} (h : CsAt w b (spsC l)) (i : Nat) (hi : i < l.length) : w.rangeAt b (i * 2) (spC l[i]) := by
  have := rangeAt_sub h.cells (i * 2) 2
  rw [part_sps l i hi, Nat.zero_add] at this
  exact this
theorem csSpot {w : World} {b : Nat} {l : List Sp} (h : CsAt w b (spsC l)) (i : Nat) (hi : i < l.length) : w.there b (i * 2) 2 := by
  have := there_sub h.free (i * 2) 2 (by rw [len_spsC]; omega)
  rwa [Nat.zero_add] at this
theorem csLay {w : World} {b : Nat} {l : List Sp} (h : CsAt w b (spsC l)) (i : Nat) (hi : i < l.length) (y : Sp) : CsAt (w.setCells b (i * 2) (spC y)) b (spsC (l.set i y)) := by
  have := range_set spC 2 (fun _ _ => rfl) i hi y rfl h.cells (by rw [Nat.zero_add]; exact csSpot h i hi)
  rw [Nat.zero_add] at this
  refine ⟨this, ?_⟩
  rw [len_spsC, List.length_set, ← len_spsC]
  exact World.there_setCells h.free _ _ _
theorem one_sps (l : List Sp) : (spsC l).toArray.all (·.oneCell') = true := all_oneCell_toArray (by
  intro v hv
  simp only [spsC, List.mem_flatMap, spC, List.mem_cons, List.not_mem_nil, or_false] at hv
  obtain ⟨y, _, rfl | rfl⟩ := hv <;> rfl)
def SsPost (w : World) (l : List Sp) (e : Ending) (w' : World) : Prop := e = .returned (.agg (spsC l).toArray) ∧ Below w.heap.size w w'

theorem here : True := trivial
end Go.Proofs.Ytbfklmlniepihaa.ImplM
