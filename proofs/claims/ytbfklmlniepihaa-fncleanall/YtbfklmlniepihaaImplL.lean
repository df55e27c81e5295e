/-
  The program's last record of an address: the pages that are written, gone by by the iterator.
-/
import Derived.Test.YtbfklmlniepihaaIter
import Derived.Test.YtbfklmlniepihaaSpecL
namespace Go.Proofs.Ytbfklmlniepihaa.ImplL
open Go.ChangeShapes Go.WideShapes Go.ChangeAt Go.RowKit Go.Shelf OkA Big Fl ImplB ImplF ImplS _root_.Go.Proofs.Ytbfklmlniepihaa.Own ImplT ImplU SpecA SpecB SpecC SpecD SpecW SpecF SpecG SpecH Ok2 Pl FindP Rnd Iter
set_option linter.unusedVariables false
set_option linter.unusedSimpArgs false
attribute [local go_sem] Oper.semAt_some
attribute [local go_sem ↓] Go.wp_at_zero Go.wp_at_succ

/-- Cells that fill a block from its beginning, and may be written. -/
structure CsAt (w : World) (b : Nat) (cs : List Value) : Prop where
  cells : w.rangeAt b 0 cs
  free : w.there b 0 cs.length
theorem CsAt.below {w w' : World} {b B : Nat} {cs : List Value} (h : CsAt w b cs) (hb : Below B w w') (hl : b < B) : CsAt w' b cs := ⟨rangeAt_below h.cells hb hl, there_below h.free hb hl⟩
theorem CsAt.new (w : World) (cs : List Value) (T : TypeId) : CsAt (w.alloc (.cells cs.toArray T)) w.heap.size cs :=
  ⟨rangeAt_new w _ _, fun j hj => by
    have e := rangeAt_new w cs T j _ (List.getElem?_eq_getElem hj)
    refine ⟨by rw [e]; rfl, ?_⟩
    have e2 := World.alloc_heap_new w (.cells cs.toArray T)
    simp only [World.frozen?, e2]
    simp⟩
theorem CsAt.cell {w : World} {b : Nat} {cs : List Value} (h : CsAt w b cs) (j : Nat) (v : Value) (hv : cs[j]? = some v) : w.cell? ⟨b, j, none⟩ = some v := by have := h.cells j v hv; rwa [Nat.zero_add] at this
theorem CsAt.frozen {w : World} {b : Nat} {cs : List Value} (h : CsAt w b cs) (j : Nat) (hj : j < cs.length) : w.frozen? ⟨b, j, none⟩ = false := by have := (h.free j hj).2; rwa [Nat.zero_add] at this
theorem CsAt.lt {w : World} {b : Nat} {cs : List Value} (h : CsAt w b cs) (hc : 0 < cs.length) : b < w.heap.size := cell_lt (h.cell 0 _ (List.getElem?_eq_getElem hc))
theorem CsAt.put {w : World} {b : Nat} {cs : List Value} (h : CsAt w b cs) (ds : List Value) (hl : ds.length = cs.length) : CsAt (w.setCells b 0 ds) b ds :=
  ⟨fun j v hv => by
    obtain ⟨hj, rfl⟩ := List.getElem?_eq_some_iff.1 hv
    exact cell_setCells_eq (vs := ds) (hl ▸ h.free) j hj, hl ▸ World.there_setCells h.free _ _ _⟩
theorem CsAt.other {w : World} {b : Nat} {cs : List Value} (h : CsAt w b cs) {d : Nat} (hn : b ≠ d) (o : Nat) (ds : List Value) : CsAt (w.setCells d o ds) b cs :=
  ⟨World.rangeAt_setCells_apart h.cells _ _ _ (.inl hn), World.there_setCells h.free _ _ _⟩
theorem CsAt.alloc {w : World} {b : Nat} {cs : List Value} (h : CsAt w b cs) (hl : b < w.heap.size) (o : Obj) : CsAt (w.alloc o) b cs := h.below ((Below.refl w.heap.size w).alloc (Nat.le_refl _) o) hl
theorem CsAt.kept {w w' : World} {row : Option Nat} {b : Nat} {cs : List Value} (h : CsAt w b cs) (hg : w.grownBy w' row) (hr : ∀ r, row = some r → ∃ o : Obj, w.heap[r]? = some o ∧ o.isCells = false) : CsAt w' b cs :=
  ⟨fun j v hv => cell_kept (h.cells j v hv) hg hr, fun j hj => by
    have e := h.cells j _ (List.getElem?_eq_getElem hj)
    exact ⟨by rw [cell_kept e hg hr]; rfl, (frozen_kept e hg hr).trans (h.free j hj).2⟩⟩
theorem own_cs {β : Type} (b : Nat) (f : β → List Value) : Go.Own (fun s W => CsAt W b (f s)) := fun s A B row hs hg hr => hs.kept hg hr
theorem ownFrom_size {β : Type} {B : Nat} (k : Nat) : OwnFrom B (fun (_ : β) W => k ≤ W.heap.size) := fun _ _ _ _ hs hg _ => Nat.le_trans hs hg.size

theorem keeps_setCells (b : Nat) : ∀ (ds : List Value) (o : Nat) (w : World), KeepsOthers w (w.setCells b o ds)
  | [], _, w => KeepsOthers.refl w
  | v :: r, o, w => (KeepsOthers.setCell w ⟨b, o, none⟩ v).trans (keeps_setCells b r (o + 1) _)
def LsPost (w : World) (r : Rc) (e : Ending) (w' : World) : Prop := e = .returned (.agg (rcC r).toArray) ∧ Below w.heap.size w w'

theorem here : True := trivial
end Go.Proofs.Ytbfklmlniepihaa.ImplL
