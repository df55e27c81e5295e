/-
  Of three operations any one may come up.
-/
import Derived.Test.YtkikeapfjpnkgaaBaA
import Derived.Test.YtkikeapfjpnkgaaBaP
namespace Go.Proofs.Ytkikeapfjpnkgaa.OrdL
open Go.ChangeShapes Go.WideShapes Go.ChangeAt Go.RowKit Big Kp ImplL
section
variable {P : Program} {Q : Exit → Act → World → Prop} {a : Act} {w : World}
theorem twoL {l : List Oper} {md : Region.Mode} {S : World → Prop} (i j : Nat) {oi oj : Oper} {fuel : Nat} {listed : Array Bool} (hi : nth l i = some oi) (hj : nth l j = some oj) (hr : Region.ready md l.toArray listed = [i, j])
    (hwi : Region.wanted oi (yielded l.toArray a.tmps) = true) (hwj : Region.wanted oj (yielded l.toArray a.tmps) = true)
    (h1 : ∀ K' : Act → World → Prop, Shut (∀ a w, S w → (S w → wpAnyH P md l.toArray Q S fuel (listed.setIfInBounds i true) a w) → K' a w) → Oper.wp P oi a w K' Q)
    (h2 : ∀ K' : Act → World → Prop, Shut (∀ a w, S w → (S w → wpAnyH P md l.toArray Q S fuel (listed.setIfInBounds j true) a w) → K' a w) → Oper.wp P oj a w K' Q) : wpAnyH P md l.toArray Q S (fuel + 1) listed a w :=
  wpAnyH_ready hr (by simp) (AllReadyH.cons (nth_spec l i oi hi) (fun K hK => by rw [if_pos hwi]; exact h1 K hK) (AllReadyH.cons (nth_spec l j oj hj) (fun K hK => by rw [if_pos hwj]; exact h2 K hK) AllReadyH.nil))
theorem threeL {l : List Oper} {md : Region.Mode} {S : World → Prop} (i j k : Nat) {oi oj ok : Oper} {fuel : Nat} {listed : Array Bool} (hi : nth l i = some oi) (hj : nth l j = some oj) (hk : nth l k = some ok) (hr : Region.ready md l.toArray listed = [i, j, k])
    (hwi : Region.wanted oi (yielded l.toArray a.tmps) = true) (hwj : Region.wanted oj (yielded l.toArray a.tmps) = true) (hwk : Region.wanted ok (yielded l.toArray a.tmps) = true)
    (h1 : ∀ K' : Act → World → Prop, Shut (∀ a w, S w → (S w → wpAnyH P md l.toArray Q S fuel (listed.setIfInBounds i true) a w) → K' a w) → Oper.wp P oi a w K' Q)
    (h2 : ∀ K' : Act → World → Prop, Shut (∀ a w, S w → (S w → wpAnyH P md l.toArray Q S fuel (listed.setIfInBounds j true) a w) → K' a w) → Oper.wp P oj a w K' Q)
    (h3 : ∀ K' : Act → World → Prop, Shut (∀ a w, S w → (S w → wpAnyH P md l.toArray Q S fuel (listed.setIfInBounds k true) a w) → K' a w) → Oper.wp P ok a w K' Q) : wpAnyH P md l.toArray Q S (fuel + 1) listed a w :=
  wpAnyH_ready hr (by simp) (AllReadyH.cons (nth_spec l i oi hi) (fun K hK => by rw [if_pos hwi]; exact h1 K hK) (AllReadyH.cons (nth_spec l j oj hj) (fun K hK => by rw [if_pos hwj]; exact h2 K hK) (AllReadyH.cons (nth_spec l k ok hk) (fun K hK => by rw [if_pos hwk]; exact h3 K hK) AllReadyH.nil)))
end
theorem join0 {P : Program} {c : Code} {Q' : Exit → Act → World → Prop} {a : Act} {w : World} {f : Act} {F : World → Prop}
    (h : c.wp P (fun e a' w' => e = Exit.normal ∧ a' = f  ∧ F  w') a w) (k : ∀  w', F  w' → Q' Exit.normal (f ) w') : c.wp P Q' a w :=
  Code.wp_mono (fun e a' w' q => by obtain ⟨rfl, rfl, q⟩ := q; exact k  w' q) h
theorem join1 {P : Program} {c : Code} {Q' : Exit → Act → World → Prop} {a : Act} {w : World} {α0 : Type} {f : α0 → Act} {F : α0 → World → Prop}
    (h : c.wp P (fun e a' w' => e = Exit.normal ∧ ∃ x0, a' = f x0 ∧ F x0 w') a w) (k : ∀ x0 w', F x0 w' → Q' Exit.normal (f x0) w') : c.wp P Q' a w :=
  Code.wp_mono (fun e a' w' q => by obtain ⟨rfl, x0, rfl, q⟩ := q; exact k _ w' q) h
theorem join2 {P : Program} {c : Code} {Q' : Exit → Act → World → Prop} {a : Act} {w : World} {α0 α1 : Type} {f : α0 → α1 → Act} {F : α0 → α1 → World → Prop}
    (h : c.wp P (fun e a' w' => e = Exit.normal ∧ ∃ x0, ∃ x1, a' = f x0 x1 ∧ F x0 x1 w') a w) (k : ∀ x0 x1 w', F x0 x1 w' → Q' Exit.normal (f x0 x1) w') : c.wp P Q' a w :=
  Code.wp_mono (fun e a' w' q => by obtain ⟨rfl, x0, x1, rfl, q⟩ := q; exact k _ _ w' q) h
theorem join3 {P : Program} {c : Code} {Q' : Exit → Act → World → Prop} {a : Act} {w : World} {α0 α1 α2 : Type} {f : α0 → α1 → α2 → Act} {F : α0 → α1 → α2 → World → Prop}
    (h : c.wp P (fun e a' w' => e = Exit.normal ∧ ∃ x0, ∃ x1, ∃ x2, a' = f x0 x1 x2 ∧ F x0 x1 x2 w') a w) (k : ∀ x0 x1 x2 w', F x0 x1 x2 w' → Q' Exit.normal (f x0 x1 x2) w') : c.wp P Q' a w :=
  Code.wp_mono (fun e a' w' q => by obtain ⟨rfl, x0, x1, x2, rfl, q⟩ := q; exact k _ _ _ w' q) h
theorem join4 {P : Program} {c : Code} {Q' : Exit → Act → World → Prop} {a : Act} {w : World} {α0 α1 α2 α3 : Type} {f : α0 → α1 → α2 → α3 → Act} {F : α0 → α1 → α2 → α3 → World → Prop}
    (h : c.wp P (fun e a' w' => e = Exit.normal ∧ ∃ x0, ∃ x1, ∃ x2, ∃ x3, a' = f x0 x1 x2 x3 ∧ F x0 x1 x2 x3 w') a w) (k : ∀ x0 x1 x2 x3 w', F x0 x1 x2 x3 w' → Q' Exit.normal (f x0 x1 x2 x3) w') : c.wp P Q' a w :=
  Code.wp_mono (fun e a' w' q => by obtain ⟨rfl, x0, x1, x2, x3, rfl, q⟩ := q; exact k _ _ _ _ w' q) h
theorem kcells (w : World) (b o : Nat) (vs : List Value) : Kept [b] w (w.setCells b o vs) := (Kept.refl [b] w).setCells (.inl (by simp)) o vs
theorem ckept {w w' : World} {b : Nat} {cs : List Value} (h : CsAt w b cs) {L : List Nat} (k : Kept L w w') (hb : b < w.heap.size) (hL : b ∉ L) : CsAt w' b cs := ⟨k.range h.cells hb hL, k.there h.free hb hL⟩
end Go.Proofs.Ytkikeapfjpnkgaa.OrdL
