/-
  The program's FlashWrite, for every list of blocks.
-/
import Derived.Test.YtbfklmlniepihaaSpecY
import Derived.Test.YtbfklmlniepihaaImplW
import Derived.Deep.Cut
namespace Go.Proofs.Ytbfklmlniepihaa.ImplX
open Go.ChangeShapes Go.WideShapes Go.ChangeAt Go.RowKit OkA Big Fl ImplB ImplF ImplS Own ImplT ImplU SpecA SpecB SpecC SpecD SpecW SpecX SpecY ImplW
set_option linter.unusedVariables false
set_option linter.unusedSimpArgs false
attribute [local go_sem ↓] Go.wp_at_zero Go.wp_at_succ

theorem range_set' {α : Type} (f : α → List Value) (n : Nat) {w w' : World} {g o : Nat} {xs : List α} (hf : ∀ x ∈ xs, (f x).length = n) (k : Nat) (hk : k < xs.length) (y : α) (hy : (f y).length = n)
    (h : w.rangeAt g o (xs.flatMap f)) (hm : w'.rangeAt g (o + k * n) (f y)) (ho : ∀ o' cs, w.rangeAt g o' cs → (o' + cs.length ≤ o + k * n ∨ o + k * n + n ≤ o') → w'.rangeAt g o' cs) : w'.rangeAt g o ((xs.set k y).flatMap f) := by
  have e : xs = xs.take k ++ (xs[k] :: xs.drop (k + 1)) := by rw [← List.drop_eq_getElem_cons hk]; exact (List.take_append_drop k xs).symm
  have e2 : xs.set k y = xs.take k ++ (y :: xs.drop (k + 1)) := by rw [List.set_eq_take_append_cons_drop, if_pos hk]
  have hl : ((xs.take k).flatMap f).length = k * n := by
    have : ∀ l : List α, (∀ x ∈ l, (f x).length = n) → (l.flatMap f).length = l.length * n := by
      intro l; induction l with
      | nil => simp
      | cons x r ih => intro hh; simp only [List.flatMap_cons, List.length_append, ih (fun z hz => hh z (by simp [hz])), hh x (by simp), List.length_cons, Nat.add_mul]; omega
    rw [this _ (fun x hx => hf x (List.mem_of_mem_take hx)), List.length_take, Nat.min_eq_left (by omega)]
  have h' : w.rangeAt g o ((xs.take k).flatMap f ++ (f xs[k] ++ (xs.drop (k + 1)).flatMap f)) := by
    have q := h
    rw [e] at q
    simpa only [List.flatMap_append, List.flatMap_cons] using q
  rw [e2]
  simp only [List.flatMap_append, List.flatMap_cons]
  rw [range_app, range_app, hl] at h' ⊢
  have hxk : (f xs[k]).length = n := hf _ (List.getElem_mem hk)
  refine ⟨ho _ _ h'.1 (by rw [hl]; omega), hm, ?_⟩
  have h3 := h'.2.2
  rw [hxk] at h3
  rw [hy]
  exact ho _ _ h3 (.inr (Nat.le_refl _))
theorem wp_world {P : Program} {c : Code} {Q : Exit → Act → World → Prop} {a : Act} {w : World} {φ : World → Prop} (h : φ w) (k : ∀ w', φ w' → c.wp P Q a w') : c.wp P Q a w := k w h
/-- A page is laid over a page of kept blocks. -/
theorem store_page {w : World} {kb : Nat} {ks : List Bk} (hF : Fours ks) (h4 : ks.length = 4) (h : w.rangeAt kb 0 (fsC ks)) (ht : w.there kb 0 84) (k : Nat) (hk : k < 4) (u : Nat) (hu : u < 4) (p : Pg) :
    (w.setCells kb (k * 21 + u * 5) (pgC p)).rangeAt kb 0 (fsC (ks.set k ⟨(ks.getD k zBk).ps.set u p, (ks.getD k zBk).wn⟩)) := by
  have hkb : k < ks.length := by omega
  have hgd : ks.getD k zBk = ks[k] := by rw [List.getD_eq_getElem?_getD, List.getElem?_eq_getElem hkb]; rfl
  rw [hgd]
  have hb4 := hF.at k hkb
  have r2 := sub_fs hF h k hkb
  have rp := range_bk r2
  have cw := worn_bk hb4 r2
  have tk : w.there kb (k * 21 + u * 5) 5 := by have := there_sub ht (k * 21 + u * 5) 5 (by omega); rwa [Nat.zero_add] at this
  have rp' := range_set pgC 5 (fun _ _ => rfl) u (by omega) p rfl rp tk
  refine range_set' bkC 21 (fun x hx => len_bkC x (hF x hx)) k hkb ⟨ks[k].ps.set u p, ks[k].wn⟩ (len_bkC _ (by simp [hb4])) h ?_ (fun o' cs hr hc => World.rangeAt_setCells_apart hr _ _ _ (.inr (by rw [len_pgC]; omega)))
  rw [Nat.zero_add]
  show (w.setCells kb (k * 21 + u * 5) (pgC p)).rangeAt kb (k * 21) (psC (ks[k].ps.set u p) ++ [.int .i64 ks[k].wn])
  rw [range_app]
  refine ⟨rp', ?_⟩
  rw [len_psC, List.length_set, hb4]
  intro j v hv
  have hj : j = 0 := by
    have := (List.getElem?_eq_some_iff.1 hv).1
    simp at this; exact this
  subst hj
  simp at hv
  subst hv
  rw [cell_setCells_ne (.inr (.inr (by rw [len_pgC]; omega)))]
  exact cw

def wrK (ks : List Bk) (k : Nat) (rk rs ra rv : Int) (torn : Bool) : List Bk := if wrN ks k rs then ks else wrL ks k (pgW torn rk rs ra rv)
theorem wrK_len {ks : List Bk} (h4 : ks.length = 4) (k : Nat) (rk rs ra rv : Int) (torn : Bool) : (wrK ks k rk rs ra rv torn).length = 4 := by
  unfold wrK; split
  · exact h4
  · rw [wrL_len]; exact h4
theorem wrK_fours {ks : List Bk} (h4 : ks.length = 4) (hF : Fours ks) (k : Nat) (hk : k < 4) (rk rs ra rv : Int) (torn : Bool) : Fours (wrK ks k rk rs ra rv torn) := by
  unfold wrK; split
  · exact hF
  · exact wrL_fours hF (by omega)

theorem here : True := trivial
end Go.Proofs.Ytbfklmlniepihaa.ImplX
