/-
  The program's StoreNew answers as the specification's, and each answer owns its memory: the given statement, with no condition.
-/
import Derived.Test.YtahloklmogkaeaaQ16

namespace Go.Proofs.Ytahloklmogkaeaa.ExactStoreNew
open Go.ChangeShapes Go.WideShapes Go.ChangeAt Go.RowKit Go.Shelf Go.Joins OkA Big Fl ImplB ImplF ImplS _root_.Go.Proofs.Ytahloklmogkaeaa.Own ImplT ImplU SpecA SpecB SpecC SpecD SpecW Ok2 Pl ImplL Kp StA StB StD StF StG LawsA LawsB LawsE LawV LawI LawS LawT SnA MarkB
open Facts (own laidOut)
set_option linter.unusedVariables false
attribute [local go_sem ↓] Go.wp_at_zero Go.wp_at_succ

theorem eqN (g1 g2 d1 d2 c1 c2 : Nat) (w : World) (h1 : SAt w (some ⟨g1, 0, none⟩) zFs (some ⟨d1, 0, none⟩) zDk6) (h2 : SAt w (some ⟨g2, 0, none⟩) zFs (some ⟨d2, 0, none⟩) zDk6) :
    Calls Try.prog 21 #[.agg #[.slice (some ⟨g1, 0, none⟩) 4 c1, .slice (some ⟨d1, 0, none⟩) 6 6], .agg #[.slice (some ⟨g2, 0, none⟩) 4 c2, .slice (some ⟨d2, 0, none⟩) 6 6]] w fun e w' => e = .returned (.bool true) ∧ Below w.heap.size w w' :=
  eqStore_any _ _ _ _ c1 c2 6 6 zFs zDk6 w h1 h2 (by decide) (by decide) (by decide)

set_option maxRecDepth 100000 in
set_option maxHeartbeats 2000000 in
theorem walk (w : World) : Calls Try.prog 3 #[] w fun e w' => e = .returned (.bool true) ∧ Below w.heap.size w w' := by
  have HSN := hide specNew_any
  have HIN := hide implNew_any
  go_enter Try.func3, Try.ntmps3
  go_wp2_with fail
  refine (unhide HSN _).mono ?_
  rintro e w1 ⟨g1, G1, d1, c1, rfl, o1, b1⟩
  have bA : Below w1.heap.size w1 (w1.alloc (.cells #[.slice (some ⟨g1, 0, none⟩) 4 c1, .slice (some ⟨d1, 0, none⟩) 6 6] 25)) := (Below.refl _ _).alloc (Nat.le_refl _) _
  have cA := store_box w1 (.slice (some ⟨g1, 0, none⟩) 4 c1) (.slice (some ⟨d1, 0, none⟩) 6 6)
  have S1 := o1.below bA (Nat.le_refl _)
  have B1 := b1.trans (bA.mono b1.size)
  have sA : (w1.alloc (.cells #[.slice (some ⟨g1, 0, none⟩) 4 c1, .slice (some ⟨d1, 0, none⟩) 6 6] 25)).heap.size = w1.heap.size + 1 := by simp
  clear o1 b1 bA
  go_wp2_with fail
  generalize w1.alloc (.cells #[.slice (some ⟨g1, 0, none⟩) 4 c1, .slice (some ⟨d1, 0, none⟩) 6 6] 25) = wA at *
  generalize w1.heap.size = A at *
  refine (unhide HIN _).mono ?_
  rintro e w2 ⟨g2, G2, d2, c2, rfl, o2, b2⟩
  have q2 := b2.size
  have bB : Below w2.heap.size w2 (w2.alloc (.cells #[.slice (some ⟨g2, 0, none⟩) 4 c2, .slice (some ⟨d2, 0, none⟩) 6 6] 25)) := (Below.refl _ _).alloc (Nat.le_refl _) _
  have cB := store_box w2 (.slice (some ⟨g2, 0, none⟩) 4 c2) (.slice (some ⟨d2, 0, none⟩) 6 6)
  have S2 := o2.below bB (Nat.le_refl _)
  have B2 := b2.trans (bB.mono b2.size)
  have sB : (w2.alloc (.cells #[.slice (some ⟨g2, 0, none⟩) 4 c2, .slice (some ⟨d2, 0, none⟩) 6 6] 25)).heap.size = w2.heap.size + 1 := by simp
  have hi2 : ∀ x ∈ d2 :: g2 :: G2, x < w2.heap.size := fun x hx => by
    rcases List.mem_cons.1 hx with rfl | hx
    · exact o2.dhi
    · exact o2.own.hi x hx
  clear o2 b2 bB
  have a0 := (cA.below B2 (by omega)).cell 0 _ rfl
  have a1 := (cA.below B2 (by omega)).cell 1 _ rfl
  have e0 := cB.cell 0 _ rfl
  have e1 := cB.cell 1 _ rfl
  go_wp2_with fail
  generalize w2.alloc (.cells #[.slice (some ⟨g2, 0, none⟩) 4 c2, .slice (some ⟨d2, 0, none⟩) 6 6] 25) = w3 at *
  generalize w2.heap.size = B at *
  refine (eqN _ _ _ _ _ _ _ S2.sat (S1.below B2 (Nat.le_refl _)).sat).mono ?_
  rintro e w4 ⟨rfl, b4⟩
  have q4 := b4.size
  have cB4 := cB.below b4 (by omega)
  have S24 := S2.below b4 (Nat.le_refl _)
  have B4 := B2.trans (b4.mono B2.size)
  clear a0 a1 e0 e1 S2 cB b4 B2
  have e0 := cB4.cell 0 _ rfl
  have e1 := cB4.cell 1 _ rfl
  go_wp2_with fail
  refine (markN_any wA.heap.size g2 d2 c2 6 G2 w4 (by omega) S24).mono ?_
  rintro e w5 ⟨rfl, S25, y5, b5⟩
  have q5 := y5.size
  have hBn : B ∉ d2 :: g2 :: G2 := fun hm => by have := hi2 _ hm; omega
  have cB5 : CsAt w5 B [.slice (some ⟨g2, 0, none⟩) 4 c2, .slice (some ⟨d2, 0, none⟩) 6 6] := ⟨fun j v hv => by rw [y5.cell B _ (by omega) hBn]; exact cB4.cells j v hv, fun j hj => by rw [y5.cell B _ (by omega) hBn, y5.frozen B _ (by omega) hBn]; exact cB4.free j hj⟩
  have B5 := B4.trans b5
  clear e0 e1 cB4 S24 y5 b5 B4
  have e0 := cB5.cell 0 _ rfl
  have e1 := cB5.cell 1 _ rfl
  go_wp2_with fail
  refine (heldN_any _ g2 d2 c2 6 G2 w5 S25).mono ?_
  rintro e w6 ⟨rfl, b6⟩
  have q6 := b6.size
  have cB6 := cB5.below b6 (by omega)
  have S26 := S25.below b6 (Nat.le_refl _)
  have B6 := B5.trans (b6.mono B5.size)
  clear e0 e1 cB5 S25 b6 B5
  go_wp2_with fail
  refine (unhide HIN _).mono ?_
  rintro e w7 ⟨g3, G3, d3, c3, rfl, o7, b7⟩
  have bC : Below w7.heap.size w7 (w7.alloc (.cells #[.slice (some ⟨g3, 0, none⟩) 4 c3, .slice (some ⟨d3, 0, none⟩) 6 6] 25)) := (Below.refl _ _).alloc (Nat.le_refl _) _
  have cC := store_box w7 (.slice (some ⟨g3, 0, none⟩) 4 c3) (.slice (some ⟨d3, 0, none⟩) 6 6)
  have q7 := b7.size
  have S3 := o7.below bC (Nat.le_refl _)
  have b78 := b7.trans (bC.mono b7.size)
  have cB8 := cB6.below b78 (by omega)
  have S28 := S26.below b78 (Nat.le_refl _)
  have B8 := B6.trans (b78.mono B6.size)
  clear cB6 S26 B6 b7 bC b78 o7
  have a0 := (cA.below B8 (by omega)).cell 0 _ rfl
  have a1 := (cA.below B8 (by omega)).cell 1 _ rfl
  have e0 := cC.cell 0 _ rfl
  have e1 := cC.cell 1 _ rfl
  have sC : (w7.alloc (.cells #[.slice (some ⟨g3, 0, none⟩) 4 c3, .slice (some ⟨d3, 0, none⟩) 6 6] 25)).heap.size = w7.heap.size + 1 := by simp
  go_wp2_with fail
  generalize w7.alloc (.cells #[.slice (some ⟨g3, 0, none⟩) 4 c3, .slice (some ⟨d3, 0, none⟩) 6 6] 25) = w8 at *
  generalize w7.heap.size = C at *
  refine (eqN _ _ _ _ _ _ _ S3.sat (S1.below B8 (Nat.le_refl _)).sat).mono ?_
  rintro e w9 ⟨rfl, b9⟩
  have cB9 := cB8.below b9 (by omega)
  have S29 := S28.below b9 (Nat.le_refl _)
  have B9 := B8.trans (b9.mono B8.size)
  clear a0 a1 e0 e1 S3 cC b9 B8 S28 cB8
  have e0 := cB9.cell 0 _ rfl
  have e1 := cB9.cell 1 _ rfl
  go_wp2_with fail
  refine (heldN_any _ g2 d2 c2 6 G2 w9 S29).mono ?_
  rintro e wa ⟨rfl, ba⟩
  have Ba := B1.trans ((B9.trans (ba.mono B9.size)).mono B1.size)
  clear e0 e1 cB9 S29 ba B9
  go_wp2
  go_ret
  exact ⟨rfl, Ba⟩


set_option maxRecDepth 100000 in
theorem lifted (os : Os) (started : os.Started) (H : Type) (enc : TypeId × Value → H) :
    ReturnsInHanded {} Try.checked os 3 .any (Rows.fnExactStoreNewSpec.pre6 enc Try.prog Try.f3 Rows.fnExactStoreNewRow.domain false) (Rows.fnExactStoreNewSpec.post enc Try.prog Try.f3 false true false false) := by
  refine returnsInHanded_of_change (C := Try.checked) own started (by kernel_rfl) Try.func3
    (ChangeSpec.witness6 (enc := enc) (C := Try.checked) false ⟨#[], #[], []⟩ 8 (by kernel_rfl) (by kernel_rfl) (by kernel_rfl) (by kernel_rfl)) ?_
  intro W base args ds gs before hval0 hW hcnd _
  have hval : ∀ (j : Nat) t v, Try.f3.params[j]? = some t → args[j]? = some v → Value.okWide Try.prog W .any base t v := hval0
  have hW' := hW
  obtain ⟨p, q, hA0, hV, rfl, hfz, hnd⟩ := hW
  have hA : DataW.TrodAll enc Try.prog W 0 (fun _ => true) true Try.f3.params.toList args.toList ds p := hA0
  rw [Try.params3] at hA hval
  obtain ⟨hargs, rfl, rfl⟩ := trodAll_nil hA
  obtain rfl : args = #[] := by cases args; simp_all
  obtain ⟨rfl, rfl⟩ := trodVars_none hV
  clear hA0
  refine (walk  W ).mono fun e W' ⟨he, bel⟩ => ?_
  subst he
  exact ⟨_, rfl, _, _, _, [], _, [], hW', trodAll_mk1 (shut_bool Try.underlying4 _), trodAll_mk0, rfl, bel.frame _, fun h => by cases h⟩

set_option maxRecDepth 100000 in
theorem facts : joinedFacts Try.prog 3 Try.f3 Rows.fnExactStoreNewSpec Rows.fnExactStoreNewRow = true := by
  unfold joinedFacts
  refine Facts.and_t ?_ (by as_aux_lemma => kernel_rfl)
  refine Facts.and_t ?_ (by as_aux_lemma => kernel_rfl)
  refine Facts.and_t ?_ (by as_aux_lemma => kernel_rfl)
  refine Facts.and_t ?_ (by as_aux_lemma => kernel_rfl)
  refine Facts.and_t ?_ (by show (Try.prog.make == some Make.cut) = true; rw [Facts.made]; rfl)
  refine Facts.and_t ?_ (by show (false == Try.prog.liftsFinal) = true; rw [Facts.lifts]; rfl)
  refine Facts.and_t ?_ (Facts.enters)
  refine Facts.and_t ?_ (Facts.heard)
  refine Facts.and_t ?_ (rfl)
  refine Facts.and_t ?_ (by show (true == Try.prog.plainKeys) = true; rw [Facts.keys]; rfl)
  refine Facts.and_t ?_ (by as_aux_lemma => kernel_rfl)
  refine Facts.and_t ?_ (by as_aux_lemma => kernel_rfl)
  refine Facts.and_t ?_ (by as_aux_lemma => kernel_rfl)
  refine Facts.and_t ?_ (by as_aux_lemma => kernel_rfl)
  refine Facts.and_t ?_ (by as_aux_lemma => kernel_rfl)
  refine Facts.and_t ?_ (by as_aux_lemma => kernel_rfl)
  refine Facts.and_t ?_ (by as_aux_lemma => kernel_rfl)
  refine Facts.and_t ?_ (by as_aux_lemma => kernel_rfl)
  refine Facts.and_t ?_ (by as_aux_lemma => kernel_rfl)
  refine Facts.and_t ?_ (by as_aux_lemma => kernel_rfl)
  refine Facts.and_t ?_ (by as_aux_lemma => kernel_rfl)
  refine Facts.and_t ?_ (by as_aux_lemma => kernel_rfl)
  refine Facts.and_t ?_ (by as_aux_lemma => kernel_rfl)
  refine Facts.and_t ?_ (by as_aux_lemma => kernel_rfl)
  refine Facts.and_t ?_ (by as_aux_lemma => kernel_rfl)
  refine Facts.and_t ?_ (by as_aux_lemma => kernel_rfl)
  refine Facts.and_t ?_ (by as_aux_lemma => kernel_rfl)
  refine Facts.and_t ?_ (by as_aux_lemma => kernel_rfl)
  refine Facts.and_t ?_ (by as_aux_lemma => kernel_rfl)
  refine Facts.and_t ?_ (Facts.rowed)
  refine Facts.and_t ?_ (Facts.laidOut)
  kernel_rfl

theorem over : Rows.fnExactStoreNewRow.holds Try.pinned (OpenSpec.ofChange Rows.fnExactStoreNewSpec) :=
  OpenClaim.holds_of_wide 3 Try.f3 rfl rfl rfl rfl rfl rfl rfl ⟨rfl, rfl, rfl, rfl, rfl⟩ rfl rfl rfl rfl rfl (by kernel_rfl) Try.func3 facts
    (of_decide_eq_true (by kernel_rfl)) (by unfold Func.isWrapper; first | (rw [if_pos (by decide +kernel)]; kernel_rfl) | (rw [if_neg (by decide +kernel)]; exact ⟨rfl, rfl⟩))
    (fun os started H enc _ => lifted os started H enc)

end Go.Proofs.Ytahloklmogkaeaa.ExactStoreNew
namespace Go.Proofs.Ytahloklmogkaeaa
theorem fnExactStoreNew_holds : Rows.FnExactStoreNewSaid := ExactStoreNew.over
end Go.Proofs.Ytahloklmogkaeaa
