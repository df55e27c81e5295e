/-
  At every store the program's StoreOk answers as the specification's, and leaves its argument as it was: the given statement, with no condition.
-/
import Derived.Test.YtcmklcfedeeahaaQ20

namespace Go.Proofs.Ytcmklcfedeeahaa.ExactStoreOk
open Go.ChangeShapes Go.WideShapes Go.ChangeAt Go.RowKit Go.Shelf Go.Joins OkA Big Fl ImplB ImplF ImplS _root_.Go.Proofs.Ytcmklcfedeeahaa.Own ImplT ImplU SpecA SpecB SpecC SpecD SpecW Ok2 Pl ImplL Kp StA StB StD StF StG SpS SpT LawsA LawsB LawsE LawV LawI LawS LawT OpenF ExS
open Facts (own laidOut)
set_option linter.unusedVariables false
attribute [local go_sem ↓] Go.wp_at_zero Go.wp_at_succ

set_option maxRecDepth 100000 in
set_option maxHeartbeats 2000000 in
theorem walk (fa0 : Option Addr) (fc0 : Nat) (z0 : List Bk) (da0 : Option Addr) (dc0 : Nat) (dk0 : List Int) (w : World) (h0 : SAt w fa0 z0 da0 dk0) (fit : FitS z0 dk0) :
    Calls Try.prog 4 #[.agg #[.slice fa0 z0.length fc0, .slice da0 dk0.length dc0]] w fun e w' => e = .returned (.bool true) ∧ Below w.heap.size w w' := by
  have B0 : Below w.heap.size w (w.alloc (.cells #[.slice fa0 z0.length fc0, .slice da0 dk0.length dc0] 32)) := (Below.refl _ _).alloc (Nat.le_refl _) _
  have cA := CsAt.new w [.slice fa0 z0.length fc0, .slice da0 dk0.length dc0] 32
  have s0 : w.heap.size < (w.alloc (.cells #[.slice fa0 z0.length fc0, .slice da0 dk0.length dc0] 32)).heap.size := by simp
  have HW := hide h0
  have HS := hide (szStore_any fa0 fc0 z0 da0 dc0 dk0 _ (h0.below B0) fit)
  have x0 := cA.cell 0 _ rfl
  have x1 := cA.cell 1 _ rfl
  clear h0
  go_enter Try.func4, Try.ntmps4
  go_wp2_with fail
  generalize w.alloc (.cells #[.slice fa0 z0.length fc0, .slice da0 dk0.length dc0] 32) = w0 at *
  refine (unhide HS).mono ?_
  rintro e w1 ⟨r, rfl, r0, r1, hr, b1⟩
  have cA1 := cA.below b1 s0
  have B1 := B0.trans (b1.mono B0.size)
  have s1 := Nat.lt_of_lt_of_le s0 b1.size
  clear x0 x1 cA B0 b1 s0 HS
  by_cases hneg : r < 0
  · clear hr
    go_wp2
    go_ret
    exact ⟨rfl, B1⟩
  obtain ⟨hl, hp, hd⟩ := hr (by omega)
  have HP := hide hp
  clear hr hp
  have x0 := cA1.cell 0 _ rfl
  have x1 := cA1.cell 1 _ rfl
  go_wp2_with fail
  refine (toStore_any fa0 fc0 z0 da0 dc0 dk0 _ ((unhide HW).below B1) hl (unhide HP) hd).mono ?_
  rintro e w2 ⟨g, G, d, rfl, o2, b2⟩
  clear x0 x1
  go_wp2_with fail
  refine (specOk_st _ _ z0 _ _ dk0 _ o2.sat hl (unhide HP) hd).mono ?_
  rintro e w3 ⟨rfl, b3⟩
  have b13 := b2.trans (b3.mono b2.size)
  have cA3 := cA1.below b13 s1
  have B3 := B1.trans (b13.mono B1.size)
  have s3 := Nat.lt_of_lt_of_le s1 b13.size
  clear b2 b3 o2 cA1 B1 s1 b13
  have HIM := hide (fun (a : Option Addr) (c : Nat) (b : Option Addr) (e : Nat) (w' : World) (h : SAt w' a z0 b dk0) => ok2 a c z0 b e dk0 w' h hl hd)
  generalize stB z0 dk0 = R at *
  have hRR : (R != R) = false := by simp
  have x0 := cA3.cell 0 _ rfl
  have x1 := cA3.cell 1 _ rfl
  go_wp2_with fail
  refine (toStore_any fa0 fc0 z0 da0 dc0 dk0 _ ((unhide HW).below B3) hl (unhide HP) hd).mono ?_
  rintro e w4 ⟨g4, G4, d4, rfl, o4, b4⟩
  have cA4 := cA3.below b4 s3
  have B4 := B3.trans (b4.mono B3.size)
  have s4 := Nat.lt_of_lt_of_le s3 b4.size
  have q34 := b4.size
  have bX : Below w4.heap.size w4 (w4.alloc (.cells #[.slice (some ⟨g4, 0, none⟩) z0.length z0.length, .slice (some ⟨d4, 0, none⟩) dk0.length dk0.length] 25)) := (Below.refl _ _).alloc (Nat.le_refl _) _
  have cX := store_box w4 (.slice (some ⟨g4, 0, none⟩) z0.length z0.length) (.slice (some ⟨d4, 0, none⟩) dk0.length dk0.length)
  have o5 := o4.below bX (Nat.le_refl _)
  have cA5 := cA4.below bX s4
  have B5 := B4.trans (bX.mono B4.size)
  have s5 : (w4.alloc (.cells #[.slice (some ⟨g4, 0, none⟩) z0.length z0.length, .slice (some ⟨d4, 0, none⟩) dk0.length dk0.length] 25)).heap.size = w4.heap.size + 1 := by simp
  have hi4 : ∀ x ∈ d4 :: g4 :: G4, w3.heap.size ≤ x ∧ x < w4.heap.size := fun x hx => by
    rcases List.mem_cons.1 hx with rfl | hx
    · exact ⟨o4.dlo, o4.dhi⟩
    · exact ⟨o4.own.lo x hx, o4.own.hi x hx⟩
  clear x0 x1 cA3 cA4 B3 B4 o4 b4 s3 bX
  have x0 := cX.cell 0 _ rfl
  have x1 := cX.cell 1 _ rfl
  go_wp2_with fail
  generalize w4.alloc (.cells #[.slice (some ⟨g4, 0, none⟩) z0.length z0.length, .slice (some ⟨d4, 0, none⟩) dk0.length dk0.length] 25) = w5 at *
  generalize w4.heap.size = X at *
  refine (unhide HIM _ _ _ _ _ o5.sat).mono ?_
  rintro e w6 ⟨rfl, b6⟩
  have q6 := b6.size
  have cX6 := cX.below b6 (by omega)
  have cA6 := cA5.below b6 (by omega)
  have o6 := o5.below b6 (Nat.le_refl _)
  have B6 := B5.trans (b6.mono B5.size)
  clear x0 x1 cX cA5 o5 B5 b6 HIM
  go_wp2
  refine wp_region_noPanic ?_
  refine wp_region_held_drew (S := fun w' => Below w6.heap.size w6 w') (by kernel_rfl) ((Below.refl _ _).drew) (fun hHeld => ?_)
  refine takeL 0 (.agg #[.slice (some ⟨g4, 0, none⟩) z0.length z0.length, .slice (some ⟨d4, 0, none⟩) dk0.length dk0.length]) rfl (by kernel_rfl) (by kernel_rfl) (by kernel_rfl) (fun _ _ _ h => h) (Or.inl ⟨rfl, fun w9 hSw => by have hx0 := (cX6.below hSw (by omega)).cell 0 _ rfl; have hx1 := (cX6.below hSw (by omega)).cell 1 _ rfl; go_simp⟩) hHeld ?_
  try simp only [Act.put, List.setIfInBounds_toArray, List.set_cons_zero, List.set_cons_succ]
  refine takeL 1 (.agg #[.slice fa0 z0.length fc0, .slice da0 dk0.length dc0]) rfl (by kernel_rfl) (by kernel_rfl) (by kernel_rfl) (fun _ _ _ h => h) (Or.inl ⟨rfl, fun w9 hSw => by have hx0 := (cA6.below hSw (by omega)).cell 0 _ rfl; have hx1 := (cA6.below hSw (by omega)).cell 1 _ rfl; go_simp⟩) hHeld ?_
  try simp only [Act.put, List.setIfInBounds_toArray, List.set_cons_zero, List.set_cons_succ]
  refine oneL 2 rfl (by kernel_rfl) rfl (fun K hK => ?_)
  go_simp
  refine (toStore_any fa0 fc0 z0 da0 dc0 dk0 _ ((unhide HW).below B6.drew) hl (unhide HP) hd).mono ?_
  rintro e w7 ⟨g7, G7, d7, rfl, o7, b7⟩
  go_wp2_with fail
  have b67 : Below w6.heap.size w6 w7 := hHeld.trans b7
  refine hK.out _ _ b67 (fun hHeld => ?_)
  clear hK K
  try simp only [Act.put, List.setIfInBounds_toArray, List.set_cons_zero, List.set_cons_succ]
  refine oneL 3 rfl (by kernel_rfl) rfl (fun K hK => ?_)
  go_simp
  refine (eqStore_any _ _ _ _ _ _ _ _ z0 dk0 _ (o6.below b67 (Nat.le_refl _)).sat o7.sat hl (unhide HP) hd).mono ?_
  rintro e w8 ⟨rfl, b8⟩
  go_wp2_with fail
  have b68 : Below w6.heap.size w6 w8 := b67.trans (b8.mono b67.size)
  refine hK.out _ _ b68 (fun hHeld => ?_)
  clear hK K
  try simp only [Act.put, List.setIfInBounds_toArray, List.set_cons_zero, List.set_cons_succ]
  refine takeL 4 (.bool false) rfl (by kernel_rfl) (by kernel_rfl) (by kernel_rfl) (fun _ _ _ h => h) (Or.inl ⟨rfl, fun w9 hSw => by go_simp⟩) hHeld ?_
  try simp only [Act.put, List.setIfInBounds_toArray, List.set_cons_zero, List.set_cons_succ]
  refine wpAnyH_done (by kernel_rfl) ?_ _
  refine NoPanic.normal ?_
  have B8 := B6.trans (b68.mono B6.size)
  clear hHeld b67 b68 b7 b8 o6 o7 cX6 cA6 B6
  go_wp2
  go_ret
  exact ⟨rfl, B8⟩


set_option maxRecDepth 100000 in
theorem lifted (os : Os) (started : os.Started) (H : Type) (enc : TypeId × Value → H) :
    ReturnsInHanded {} Try.checked os 4 .any (Rows.fnExactStoreOkSpec.pre6 enc Try.prog Try.f4 Rows.fnExactStoreOkRow.domain false) (Rows.fnExactStoreOkSpec.post enc Try.prog Try.f4 false true false false) := by
  refine returnsInHanded_of_change (C := Try.checked) own started (by kernel_rfl) Try.func4
    (ChangeSpec.witness6 (enc := enc) (C := Try.checked) false ⟨#[], #[.agg #[.slice none 0 0, .slice none 0 0]], []⟩ 8 (by kernel_rfl) (by kernel_rfl) (by kernel_rfl) (by kernel_rfl)) ?_
  intro W base args ds gs before hval0 hW hcnd _
  have hval : ∀ (j : Nat) t v, Try.f4.params[j]? = some t → args[j]? = some v → Value.okWide Try.prog W .any base t v := hval0
  have hW' := hW
  obtain ⟨p, q, hA0, hV, rfl, hfz, hnd⟩ := hW
  have hA : DataW.TrodAll enc Try.prog W 0 (fun _ => true) true Try.f4.params.toList args.toList ds p := hA0
  rw [Try.params4] at hA hval
  obtain ⟨v0, vs0, d0, ds0, p0, q0, hargs, rfl, rfl, h0, r0⟩ := trodAll_cons hA
  obtain ⟨rfl, rfl, rfl⟩ := trodAll_nil r0
  obtain rfl : args = #[v0] := by cases args; simp_all
  obtain ⟨rfl, rfl⟩ := trodVars_none hV
  have kk0 := h0
  have lt0 : ∀ x ∈ p0, x.block < W.heap.size := by obtain ⟨m, hm⟩ := kk0; exact DataW.trod_lt m _ _ _ hm
  obtain ⟨fa0, fc0, z0, da0, dc0, dk0, rfl, w0, fit0⟩ : ∃ fa fc z da dc dk, v0 = .agg #[.slice fa (z : List Bk).length fc, .slice da (dk : List Int).length dc] ∧ SAt W fa z da dk ∧ FitS z dk := by
    obtain ⟨c0, c1, y0, y1, n, rfl, _, _, g0, g1⟩ := open_agg2 Try.underlying32 (by kernel_rfl) (show Try.prog.cellsOf 32 = 2 by kernel_rfl) (hval 0 32 v0 rfl rfl) h0
    obtain ⟨fa, z, fc, e0, hz, fit⟩ := open_flash g0
    obtain ⟨da, dk, dc, e1, hd, hle⟩ := open_intS g1
    subst e0 e1
    exact ⟨fa, fc, z, da, dc, dk, rfl, ⟨hz, hd⟩, fit, by omega⟩
  clear hA0
  refine (walk fa0 fc0 z0 da0 dc0 dk0 W w0 fit0).mono fun e W' ⟨he, bel⟩ => ?_
  subst he
  exact ⟨_, rfl, _, _, _, [], _, [], hW', trodAll_mk1 (shut_bool Try.underlying4 _), (trodAll_cons_mk (Below.trod laidOut (by kernel_rfl) (of_decide_eq_true (by kernel_rfl)) kk0 bel lt0) trodAll_mk0), rfl, bel.frame _, fun h => by cases h⟩

set_option maxRecDepth 100000 in
theorem facts : joinedFacts Try.prog 4 Try.f4 Rows.fnExactStoreOkSpec Rows.fnExactStoreOkRow = true := by
  unfold joinedFacts
  refine Facts.and_t ?_ (by as_aux_lemma => kernel_rfl)
  refine Facts.and_t ?_ (by as_aux_lemma => kernel_rfl)
  refine Facts.and_t ?_ (by as_aux_lemma => kernel_rfl)
  refine Facts.and_t ?_ (by as_aux_lemma => kernel_rfl)
  refine Facts.and_t ?_ (by show (Try.prog.make == some Make.cut) = true; rw [Facts.made]; rfl)
  refine Facts.and_t ?_ (by show (false == Try.prog.liftsFinal) = true; rw [Facts.lifts]; rfl)
  refine Facts.and_t ?_ (Facts.enters)
  refine Facts.and_t ?_ (Facts.heard)
  refine Facts.and_t ?_ (rfl)
  refine Facts.and_t ?_ (by show (true == Try.prog.plainKeys) = true; rw [Facts.keys]; rfl)
  refine Facts.and_t ?_ (by as_aux_lemma => kernel_rfl)
  refine Facts.and_t ?_ (by as_aux_lemma => kernel_rfl)
  refine Facts.and_t ?_ (by as_aux_lemma => kernel_rfl)
  refine Facts.and_t ?_ (by as_aux_lemma => kernel_rfl)
  refine Facts.and_t ?_ (by as_aux_lemma => kernel_rfl)
  refine Facts.and_t ?_ (by as_aux_lemma => kernel_rfl)
  refine Facts.and_t ?_ (by as_aux_lemma => kernel_rfl)
  refine Facts.and_t ?_ (by as_aux_lemma => kernel_rfl)
  refine Facts.and_t ?_ (by as_aux_lemma => kernel_rfl)
  refine Facts.and_t ?_ (by as_aux_lemma => kernel_rfl)
  refine Facts.and_t ?_ (by as_aux_lemma => kernel_rfl)
  refine Facts.and_t ?_ (by as_aux_lemma => kernel_rfl)
  refine Facts.and_t ?_ (by as_aux_lemma => kernel_rfl)
  refine Facts.and_t ?_ (by as_aux_lemma => kernel_rfl)
  refine Facts.and_t ?_ (by as_aux_lemma => kernel_rfl)
  refine Facts.and_t ?_ (by as_aux_lemma => kernel_rfl)
  refine Facts.and_t ?_ (by as_aux_lemma => kernel_rfl)
  refine Facts.and_t ?_ (by as_aux_lemma => kernel_rfl)
  refine Facts.and_t ?_ (by as_aux_lemma => kernel_rfl)
  refine Facts.and_t ?_ (Facts.rowed)
  refine Facts.and_t ?_ (Facts.laidOut)
  kernel_rfl

theorem over : Rows.fnExactStoreOkRow.holds Try.pinned (OpenSpec.ofChange Rows.fnExactStoreOkSpec) :=
  OpenClaim.holds_of_wide 4 Try.f4 rfl rfl rfl rfl rfl rfl rfl ⟨rfl, rfl, rfl, rfl, rfl⟩ rfl rfl rfl rfl rfl (by kernel_rfl) Try.func4 facts
    (of_decide_eq_true (by kernel_rfl)) (by unfold Func.isWrapper; first | (rw [if_pos (by decide +kernel)]; kernel_rfl) | (rw [if_neg (by decide +kernel)]; exact ⟨rfl, rfl⟩))
    (fun os started H enc _ => lifted os started H enc)

end Go.Proofs.Ytcmklcfedeeahaa.ExactStoreOk
namespace Go.Proofs.Ytcmklcfedeeahaa
theorem fnExactStoreOk_holds : Rows.FnExactStoreOkSaid := ExactStoreOk.over
end Go.Proofs.Ytcmklcfedeeahaa
