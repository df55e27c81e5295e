/-
  At every list of blocks the program's FindNext answers as the specification's, and leaves its argument as it was: the given statement, with no condition.
-/
import Derived.Test.YtcmklcfedeeahaaOpenF
import Derived.Test.YtcmklcfedeeahaaFacts
import Derived.Test.YtcmklcfedeeahaaFindN
namespace Go.Proofs.Ytcmklcfedeeahaa.ExactFindNext
open Go.ChangeShapes Go.WideShapes Go.ChangeAt Go.RowKit Go.Joins OkA Big Fl ImplB ImplF ImplS _root_.Go.Proofs.Ytcmklcfedeeahaa.Own ImplT ImplU SpecA SpecB LawsA LawsB LawsE OpenF SpecF FindN
open Facts (own laidOut)
set_option linter.unusedVariables false

set_option maxHeartbeats 1000000 in
theorem walk (a0 : Option Addr) (cap0 : Nat) (z0 : List Bk) (w : World) (h0 : FsAt w a0 z0) (fit : Fit z0) :
    Calls Try.prog 18 #[.slice a0 z0.length cap0] w fun e w' => e = .returned (.bool true) ∧ Below w.heap.size w w' := by
  have HF := hide h0
  have HS := hide (szBlockS_any a0 cap0 z0 w h0 fit)
  clear h0
  go_enter Try.func18, Try.ntmps18
  go_wp2_with fail
  refine (unhide HS).mono ?_
  rintro e w1 ⟨r, rfl, r0, r1, hr, b1⟩
  by_cases hneg : r < 0
  · clear hr
    go_wp2
    go_ret
    exact ⟨rfl, b1⟩
  obtain ⟨hl, hp⟩ := hr (by omega)
  have HP := hide hp
  clear hr hp
  go_wp2_with fail
  refine (toBlockS_any a0 cap0 z0 _ ((unhide HF).below b1) hl (unhide HP)).mono ?_
  rintro e w2 ⟨g, G, rfl, o2, b2⟩
  go_wp2_with fail
  refine (specNext_any _ _ z0 _ o2.fs hl (unhide HP)).mono ?_
  rintro e w3 ⟨rfl, b3⟩
  have B3 := b1.trans ((b2.mono b1.size).trans (b3.mono (b1.trans (b2.mono b1.size)).size))
  clear b1 b2 b3 o2
  go_wp2_with fail
  refine (toBlockS_any a0 cap0 z0 _ ((unhide HF).below B3) hl (unhide HP)).mono ?_
  rintro e w4 ⟨g', G', rfl, o4, b4⟩
  go_wp2_with fail
  refine (implNext_any _ _ z0 _ o4.fs (by omega)).mono ?_
  rintro e w5 ⟨rfl, b5⟩
  have o5 := o4.below b5 (Nat.le_refl _)
  have B5 := B3.trans ((b4.mono B3.size).trans (b5.mono (B3.trans (b4.mono B3.size)).size))
  clear B3 b4 b5 o4
  go_wp2_with fail
  refine (toBlockS_any a0 cap0 z0 _ ((unhide HF).below B5) hl (unhide HP)).mono ?_
  rintro e w6 ⟨g6, G6, rfl, o6, b6⟩
  have o7 := o5.below b6 (Nat.le_refl _)
  have B6 := B5.trans (b6.mono B5.size)
  clear B5 b6 o5
  go_wp2_with fail
  refine (eqBlockS_any _ _ _ _ z0 _ o7.fs o6.fs hl (unhide HP)).mono ?_
  rintro e w7 ⟨rfl, b7⟩
  have B7 := B6.trans (b7.mono B6.size)
  clear B6 b7 o6 o7
  go_wp2
  go_ret
  exact ⟨rfl, B7⟩


set_option maxRecDepth 100000 in
theorem lifted (os : Os) (started : os.Started) (H : Type) (enc : TypeId × Value → H) :
    ReturnsInHanded {} Try.checked os 18 .any (Rows.fnExactFindNextSpec.pre6 enc Try.prog Try.f18 Rows.fnExactFindNextRow.domain false) (Rows.fnExactFindNextSpec.post enc Try.prog Try.f18 false true false false) := by
  refine returnsInHanded_of_change (C := Try.checked) own started (by kernel_rfl) Try.func18
    (ChangeSpec.witness6 (enc := enc) (C := Try.checked) false ⟨#[], #[.slice none 0 0], []⟩ 8 (by kernel_rfl) (by kernel_rfl) (by kernel_rfl) (by kernel_rfl)) ?_
  intro W base args ds gs before hval0 hW hcnd _
  have hval : ∀ (j : Nat) t v, Try.f18.params[j]? = some t → args[j]? = some v → Value.okWide Try.prog W .any base t v := hval0
  have hW' := hW
  obtain ⟨p, q, hA0, hV, rfl, hfz, hnd⟩ := hW
  have hA : DataW.TrodAll enc Try.prog W 0 (fun _ => true) true Try.f18.params.toList args.toList ds p := hA0
  rw [Try.params18] at hA hval
  obtain ⟨v0, vs0, d0, ds0, p0, q0, hargs, rfl, rfl, h0, r0⟩ := trodAll_cons hA
  obtain ⟨rfl, rfl, rfl⟩ := trodAll_nil r0
  obtain rfl : args = #[v0] := by cases args; simp_all
  obtain ⟨rfl, rfl⟩ := trodVars_none hV
  have kk0 := h0
  have lt0 : ∀ x ∈ p0, x.block < W.heap.size := by obtain ⟨m, hm⟩ := kk0; exact DataW.trod_lt m _ _ _ hm
  obtain ⟨a0, len0, cap0, rfl⟩ := okWide_slice Try.underlying30 (hval 0 30 v0 rfl rfl)
  obtain ⟨z0, hz0, w0, fit0⟩ : ∃ z : List Bk, len0 = z.length ∧ FsAt W a0 z ∧ Fit z := by
    obtain ⟨fuel, hf⟩ := h0
    obtain ⟨a', z, cap', e, hz, fit⟩ := open_flash (V := .slice a0 len0 cap0) (by simpa [Value.cells] using hf)
    simp at e
    obtain ⟨rfl, rfl, rfl⟩ := e
    exact ⟨z, rfl, hz, fit⟩
  subst hz0
  clear hA0
  refine (walk a0 cap0 z0 W w0 fit0).mono fun e W' ⟨he, bel⟩ => ?_
  subst he
  exact ⟨_, rfl, _, _, _, [], _, [], hW', trodAll_mk1 (shut_bool Try.underlying4 _), (trodAll_cons_mk (Below.trod laidOut (by kernel_rfl) (of_decide_eq_true (by kernel_rfl)) kk0 bel lt0) trodAll_mk0), rfl, bel.frame _, fun h => by cases h⟩

set_option maxRecDepth 100000 in
theorem facts : joinedFacts Try.prog 18 Try.f18 Rows.fnExactFindNextSpec Rows.fnExactFindNextRow = true := by
  unfold joinedFacts
  refine Facts.and_t ?_ (by as_aux_lemma => kernel_rfl)
  refine Facts.and_t ?_ (by as_aux_lemma => kernel_rfl)
  refine Facts.and_t ?_ (by as_aux_lemma => kernel_rfl)
  refine Facts.and_t ?_ (by as_aux_lemma => kernel_rfl)
  refine Facts.and_t ?_ (by show (Try.prog.make == some Make.cut) = true; rw [Facts.made]; rfl)
  refine Facts.and_t ?_ (by show (false == Try.prog.liftsFinal) = true; rw [Facts.lifts]; rfl)
  refine Facts.and_t ?_ (Facts.enters)
  refine Facts.and_t ?_ (Facts.heard)
  refine Facts.and_t ?_ (rfl)
  refine Facts.and_t ?_ (by show (true == Try.prog.plainKeys) = true; rw [Facts.keys]; rfl)
  refine Facts.and_t ?_ (by as_aux_lemma => kernel_rfl)
  refine Facts.and_t ?_ (by as_aux_lemma => kernel_rfl)
  refine Facts.and_t ?_ (by as_aux_lemma => kernel_rfl)
  refine Facts.and_t ?_ (by as_aux_lemma => kernel_rfl)
  refine Facts.and_t ?_ (by as_aux_lemma => kernel_rfl)
  refine Facts.and_t ?_ (by as_aux_lemma => kernel_rfl)
  refine Facts.and_t ?_ (by as_aux_lemma => kernel_rfl)
  refine Facts.and_t ?_ (by as_aux_lemma => kernel_rfl)
  refine Facts.and_t ?_ (by as_aux_lemma => kernel_rfl)
  refine Facts.and_t ?_ (by as_aux_lemma => kernel_rfl)
  refine Facts.and_t ?_ (by as_aux_lemma => kernel_rfl)
  refine Facts.and_t ?_ (by as_aux_lemma => kernel_rfl)
  refine Facts.and_t ?_ (by as_aux_lemma => kernel_rfl)
  refine Facts.and_t ?_ (by as_aux_lemma => kernel_rfl)
  refine Facts.and_t ?_ (by as_aux_lemma => kernel_rfl)
  refine Facts.and_t ?_ (by as_aux_lemma => kernel_rfl)
  refine Facts.and_t ?_ (by as_aux_lemma => kernel_rfl)
  refine Facts.and_t ?_ (by as_aux_lemma => kernel_rfl)
  refine Facts.and_t ?_ (by as_aux_lemma => kernel_rfl)
  refine Facts.and_t ?_ (Facts.rowed)
  refine Facts.and_t ?_ (Facts.laidOut)
  kernel_rfl

theorem over : Rows.fnExactFindNextRow.holds Try.pinned (OpenSpec.ofChange Rows.fnExactFindNextSpec) :=
  OpenClaim.holds_of_wide 18 Try.f18 rfl rfl rfl rfl rfl rfl rfl ⟨rfl, rfl, rfl, rfl, rfl⟩ rfl rfl rfl rfl rfl (by kernel_rfl) Try.func18 facts
    (of_decide_eq_true (by kernel_rfl)) (by unfold Func.isWrapper; first | (rw [if_pos (by decide +kernel)]; kernel_rfl) | (rw [if_neg (by decide +kernel)]; exact ⟨rfl, rfl⟩))
    (fun os started H enc _ => lifted os started H enc)
end Go.Proofs.Ytcmklcfedeeahaa.ExactFindNext
namespace Go.Proofs.Ytcmklcfedeeahaa
theorem fnExactFindNext_holds : Rows.FnExactFindNextSaid := ExactFindNext.over
end Go.Proofs.Ytcmklcfedeeahaa
