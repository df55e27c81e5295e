/-
  At every list of blocks and every number the program's FindLast answers as the specification's, and leaves its argument as it was: the given statement, with no condition.
-/
import Derived.Test.YtdmmkmbobomeiaaOpenF
import Derived.Test.YtdmmkmbobomeiaaFacts
import Derived.Test.YtdmmkmbobomeiaaFindL
namespace Go.Proofs.Ytdmmkmbobomeiaa.ExactFindLast
open Go.ChangeShapes Go.WideShapes Go.ChangeAt Go.RowKit Go.Joins OkA Big Fl ImplB ImplF ImplS _root_.Go.Proofs.Ytdmmkmbobomeiaa.Own ImplT ImplU SpecA SpecB LawsA LawsB LawsE OpenF Pl ImplL FindL
open Facts (own laidOut)
set_option linter.unusedVariables false

set_option maxRecDepth 100000 in
set_option maxHeartbeats 1000000 in
theorem walk (a0 : Option Addr) (cap0 : Nat) (z0 : List Bk) (n1 : Int) (w : World) (h0 : FsAt w a0 z0) (fit : Fit z0) :
    Calls Try.prog 25 #[.slice a0 z0.length cap0, .int .i64 n1] w fun e w' => e = .returned (.bool true) ∧ Below w.heap.size w w' := by
  have HF := hide h0
  have HS := hide (szBlockS_any a0 cap0 z0 w h0 fit)
  clear h0
  go_enter Try.func25, Try.ntmps25
  go_wp2_with fail
  refine (unhide HS).mono ?_
  rintro e w1 ⟨r, rfl, r0, r1, hr, b1⟩
  by_cases hneg : r < 0
  · clear hr
    go_wp2
    go_ret
    exact ⟨rfl, b1⟩
  obtain ⟨hl, hp⟩ := hr (by omega)
  have HP := hide hp
  clear hr hp
  go_wp2_with fail
  refine (toBlockS_any a0 cap0 z0 _ ((unhide HF).below b1) hl (unhide HP)).mono ?_
  rintro e w2 ⟨g, G, rfl, o2, b2⟩
  go_wp2_with fail
  refine (specLast_any _ _ n1 z0 _ o2.fs hl (unhide HP)).mono ?_
  rintro e w3 ⟨rfl, b3⟩
  have B3 := b1.trans ((b2.mono b1.size).trans (b3.mono (b1.trans (b2.mono b1.size)).size))
  clear b1 b2 b3 o2
  have HIM := hide (fun (a : Option Addr) (cap : Nat) (w : World) (hf : FsAt w a z0) => implLast_any a cap n1 z0 w hf (by omega))
  generalize flR z0 n1 = q at *
  generalize flO z0 n1 = o at *
  rw [show (rcC q).toArray = #[.int .i64 q.k, .int .i64 q.s, .int .i64 q.a, .int .i64 q.v] from rfl] at *
  have B4 := B3.alloc B3.size (.cells #[.int .i64 q.k, .int .i64 q.s, .int .i64 q.a, .int .i64 q.v] 29)
  have c4 : CsAt (w3.alloc (.cells #[.int .i64 q.k, .int .i64 q.s, .int .i64 q.a, .int .i64 q.v] 29)) w3.heap.size (rcC q) := CsAt.new w3 (rcC q) 29
  have s4 : w3.heap.size < (w3.alloc (.cells #[.int .i64 q.k, .int .i64 q.s, .int .i64 q.a, .int .i64 q.v] 29)).heap.size := by simp
  clear B3
  go_wp2_with fail
  generalize w3.alloc (.cells #[.int .i64 q.k, .int .i64 q.s, .int .i64 q.a, .int .i64 q.v] 29) = w4 at *
  generalize w3.heap.size = ba at *
  refine (toBlockS_any a0 cap0 z0 _ ((unhide HF).below B4) hl (unhide HP)).mono ?_
  rintro e w5 ⟨g', G', rfl, o5, b5⟩
  have c5 := c4.below b5 s4
  have s5 := Nat.lt_of_lt_of_le s4 b5.size
  have B5 := B4.trans (b5.mono B4.size)
  clear B4 b5 c4 s4
  go_wp2_with fail
  refine (unhide HIM _ _ _ o5.fs).mono ?_
  rintro e w6 ⟨rfl, b6⟩
  have c6 := c5.below b6 s5
  have s6 := Nat.lt_of_lt_of_le s5 b6.size
  have o6 := o5.below b6 (Nat.le_refl _)
  have B6 := B5.trans (b6.mono B5.size)
  clear B5 b6 c5 s5 o5
  rw [show (rcC q).toArray = #[.int .i64 q.k, .int .i64 q.s, .int .i64 q.a, .int .i64 q.v] from rfl] at *
  have bn : Below w6.heap.size w6 (w6.alloc (.cells #[.int .i64 q.k, .int .i64 q.s, .int .i64 q.a, .int .i64 q.v] 29)) := (Below.refl _ _).alloc (Nat.le_refl _) _
  have c7 := c6.below bn s6
  have o7 := o6.below bn (Nat.le_refl _)
  have B7 := B6.trans (bn.mono B6.size)
  have d7 : CsAt (w6.alloc (.cells #[.int .i64 q.k, .int .i64 q.s, .int .i64 q.a, .int .i64 q.v] 29)) w6.heap.size (rcC q) := CsAt.new w6 (rcC q) 29
  clear bn B6 c6 s6 o6
  have x0 := c7.cell 0 _ rfl
  have x1 := c7.cell 1 _ rfl
  have x2 := c7.cell 2 _ rfl
  have x3 := c7.cell 3 _ rfl
  have hoo : (o != o) = false := by simp
  go_wp2_with fail
  generalize w6.alloc (.cells #[.int .i64 q.k, .int .i64 q.s, .int .i64 q.a, .int .i64 q.v] 29) = w7 at *
  refine (eqRec_any _ _ _ _ _).mono ?_
  rintro e w8 ⟨rfl, b8⟩
  have o8 := o7.below b8 (Nat.le_refl _)
  have B8 := B7.trans (b8.mono B7.size)
  clear b8 B7 o7 x0 x1 x2 x3 c7 d7
  go_wp2_with fail
  refine (toBlockS_any a0 cap0 z0 _ ((unhide HF).below B8) hl (unhide HP)).mono ?_
  rintro e w9 ⟨g9, G9, rfl, o9, b9⟩
  have oA := o8.below b9 (Nat.le_refl _)
  have B9 := B8.trans (b9.mono B8.size)
  clear B8 b9 o8
  go_wp2_with fail
  refine (eqBlockS_any _ _ _ _ z0 _ oA.fs o9.fs hl (unhide HP)).mono ?_
  rintro e wB ⟨rfl, bB⟩
  have BB := B9.trans (bB.mono B9.size)
  clear B9 bB o9 oA
  go_wp2
  go_ret
  exact ⟨rfl, BB⟩


set_option maxRecDepth 100000 in
theorem lifted (os : Os) (started : os.Started) (H : Type) (enc : TypeId × Value → H) :
    ReturnsInHanded {} Try.checked os 25 .any (Rows.fnExactFindLastSpec.pre6 enc Try.prog Try.f25 Rows.fnExactFindLastRow.domain false) (Rows.fnExactFindLastSpec.post enc Try.prog Try.f25 false true false false) := by
  refine returnsInHanded_of_change (C := Try.checked) own started (by kernel_rfl) Try.func25
    (ChangeSpec.witness6 (enc := enc) (C := Try.checked) false ⟨#[], #[.slice none 0 0, .int .i64 0], []⟩ 8 (by kernel_rfl) (by kernel_rfl) (by kernel_rfl) (by kernel_rfl)) ?_
  intro W base args ds gs before hval0 hW hcnd _
  have hval : ∀ (j : Nat) t v, Try.f25.params[j]? = some t → args[j]? = some v → Value.okWide Try.prog W .any base t v := hval0
  have hW' := hW
  obtain ⟨p, q, hA0, hV, rfl, hfz, hnd⟩ := hW
  have hA : DataW.TrodAll enc Try.prog W 0 (fun _ => true) true Try.f25.params.toList args.toList ds p := hA0
  rw [Try.params25] at hA hval
  obtain ⟨v0, vs0, d0, ds0, p0, q0, hargs, rfl, rfl, h0, r0⟩ := trodAll_cons hA
  obtain ⟨v1, vs1, d1, ds1, p1, q1, rfl, rfl, rfl, h1, r1⟩ := trodAll_cons r0
  obtain ⟨rfl, rfl, rfl⟩ := trodAll_nil r1
  obtain rfl : args = #[v0, v1] := by cases args; simp_all
  obtain ⟨rfl, rfl⟩ := trodVars_none hV
  have kk0 := h0
  have lt0 : ∀ x ∈ p0, x.block < W.heap.size := by obtain ⟨m, hm⟩ := kk0; exact DataW.trod_lt m _ _ _ hm
  obtain ⟨a0, len0, cap0, rfl⟩ := okWide_slice Try.underlying60 (hval 0 60 v0 rfl rfl)
  obtain ⟨z0, hz0, w0, fit0⟩ : ∃ z : List Bk, len0 = z.length ∧ FsAt W a0 z ∧ Fit z := by
    obtain ⟨fuel, hf⟩ := h0
    obtain ⟨a', z, cap', e, hz, fit⟩ := open_flash (V := .slice a0 len0 cap0) (by simpa [Value.cells] using hf)
    simp at e
    obtain ⟨rfl, rfl, rfl⟩ := e
    exact ⟨z, rfl, hz, fit⟩
  subst hz0
  have kk1 := h1
  have lt1 : ∀ x ∈ p1, x.block < W.heap.size := by obtain ⟨m, hm⟩ := kk1; exact DataW.trod_lt m _ _ _ hm
  obtain ⟨n1, rfl⟩ := okWide_int Try.underlying3 (hval 1 3 v1 rfl rfl)
  clear hA0
  refine (walk a0 cap0 z0 n1 W w0 fit0 ).mono fun e W' ⟨he, bel⟩ => ?_
  subst he
  exact ⟨_, rfl, _, _, _, [], _, [], hW', trodAll_mk1 (shut_bool Try.underlying4 _), (trodAll_cons_mk (Below.trod laidOut (by kernel_rfl) (of_decide_eq_true (by kernel_rfl)) kk0 bel lt0) (trodAll_cons_mk (Below.trod laidOut (by kernel_rfl) (of_decide_eq_true (by kernel_rfl)) kk1 bel lt1) trodAll_mk0)), rfl, bel.frame _, fun h => by cases h⟩

set_option maxRecDepth 100000 in
theorem facts : joinedFacts Try.prog 25 Try.f25 Rows.fnExactFindLastSpec Rows.fnExactFindLastRow = true := by
  unfold joinedFacts
  refine Facts.and_t ?_ (by as_aux_lemma => kernel_rfl)
  refine Facts.and_t ?_ (by as_aux_lemma => kernel_rfl)
  refine Facts.and_t ?_ (by as_aux_lemma => kernel_rfl)
  refine Facts.and_t ?_ (by as_aux_lemma => kernel_rfl)
  refine Facts.and_t ?_ (by show (Try.prog.make == some Make.cut) = true; rw [Facts.made]; rfl)
  refine Facts.and_t ?_ (by show (false == Try.prog.liftsFinal) = true; rw [Facts.lifts]; rfl)
  refine Facts.and_t ?_ (Facts.enters)
  refine Facts.and_t ?_ (Facts.heard)
  refine Facts.and_t ?_ (rfl)
  refine Facts.and_t ?_ (by show (true == Try.prog.plainKeys) = true; rw [Facts.keys]; rfl)
  refine Facts.and_t ?_ (by as_aux_lemma => kernel_rfl)
  refine Facts.and_t ?_ (by as_aux_lemma => kernel_rfl)
  refine Facts.and_t ?_ (by as_aux_lemma => kernel_rfl)
  refine Facts.and_t ?_ (by as_aux_lemma => kernel_rfl)
  refine Facts.and_t ?_ (by as_aux_lemma => kernel_rfl)
  refine Facts.and_t ?_ (by as_aux_lemma => kernel_rfl)
  refine Facts.and_t ?_ (by as_aux_lemma => kernel_rfl)
  refine Facts.and_t ?_ (by as_aux_lemma => kernel_rfl)
  refine Facts.and_t ?_ (by as_aux_lemma => kernel_rfl)
  refine Facts.and_t ?_ (by as_aux_lemma => kernel_rfl)
  refine Facts.and_t ?_ (by as_aux_lemma => kernel_rfl)
  refine Facts.and_t ?_ (by as_aux_lemma => kernel_rfl)
  refine Facts.and_t ?_ (by as_aux_lemma => kernel_rfl)
  refine Facts.and_t ?_ (by as_aux_lemma => kernel_rfl)
  refine Facts.and_t ?_ (by as_aux_lemma => kernel_rfl)
  refine Facts.and_t ?_ (by as_aux_lemma => kernel_rfl)
  refine Facts.and_t ?_ (by as_aux_lemma => kernel_rfl)
  refine Facts.and_t ?_ (by as_aux_lemma => kernel_rfl)
  refine Facts.and_t ?_ (by as_aux_lemma => kernel_rfl)
  refine Facts.and_t ?_ (Facts.rowed)
  refine Facts.and_t ?_ (Facts.laidOut)
  kernel_rfl

theorem over : Rows.fnExactFindLastRow.holds Try.pinned (OpenSpec.ofChange Rows.fnExactFindLastSpec) :=
  OpenClaim.holds_of_wide 25 Try.f25 rfl rfl rfl rfl rfl rfl rfl ⟨rfl, rfl, rfl, rfl, rfl⟩ rfl rfl rfl rfl rfl (by kernel_rfl) Try.func25 facts
    (of_decide_eq_true (by kernel_rfl)) (by unfold Func.isWrapper; first | (rw [if_pos (by decide +kernel)]; kernel_rfl) | (rw [if_neg (by decide +kernel)]; exact ⟨rfl, rfl⟩))
    (fun os started H enc _ => lifted os started H enc)
end Go.Proofs.Ytdmmkmbobomeiaa.ExactFindLast
namespace Go.Proofs.Ytdmmkmbobomeiaa
theorem fnExactFindLast_holds : Rows.FnExactFindLastSaid := ExactFindLast.over
end Go.Proofs.Ytdmmkmbobomeiaa
