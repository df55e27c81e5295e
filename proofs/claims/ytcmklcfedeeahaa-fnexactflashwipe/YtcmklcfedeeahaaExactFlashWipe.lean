/-
  At every argument the program's FlashWipe answers as the specification's; it writes into no argument and keeps nothing of one; its answer owns its memory, behind another call too: the given statement, with no condition.
-/
import Derived.Test.YtcmklcfedeeahaaLawV
import Derived.Test.YtcmklcfedeeahaaImplW
import Derived.Test.YtcmklcfedeeahaaFacts
namespace Go.Proofs.Ytcmklcfedeeahaa.ExactFlashWipe
open Go.ChangeShapes Go.WideShapes Go.ChangeAt Go.RowKit Go.Joins OkA Big Fl ImplB ImplF ImplS Own ImplT ImplU SpecA SpecB SpecC SpecD SpecW SpecX ImplW MarkB LawsA LawsB LawsE OpenF LawV
set_option linter.unusedVariables false

open Facts (own laidOut)
theorem small_wi (bs : List Bk) (blk : Int) (t : Bool) : Small (wiR bs blk t) := by
  unfold wiR
  split
  · rename_i h
    rw [Bool.and_eq_true] at h
    have h4 := ok_len h.1
    have hF := ok_fours h.1
    split
    · exact ⟨by omega, hF⟩
    · exact ⟨by rw [wiL_len]; omega, wiL_fours hF⟩
  · exact ⟨by simp, fun b hb => by simp at hb⟩

set_option maxHeartbeats 2000000 in
theorem walk (a0 : Option Addr) (cap0 : Nat) (z0 : List Bk) (n1 : Int) (o2 : Bool) (w : World) (h0 : FsAt w a0 z0) (fit : Fit z0) :
    Calls Try.prog 15 #[.slice a0 z0.length cap0, .int .i64 n1, .bool o2] w fun e w' => e = .returned (.bool true) ∧ Below w.heap.size w w' := by
  have HF := hide h0
  have HS := hide (szBlockS_any a0 cap0 z0 w h0 fit)
  have HSP := hide (fun g cap w' (h : FsAt w' g z0) hm => specWipe_any g cap n1 o2 z0 w' h hm)
  have HIM := hide (fun g cap w' (h : FsAt w' g z0) hm => implWipe_any g cap n1 o2 z0 w' h hm)
  have HSM := hide (small_wi z0 n1 o2)
  have hR4 : (wiR z0 n1 o2).length ≤ 4 := (small_wi z0 n1 o2).1
  generalize wiR z0 n1 o2 = R at *
  generalize wiO z0 n1 = ok at *
  generalize hRn : R.length = rn at *
  have HRN := hide hRn
  have hrni : (rn : Int) ≤ 4 := by omega
  have hrn0 : (0 : Int) ≤ (rn : Int) := by omega
  clear h0 hRn
  go_enter Try.func15, Try.ntmps15
  go_wp2_with fail
  refine (unhide HS).mono ?_
  rintro e w1 ⟨r, rfl, r0, r1, hr, b1⟩
  by_cases hneg : r < 0
  · clear hr
    go_wp2
    go_ret
    exact ⟨rfl, b1⟩
  obtain ⟨hl, hp⟩ := hr (by omega)
  have HP := hide hp
  have HL := hide hl
  clear hr hp hl
  -- what the specification answers
  go_wp2_with fail
  refine (toBlockS_any a0 cap0 z0 _ ((unhide HF).below b1) (unhide HL) (unhide HP)).mono ?_
  rintro e w2 ⟨g2, G2, rfl, p2, b2⟩
  have B2 := b1.trans (b2.mono b1.size)
  go_wp2_with fail
  refine (unhide HSP _ _ _ p2.fs (unhide HL)).mono ?_
  rintro e w3 ⟨vs, rfl, ns, b3⟩
  have B3 := B2.trans (b3.mono B2.size)
  have s23 := b3.size
  clear b1 b2 b3 p2 B2
  -- what the program answers
  go_wp2_with fail
  refine (toBlockS_any a0 cap0 z0 _ ((unhide HF).below B3) (unhide HL) (unhide HP)).mono ?_
  rintro e w4 ⟨g4, G4, rfl, p4, b4⟩
  have s4 := b4.size
  have B4 := B3.trans (b4.mono B3.size)
  have hi4 := p4.hi
  go_wp2_with fail
  refine (unhide HIM _ _ _ p4.fs (by have := unhide HL; omega)).mono ?_
  rintro e w5 ⟨vi, rfl, ni, b5⟩
  have s5 := b5.size
  have B5 := B4.trans (b5.mono B4.size)
  have C5 := b4.trans (b5.mono s4)
  have p5 := p4.below b5 (Nat.le_refl _)
  have ns5 := ns.below C5 (Nat.le_refl _)
  clear b4 b5 p4 B4
  -- the same
  go_wp2_with fail
  refine (eqV (unhide HSM) ni ns5).mono ?_
  rintro e w6 ⟨rfl, b6⟩
  have s6 := b6.size
  have B6 := B5.trans (b6.mono B5.size)
  have C6 := C5.trans (b6.mono C5.size)
  have p6 := p5.below b6 (Nat.le_refl _)
  have ni6 := ni.below b6 (Nat.le_refl _)
  clear b6 B5 C5 p5 ns5 ni
  -- the argument is as it was
  go_wp2_with fail
  refine (toBlockS_any a0 cap0 z0 _ ((unhide HF).below B6) (unhide HL) (unhide HP)).mono ?_
  rintro e w7 ⟨g7, G7, rfl, p7, b7⟩
  have s7 := b7.size
  have B7 := B6.trans (b7.mono B6.size)
  have C7 := C6.trans (b7.mono C6.size)
  have q7 := p6.below b7 (Nat.le_refl _)
  have ni7 := ni6.below b7 (Nat.le_refl _)
  clear b7 B6 C6 p6 ni6
  go_wp2_with fail
  refine (eqBlockS_any _ _ _ _ z0 _ q7.fs p7.fs (unhide HL) (unhide HP)).mono ?_
  rintro e w8 ⟨rfl, b8⟩
  have s8 := b8.size
  have B8 := B7.trans (b8.mono B7.size)
  have C8 := C7.trans (b8.mono C7.size)
  have q8 := q7.below b8 (Nat.le_refl _)
  have ni8 := ni7.below b8 (Nat.le_refl _)
  clear b8 B7 C7 q7 p7 ni7
  -- the argument is marked
  go_wp2_with fail
  refine (markG_any _ _ _ _ _ z0 _ q8 (unhide HL) (unhide HP)).mono ?_
  rintro e w9 ⟨m, rfl, m0, y9, b9⟩
  have s9 := b9.size
  have C9 := C8.trans b9
  have B9 := B8.trans (b9.mono B3.size)
  have ns9 := ns.below C9 (Nat.le_refl _)
  have ni9 := NewFs.only ni8 y9 hi4
  clear b9 y9 C8 B8 q8 ni8
  have hm0 : ¬ m < 0 := by omega
  go_wp2_with fail
  refine (eqV (unhide HSM) ni9 ns9).mono ?_
  rintro e w10 ⟨rfl, b10⟩
  have s10 := b10.size
  have B10 := B9.trans (b10.mono B9.size)
  have C10 := C9.trans (b10.mono C9.size)
  have ni10 := ni9.below b10 (Nat.le_refl _)
  clear b10 B9 C9 ns9 ni9
  -- the answer is marked
  go_wp2_with fail
  refine (markV (unhide HSM) ni10).mono ?_
  rintro e w11 ⟨rfl, ni11, b11, s11⟩
  have C11 := C10.trans (b11.mono s4)
  have B11 := B10.trans (b11.mono (by have := B3.size; omega))
  rw [unhide HRN] at ni11 ⊢
  clear b11 C10 B10 ni10
  go_wp2_with fail
  refine (heldV (by omega) ni11).mono ?_
  rintro e w12 ⟨rfl, hw12⟩
  obtain rfl := hw12.symm
  clear hw12
  -- another call
  go_wp2_with fail
  refine (toBlockS_any a0 cap0 z0 _ ((unhide HF).below B11) (unhide HL) (unhide HP)).mono ?_
  rintro e w13 ⟨g13, G13, rfl, p13, b13⟩
  have s13 := b13.size
  have B13 := B11.trans (b13.mono B11.size)
  have C13 := C11.trans (b13.mono C11.size)
  have ni13 := ni11.below b13 (Nat.le_refl _)
  clear b13 B11 C11 ni11
  go_wp2_with fail
  refine (unhide HIM _ _ _ p13.fs (by have := unhide HL; omega)).mono ?_
  rintro e w14 ⟨vj, rfl, nj, b14⟩
  have B14 := B13.trans (b14.mono B13.size)
  have C14 := C13.trans (b14.mono C13.size)
  have ni14 := ni13.below b14 (Nat.le_refl _)
  have ns14 := ns.below C14 (Nat.le_refl _)
  clear b14 B13 C13 ni13 p13
  go_wp2_with fail
  refine (eqV (unhide HSM) nj ns14).mono ?_
  rintro e w15 ⟨rfl, b15⟩
  have B15 := B14.trans (b15.mono B14.size)
  have ni15 := ni14.below b15 (Nat.le_refl _)
  clear b15 B14 C14 ni14 ns14 nj ns
  go_wp2_with fail
  refine (heldV (by omega) ni15).mono ?_
  rintro e w16 ⟨rfl, hw16⟩
  obtain rfl := hw16.symm
  clear hw16
  go_wp2
  go_ret
  exact ⟨rfl, B15⟩

set_option maxRecDepth 100000 in
theorem lifted (os : Os) (started : os.Started) (H : Type) (enc : TypeId × Value → H) :
    ReturnsInHanded {} Try.checked os 15 .any (Rows.fnExactFlashWipeSpec.pre6 enc Try.prog Try.f15 Rows.fnExactFlashWipeRow.domain false) (Rows.fnExactFlashWipeSpec.post enc Try.prog Try.f15 false true false false) := by
  refine returnsInHanded_of_change (C := Try.checked) own started (by kernel_rfl) Try.func15
    (ChangeSpec.witness6 (enc := enc) (C := Try.checked) false ⟨#[], #[.slice none 0 0, .int .i64 0, .bool false], []⟩ 8 (by kernel_rfl) (by kernel_rfl) (by kernel_rfl) (by kernel_rfl)) ?_
  intro W base args ds gs before hval0 hW hcnd _
  have hval : ∀ (j : Nat) t v, Try.f15.params[j]? = some t → args[j]? = some v → Value.okWide Try.prog W .any base t v := hval0
  have hW' := hW
  obtain ⟨p, q, hA0, hV, rfl, hfz, hnd⟩ := hW
  have hA : DataW.TrodAll enc Try.prog W 0 (fun _ => true) true Try.f15.params.toList args.toList ds p := hA0
  rw [Try.params15] at hA hval
  obtain ⟨v0, vs0, d0, ds0, p0, q0, hargs, rfl, rfl, h0, r0⟩ := trodAll_cons hA
  obtain ⟨v1, vs1, d1, ds1, p1, q1, rfl, rfl, rfl, h1, r1⟩ := trodAll_cons r0
  obtain ⟨v2, vs2, d2, ds2, p2, q2, rfl, rfl, rfl, h2, r2⟩ := trodAll_cons r1
  obtain ⟨rfl, rfl, rfl⟩ := trodAll_nil r2
  obtain rfl : args = #[v0, v1, v2] := by cases args; simp_all
  obtain ⟨rfl, rfl⟩ := trodVars_none hV
  have kk0 := h0
  have lt0 : ∀ x ∈ p0, x.block < W.heap.size := by obtain ⟨m, hm⟩ := kk0; exact DataW.trod_lt m _ _ _ hm
  obtain ⟨a0, len0, cap0, rfl⟩ := okWide_slice Try.underlying30 (hval 0 30 v0 rfl rfl)
  obtain ⟨z0, hz0, w0, fit0⟩ : ∃ z : List Bk, len0 = z.length ∧ FsAt W a0 z ∧ Fit z := by
    obtain ⟨fuel, hf⟩ := h0
    obtain ⟨a', z, cap', e, hz, fit⟩ := open_flash (V := .slice a0 len0 cap0) (by simpa [Value.cells] using hf)
    simp at e
    obtain ⟨rfl, rfl, rfl⟩ := e
    exact ⟨z, rfl, hz, fit⟩
  subst hz0
  have kk1 := h1
  have lt1 : ∀ x ∈ p1, x.block < W.heap.size := by obtain ⟨m, hm⟩ := kk1; exact DataW.trod_lt m _ _ _ hm
  obtain ⟨n1, rfl⟩ := okWide_int Try.underlying3 (hval 1 3 v1 rfl rfl)
  have kk2 := h2
  have lt2 : ∀ x ∈ p2, x.block < W.heap.size := by obtain ⟨m, hm⟩ := kk2; exact DataW.trod_lt m _ _ _ hm
  obtain ⟨o2, rfl⟩ := okWide_bool Try.underlying4 (hval 2 4 v2 rfl rfl)
  clear hA0
  refine (walk a0 cap0 z0 n1 o2 W w0 fit0  ).mono fun e W' ⟨he, bel⟩ => ?_
  subst he
  exact ⟨_, rfl, _, _, _, [], _, [], hW', trodAll_mk1 (shut_bool Try.underlying4 _), (trodAll_cons_mk (Below.trod laidOut (by kernel_rfl) (of_decide_eq_true (by kernel_rfl)) kk0 bel lt0) (trodAll_cons_mk (Below.trod laidOut (by kernel_rfl) (of_decide_eq_true (by kernel_rfl)) kk1 bel lt1) (trodAll_cons_mk (Below.trod laidOut (by kernel_rfl) (of_decide_eq_true (by kernel_rfl)) kk2 bel lt2) trodAll_mk0))), rfl, bel.frame _, fun h => by cases h⟩

set_option maxRecDepth 100000 in
theorem facts : joinedFacts Try.prog 15 Try.f15 Rows.fnExactFlashWipeSpec Rows.fnExactFlashWipeRow = true := by
  unfold joinedFacts
  refine Facts.and_t ?_ (by as_aux_lemma => kernel_rfl)
  refine Facts.and_t ?_ (by as_aux_lemma => kernel_rfl)
  refine Facts.and_t ?_ (by as_aux_lemma => kernel_rfl)
  refine Facts.and_t ?_ (by as_aux_lemma => kernel_rfl)
  refine Facts.and_t ?_ (by show (Try.prog.make == some Make.cut) = true; rw [Facts.made]; rfl)
  refine Facts.and_t ?_ (by show (false == Try.prog.liftsFinal) = true; rw [Facts.lifts]; rfl)
  refine Facts.and_t ?_ (Facts.enters)
  refine Facts.and_t ?_ (Facts.heard)
  refine Facts.and_t ?_ (rfl)
  refine Facts.and_t ?_ (by show (true == Try.prog.plainKeys) = true; rw [Facts.keys]; rfl)
  refine Facts.and_t ?_ (by as_aux_lemma => kernel_rfl)
  refine Facts.and_t ?_ (by as_aux_lemma => kernel_rfl)
  refine Facts.and_t ?_ (by as_aux_lemma => kernel_rfl)
  refine Facts.and_t ?_ (by as_aux_lemma => kernel_rfl)
  refine Facts.and_t ?_ (by as_aux_lemma => kernel_rfl)
  refine Facts.and_t ?_ (by as_aux_lemma => kernel_rfl)
  refine Facts.and_t ?_ (by as_aux_lemma => kernel_rfl)
  refine Facts.and_t ?_ (by as_aux_lemma => kernel_rfl)
  refine Facts.and_t ?_ (by as_aux_lemma => kernel_rfl)
  refine Facts.and_t ?_ (by as_aux_lemma => kernel_rfl)
  refine Facts.and_t ?_ (by as_aux_lemma => kernel_rfl)
  refine Facts.and_t ?_ (by as_aux_lemma => kernel_rfl)
  refine Facts.and_t ?_ (by as_aux_lemma => kernel_rfl)
  refine Facts.and_t ?_ (by as_aux_lemma => kernel_rfl)
  refine Facts.and_t ?_ (by as_aux_lemma => kernel_rfl)
  refine Facts.and_t ?_ (by as_aux_lemma => kernel_rfl)
  refine Facts.and_t ?_ (by as_aux_lemma => kernel_rfl)
  refine Facts.and_t ?_ (by as_aux_lemma => kernel_rfl)
  refine Facts.and_t ?_ (by as_aux_lemma => kernel_rfl)
  refine Facts.and_t ?_ (Facts.rowed)
  refine Facts.and_t ?_ (Facts.laidOut)
  kernel_rfl

theorem over : Rows.fnExactFlashWipeRow.holds Try.pinned (OpenSpec.ofChange Rows.fnExactFlashWipeSpec) :=
  OpenClaim.holds_of_wide 15 Try.f15 rfl rfl rfl rfl rfl rfl rfl ⟨rfl, rfl, rfl, rfl, rfl⟩ rfl rfl rfl rfl rfl (by kernel_rfl) Try.func15 facts
    (of_decide_eq_true (by kernel_rfl)) (by unfold Func.isWrapper; first | (rw [if_pos (by decide +kernel)]; kernel_rfl) | (rw [if_neg (by decide +kernel)]; exact ⟨rfl, rfl⟩))
    (fun os started H enc _ => lifted os started H enc)
end Go.Proofs.Ytcmklcfedeeahaa.ExactFlashWipe
namespace Go.Proofs.Ytcmklcfedeeahaa
theorem fnExactFlashWipe_holds : Rows.FnExactFlashWipeSaid := ExactFlashWipe.over
end Go.Proofs.Ytcmklcfedeeahaa
