/-
  At every list of events the program's PlayRun answers as the specification's, leaves its argument as it was, and its answer owns its memory: the given statement, with no condition.
-/
import Derived.Test.YtogfelpdgeionaaGreatPrA
import Derived.Lib.SmallJoins
import Derived.Test.YtogfelpdgeionaaGreatHbZ
import Derived.Test.YtogfelpdgeionaaGreatFacts
namespace Go.Proofs.YtogfelpdgeionaaGreat.ExactPlayRun
open TwA Go.ChangeShapes Go.WideShapes Go.ChangeAt Go.RowKit Go.Shelf OkA Big Fl ImplB ImplF ImplS _root_.Go.Proofs.YtogfelpdgeionaaGreat.Own ImplT ImplU SpecA SpecB SpecC SpecD SpecW SpecF SpecG SpecH Ok2 Pl FindP ImplL Kp StA StB StC StD StE StF StG SpS SpT RmA WrA FlA DoA ToA PlA LawU LawS LawV LawI LawT LawW SpU TwB TwC QuB QuE SpV MkN Ct AlX PaA PaB DpX Cu Go.Joins FindL Gd LawsA LawsB LawsE OpenF MarkB QuA QuB QuC QuD SpV1 PdA PdB PdC PdD EvL EvS PrA
open Facts (own laidOut)
set_option linter.unusedVariables false
set_option linter.unusedSimpArgs false
attribute [local go_sem ↓] Go.wp_at_zero Go.wp_at_succ

theorem og {w w' : World} {L : List Nat} {b : Nat} {cs : List Value} (h : CsAt w b cs) (ho : OnlyG L w w') (hb : b < w.heap.size) (hn : b ∉ L) : CsAt w' b cs :=
  ⟨fun j u hu => by rw [ho.cell b _ hb hn]; exact h.cells j u hu, fun j hj => by rw [ho.cell b _ hb hn, ho.frozen b _ hb hn]; exact h.free j hj⟩
def PqPost (w : World) (ok : Bool) (BB : List Bk) (KK : List Int) (e : Ending) (w' : World) : Prop := ∃ f1 n1 k1 f2 n2 k2, e = .returned (.tuple #[.agg #[.slice f1 n1 k1, .slice f2 n2 k2], .bool ok]) ∧ InT w' w.heap.size w'.heap.size (.slice f1 n1 k1) (.slice f2 n2 k2) ok BB KK ∧ Below w.heap.size w w'
theorem pr_form {w w' : World} {L : List Ev} {e : Ending} (h : PrPost w L e w') : PqPost w (decide (L.length ≤ 60)) (runP L).1 (runP L).2 e w' := h

set_option maxRecDepth 100000 in
set_option maxHeartbeats 8000000 in
theorem walk (a0 : Option Addr) (cap0 : Nat) (zl : List Ev) (w : World) (h0 : EsAt w a0 zl) (hev : ∀ x ∈ zl, EvOk x) (hln : zl.length ≤ 9223372036854775807) :
    Calls Tryz.prog 18 #[.slice a0 zl.length cap0] w fun e w' => e = .returned (.bool true) ∧ Below w.heap.size w w' := by
  have HW := hide h0
  have HEV := hide hev
  have HSZ := hide (szEventS_any a0 zl.length cap0 1048576 w (by omega) (by omega) (by omega))
  clear h0 hev
  go_enter Tryz.func18, Tryz.ntmps18
  go_wp2_with fail
  refine (unhide HSZ).mono ?_
  rintro e w' ⟨rfl, hw'⟩
  obtain rfl := hw'.symm
  clear hw' HSZ
  by_cases hneg2 : (1048576 : Int) - zl.length < 0
  · rw [show szR 1048576 zl.length = -1 from if_pos hneg2]
    go_wp2
    go_ret
    exact ⟨rfl, Below.refl _ _⟩
  rw [show szR 1048576 zl.length = 1048576 - zl.length from if_neg hneg2]
  have hlen : zl.length ≤ 1048576 := by omega
  go_wp2_with fail
  refine (toEventS_any a0 cap0 zl _ (unhide HW) hlen).mono ?_
  rintro e w2 ⟨rfl, cL2, sL2, B2⟩
  go_wp2_with fail
  refine ((specRun_any _ _ zl _ (.inr ⟨_, 0, rfl, cL2.cells⟩) hlen).mono fun _ _ q => pr_form q).mono ?_
  rintro e w3 ⟨f1, n1, k1, f2, n2, k2, rfl, I1, b3⟩
  have B3 := B2.trans (b3.mono B2.size)
  have q3 := b3.size
  clear cL2 b3 B2
  have HIM := hide (fun (s : Option Addr) (t : Nat) (w' : World) (hs : EsAt w' s zl) => (implRun_any s t zl w' hs (unhide HEV) hlen).mono fun _ _ q => pr_form q)
  generalize decide (zl.length ≤ 60) = ok at *
  generalize (runP zl).1 = BB at *
  generalize (runP zl).2 = KK at *
  have hob : (ok != ok) = false := by simp
  have bx : Below w3.heap.size w3 (w3.alloc (.cells #[.slice f1 n1 k1, .slice f2 n2 k2] 26)) := (Below.refl _ _).alloc (Nat.le_refl _) _
  have cS_n := store_box w3 (.slice f1 n1 k1) (.slice f2 n2 k2)
  have scS : (w3.alloc (.cells #[.slice f1 n1 k1, .slice f2 n2 k2] 26)).heap.size = w3.heap.size + 1 := by simp
  have q5 := bx.size
  have I1_5 := I1.below bx
  have B_5 := B3.trans (bx.mono B3.size)
  clear I1 B3 bx
  go_wp2_with fail
  generalize w3.alloc (.cells #[.slice f1 n1 k1, .slice f2 n2 k2] 26) = w4 at *
  generalize w3.heap.size = S at *
  refine (toEventS_any a0 cap0 zl _ ((unhide HW).below B_5) hlen).mono ?_
  rintro e w5 ⟨rfl, cL5, sL5, b5⟩
  have q6 := b5.size
  have cS_6 := cS_n.below b5 (by omega)
  have I1_6 := I1_5.below b5
  have B_6 := B_5.trans (b5.mono B_5.size)
  clear cS_n I1_5 B_5 b5
  rw [scS] at cL5 sL5
  go_wp2_with fail
  refine (unhide HIM _ _ _ (.inr ⟨S + 1, 0, rfl, cL5.cells⟩)).mono ?_
  rintro e w6 ⟨f3, n3, k3, f4, n4, k4, rfl, I2, b6⟩
  have q7 := b6.size
  have cS_7 := cS_6.below b6 (by omega)
  have cL_7 := cL5.below b6 (by omega)
  have I1_7 := I1_6.below b6
  have B_7 := B_6.trans (b6.mono B_6.size)
  clear cS_6 cL5 I1_6 B_6 b6
  have bx : Below w6.heap.size w6 (w6.alloc (.cells #[.slice f3 n3 k3, .slice f4 n4 k4] 26)) := (Below.refl _ _).alloc (Nat.le_refl _) _
  have cY_n := store_box w6 (.slice f3 n3 k3) (.slice f4 n4 k4)
  have scY : (w6.alloc (.cells #[.slice f3 n3 k3, .slice f4 n4 k4] 26)).heap.size = w6.heap.size + 1 := by simp
  have q8 := bx.size
  have cS_8 := cS_7.below bx (by omega)
  have cL_8 := cL_7.below bx (by omega)
  have I1_8 := I1_7.below bx
  have I2_8 := I2.below bx
  have B_8 := B_7.trans (bx.mono B_7.size)
  clear cS_7 cL_7 I1_7 I2 B_7 bx
  have cS0 := cS_8.cell 0 _ rfl
  have cS1 := cS_8.cell 1 _ rfl
  have cY0 := cY_n.cell 0 _ rfl
  have cY1 := cY_n.cell 1 _ rfl
  go_wp2_with fail
  generalize w6.alloc (.cells #[.slice f3 n3 k3, .slice f4 n4 k4] 26) = w7 at *
  generalize w6.heap.size = Y at *
  refine (eqT I2_8 I1_8).mono ?_
  rintro e w8 ⟨rfl, b8⟩
  clear cS0 cS1 cY0 cY1
  have q9 := b8.size
  have cS_9 := cS_8.below b8 (by omega)
  have cL_9 := cL_8.below b8 (by omega)
  have cY_9 := cY_n.below b8 (by omega)
  have I1_9 := I1_8.below b8
  have I2_9 := I2_8.below b8
  have B_9 := B_8.trans (b8.mono B_8.size)
  clear cS_8 cL_8 cY_n I1_8 I2_8 B_8 b8
  go_wp2_with fail
  refine (toEventS_any a0 cap0 zl _ ((unhide HW).below B_9) hlen).mono ?_
  rintro e w9 ⟨rfl, cL9, sL9, b9⟩
  have q10 := b9.size
  have cS_10 := cS_9.below b9 (by omega)
  have cL_10 := cL_9.below b9 (by omega)
  have cY_10 := cY_9.below b9 (by omega)
  have I1_10 := I1_9.below b9
  have I2_10 := I2_9.below b9
  have B_10 := B_9.trans (b9.mono B_9.size)
  clear cS_9 cL_9 cY_9 I1_9 I2_9 B_9 b9
  go_wp2_with fail
  refine (eqEventS_any (some ⟨S + 1, 0, none⟩) _ _ _ zl _ (.inr ⟨S + 1, 0, rfl, cL_10.cells⟩) (.inr ⟨_, 0, rfl, cL9.cells⟩) hlen).mono ?_
  rintro e w10 ⟨rfl, b10⟩
  clear cL9 sL9
  have q11 := b10.size
  have cS_11 := cS_10.below b10 (by omega)
  have cL_11 := cL_10.below b10 (by omega)
  have cY_11 := cY_10.below b10 (by omega)
  have I1_11 := I1_10.below b10
  have I2_11 := I2_10.below b10
  have B_11 := B_10.trans (b10.mono B_10.size)
  clear cS_10 cL_10 cY_10 I1_10 I2_10 B_10 b10
  go_wp2_with fail
  refine (markEs 1 (by omega) (by omega) hlen cL_11).mono ?_
  rintro e w11 ⟨m, rfl, hm0, y11, kk11⟩
  have b11 := kk11.below (B := w.heap.size) (fun z hz => by simp at hz; omega) (by omega)
  clear kk11
  have q12 := y11.size
  have cS_12 := og cS_11 y11 (by omega) (fun hm => by first | (simp at hm; done) | (simp at hm; omega))
  have cY_12 := og cY_11 y11 (by omega) (fun hm => by first | (simp at hm; done) | (simp at hm; omega))
  have I1_12 := I1_11.only y11 (fun z hz => .inr (by simp at hz; omega))
  have I2_12 := I2_11.only y11 (fun z hz => .inl (by simp at hz; omega))
  have B_12 := B_11.trans (b11.mono (by omega))
  clear cS_11 cL_11 cY_11 I1_11 I2_11 B_11 y11 b11
  have hmn : ¬ m < 0 := by omega
  have cS0 := cS_12.cell 0 _ rfl
  have cS1 := cS_12.cell 1 _ rfl
  have cY0 := cY_12.cell 0 _ rfl
  have cY1 := cY_12.cell 1 _ rfl
  go_wp2_with fail
  refine (eqT I2_12 I1_12).mono ?_
  rintro e w12 ⟨rfl, b12⟩
  clear cS0 cS1 cY0 cY1
  have q13 := b12.size
  have cS_13 := cS_12.below b12 (by omega)
  have cY_13 := cY_12.below b12 (by omega)
  have I1_13 := I1_12.below b12
  have I2_13 := I2_12.below b12
  have B_13 := B_12.trans (b12.mono B_12.size)
  clear cS_12 cY_12 I1_12 I2_12 B_12 b12
  have cY0 := cY_13.cell 0 _ rfl
  have cY1 := cY_13.cell 1 _ rfl
  go_wp2_with fail
  refine (markT (by omega) I2_13).mono ?_
  rintro e w13 ⟨rfl, J2, M, y13, b13, hM⟩
  clear cY0 cY1
  have q14 := y13.size
  have cS_14 := og cS_13 y13 (by omega) (fun hm => by have := hM _ hm; omega)
  have cY_14 := og cY_13 y13 (by omega) (fun hm => by have := hM _ hm; omega)
  have I1_14 := I1_13.only y13 (fun z hz => .inr (by have := hM z hz; omega))
  have B_14 := B_13.trans (b13.mono (by omega))
  clear cS_13 cY_13 I1_13 I2_13 B_13 y13 b13
  have hmt : ¬ mT ok < 0 := by unfold mT; cases ok <;> simp
  have hmq : (mT ok != mT ok) = false := by simp
  have cY0 := cY_14.cell 0 _ rfl
  have cY1 := cY_14.cell 1 _ rfl
  go_wp2_with fail
  refine (heldT J2).mono ?_
  rintro e w14 ⟨rfl, b14⟩
  clear cY0 cY1
  have q15 := b14.size
  have cS_15 := cS_14.below b14 (by omega)
  have cY_15 := cY_14.below b14 (by omega)
  have I1_15 := I1_14.below b14
  have J2_15 := J2.below b14
  have B_15 := B_14.trans (b14.mono B_14.size)
  clear cS_14 cY_14 I1_14 J2 B_14 b14
  go_wp2_with fail
  refine (toEventS_any a0 cap0 zl _ ((unhide HW).below B_15) hlen).mono ?_
  rintro e w15 ⟨rfl, cL15, sL15, b15⟩
  have q16 := b15.size
  have cS_16 := cS_15.below b15 (by omega)
  have cY_16 := cY_15.below b15 (by omega)
  have I1_16 := I1_15.below b15
  have J2_16 := J2_15.below b15
  have B_16 := B_15.trans (b15.mono B_15.size)
  clear cS_15 cY_15 I1_15 J2_15 B_15 b15
  go_wp2_with fail
  refine (unhide HIM _ _ _ (.inr ⟨_, 0, rfl, cL15.cells⟩)).mono ?_
  rintro e w16 ⟨f5, n5, k5, f6, n6, k6, rfl, I3, b16⟩
  clear cL15 sL15
  have q17 := b16.size
  have cS_17 := cS_16.below b16 (by omega)
  have cY_17 := cY_16.below b16 (by omega)
  have I1_17 := I1_16.below b16
  have J2_17 := J2_16.below b16
  have B_17 := B_16.trans (b16.mono B_16.size)
  clear cS_16 cY_16 I1_16 J2_16 B_16 b16
  have bx : Below w16.heap.size w16 (w16.alloc (.cells #[.slice f5 n5 k5, .slice f6 n6 k6] 26)) := (Below.refl _ _).alloc (Nat.le_refl _) _
  have cZ_n := store_box w16 (.slice f5 n5 k5) (.slice f6 n6 k6)
  have scZ : (w16.alloc (.cells #[.slice f5 n5 k5, .slice f6 n6 k6] 26)).heap.size = w16.heap.size + 1 := by simp
  have q18 := bx.size
  have cS_18 := cS_17.below bx (by omega)
  have cY_18 := cY_17.below bx (by omega)
  have I1_18 := I1_17.below bx
  have J2_18 := J2_17.below bx
  have I3_18 := I3.below bx
  have B_18 := B_17.trans (bx.mono B_17.size)
  clear cS_17 cY_17 I1_17 J2_17 I3 B_17 bx
  have cS0 := cS_18.cell 0 _ rfl
  have cS1 := cS_18.cell 1 _ rfl
  have cZ0 := cZ_n.cell 0 _ rfl
  have cZ1 := cZ_n.cell 1 _ rfl
  go_wp2_with fail
  generalize w16.alloc (.cells #[.slice f5 n5 k5, .slice f6 n6 k6] 26) = w17 at *
  generalize w16.heap.size = Z at *
  refine (eqT I3_18 I1_18).mono ?_
  rintro e w18 ⟨rfl, b18⟩
  clear cS0 cS1 cZ0 cZ1
  have q19 := b18.size
  have cS_19 := cS_18.below b18 (by omega)
  have cY_19 := cY_18.below b18 (by omega)
  have cZ_19 := cZ_n.below b18 (by omega)
  have I1_19 := I1_18.below b18
  have J2_19 := J2_18.below b18
  have I3_19 := I3_18.below b18
  have B_19 := B_18.trans (b18.mono B_18.size)
  clear cS_18 cY_18 cZ_n I1_18 J2_18 I3_18 B_18 b18
  have cY0 := cY_19.cell 0 _ rfl
  have cY1 := cY_19.cell 1 _ rfl
  go_wp2_with fail
  refine (heldT J2_19).mono ?_
  rintro e w19 ⟨rfl, b19⟩
  clear cY0 cY1
  have q20 := b19.size
  have cS_20 := cS_19.below b19 (by omega)
  have cY_20 := cY_19.below b19 (by omega)
  have cZ_20 := cZ_19.below b19 (by omega)
  have I1_20 := I1_19.below b19
  have J2_20 := J2_19.below b19
  have I3_20 := I3_19.below b19
  have B_20 := B_19.trans (b19.mono B_19.size)
  clear cS_19 cY_19 cZ_19 I1_19 J2_19 I3_19 B_19 b19
  go_wp2
  go_ret
  exact ⟨rfl, B_20⟩


set_option maxRecDepth 100000 in
theorem lifted (os : Os) (started : os.Started) (H : Type) (enc : TypeId × Value → H) :
    ReturnsInHanded {} Tryz.checked os 18 .any (Rows.fnExactPlayRunSpec.pre6 enc Tryz.prog Tryz.f18 Rows.fnExactPlayRunRow.domain false) (Rows.fnExactPlayRunSpec.post enc Tryz.prog Tryz.f18 false true false false) := by
  refine returnsInHanded_of_change (C := Tryz.checked) own started (by kernel_rfl) Tryz.func18
    (ChangeSpec.witness6 (enc := enc) (C := Tryz.checked) false ⟨#[], #[.slice none 0 0], []⟩ 8 (by kernel_rfl) (by kernel_rfl) (by kernel_rfl) (by kernel_rfl)) ?_
  intro W base args ds gs before hval0 hW hcnd _
  have hval : ∀ (j : Nat) t v, Tryz.f18.params[j]? = some t → args[j]? = some v → Value.okWide Tryz.prog W .any base t v := hval0
  have hW' := hW
  obtain ⟨p, q, hA0, hV, rfl, hfz, hnd⟩ := hW
  have hA : DataW.TrodAll enc Tryz.prog W 0 (fun _ => true) true Tryz.f18.params.toList args.toList ds p := hA0
  rw [Tryz.params18] at hA hval
  obtain ⟨v0, vs0, d0, ds0, p0, q0, hargs, rfl, rfl, h0, r0⟩ := trodAll_cons hA
  obtain ⟨rfl, rfl, rfl⟩ := trodAll_nil r0
  obtain rfl : args = #[v0] := by cases args; simp_all
  obtain ⟨rfl, rfl⟩ := trodVars_none hV
  have kk0 := h0
  have lt0 : ∀ x ∈ p0, x.block < W.heap.size := by obtain ⟨m, hm⟩ := kk0; exact DataW.trod_lt m _ _ _ hm
  obtain ⟨a0, len0, cap0, rfl⟩ := okWide_slice Tryz.underlying68 (hval 0 68 v0 rfl rfl)
  obtain ⟨z0, hz0, w0, ev0, ln0⟩ : ∃ z : List Ev, len0 = z.length ∧ EsAt W a0 z ∧ (∀ x ∈ z, EvOk x) ∧ z.length ≤ 9223372036854775807 := by
    obtain ⟨fuel, hf⟩ := h0
    obtain ⟨a', z, cap', e, hz, hev, fit⟩ := open_events (V := .slice a0 len0 cap0) (by simpa [Value.cells] using hf)
    simp at e
    obtain ⟨rfl, rfl, rfl⟩ := e
    exact ⟨z, rfl, hz, hev, fit⟩
  subst hz0
  clear hA0
  refine (walk a0 cap0 z0 W w0 ev0 ln0).mono fun e W' ⟨he, bel⟩ => ?_
  subst he
  exact ⟨_, rfl, _, _, _, [], _, [], hW', trodAll_mk1 (shut_bool Tryz.underlying4 _), (trodAll_cons_mk (Below.trod laidOut (by kernel_rfl) (of_decide_eq_true (by kernel_rfl)) kk0 bel lt0) trodAll_mk0), rfl, bel.frame _, fun h => by cases h⟩

set_option maxRecDepth 100000 in
set_option maxHeartbeats 8000000 in
theorem facts : joinedFacts Tryz.prog 18 Tryz.f18 Rows.fnExactPlayRunSpec Rows.fnExactPlayRunRow = true := by
  unfold joinedFacts
  refine Facts.and_t ?_ (by as_aux_lemma => kernel_rfl)
  refine Facts.and_t ?_ (by as_aux_lemma => kernel_rfl)
  refine Facts.and_t ?_ (by as_aux_lemma => kernel_rfl)
  refine Facts.and_t ?_ (by as_aux_lemma => kernel_rfl)
  refine Facts.and_t ?_ (by show (Tryz.prog.make == some Make.cut) = true; rw [Facts.made]; rfl)
  refine Facts.and_t ?_ (by show (false == Tryz.prog.liftsFinal) = true; rw [Facts.lifts]; rfl)
  refine Facts.and_t ?_ (Facts.enters)
  refine Facts.and_t ?_ (Facts.heard)
  refine Facts.and_t ?_ (rfl)
  refine Facts.and_t ?_ (by show (true == Tryz.prog.plainKeys) = true; rw [Facts.keys]; rfl)
  refine Facts.and_t ?_ (by as_aux_lemma => kernel_rfl)
  refine Facts.and_t ?_ (by as_aux_lemma => kernel_rfl)
  refine Facts.and_t ?_ (by as_aux_lemma => kernel_rfl)
  refine Facts.and_t ?_ (by as_aux_lemma => kernel_rfl)
  refine Facts.and_t ?_ (by as_aux_lemma => kernel_rfl)
  refine Facts.and_t ?_ (by as_aux_lemma => kernel_rfl)
  refine Facts.and_t ?_ (by as_aux_lemma => kernel_rfl)
  refine Facts.and_t ?_ (by as_aux_lemma => kernel_rfl)
  refine Facts.and_t ?_ (by as_aux_lemma => kernel_rfl)
  refine Facts.and_t ?_ (by as_aux_lemma => kernel_rfl)
  refine Facts.and_t ?_ (by as_aux_lemma => kernel_rfl)
  refine Facts.and_t ?_ (by as_aux_lemma => kernel_rfl)
  refine Facts.and_t ?_ (by as_aux_lemma => kernel_rfl)
  refine Facts.and_t ?_ (by as_aux_lemma => kernel_rfl)
  refine Facts.and_t ?_ (by as_aux_lemma => kernel_rfl)
  refine Facts.and_t ?_ (by as_aux_lemma => kernel_rfl)
  refine Facts.and_t ?_ (by as_aux_lemma => kernel_rfl)
  refine Facts.and_t ?_ (by as_aux_lemma => kernel_rfl)
  refine Facts.and_t ?_ (by as_aux_lemma => kernel_rfl)
  refine Facts.and_t ?_ (Facts.rowed)
  refine Facts.and_t ?_ (Facts.laidOut)
  kernel_rfl

theorem over : Rows.fnExactPlayRunRow.holds Tryz.pinned (OpenSpec.ofChange Rows.fnExactPlayRunSpec) :=
  OpenClaim.holds_of_wide_leaving 18 Tryz.f18 rfl rfl rfl rfl rfl rfl rfl ⟨rfl, rfl, rfl, rfl, rfl⟩ rfl rfl rfl rfl rfl (by kernel_rfl) Tryz.func18 facts
    (of_decide_eq_true (by kernel_rfl)) (by unfold Func.isWrapper; first | (rw [if_pos (by decide +kernel)]; kernel_rfl) | (rw [if_neg (by decide +kernel)]; exact ⟨rfl, rfl⟩))
    (fun os started H enc _ => Lv.leave_of (lifted os started H enc))

end Go.Proofs.YtogfelpdgeionaaGreat.ExactPlayRun
namespace Go.Proofs.YtogfelpdgeionaaGreat
theorem fnExactPlayRun_holds : Rows.FnExactPlayRunSaid := ExactPlayRun.over
end Go.Proofs.YtogfelpdgeionaaGreat
