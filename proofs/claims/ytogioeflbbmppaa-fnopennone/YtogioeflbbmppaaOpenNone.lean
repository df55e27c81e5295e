/-
  When no page is clean none is: so it is in drawn blocks. The given statement, with no condition.
-/
import Derived.Test.YtogioeflbbmppaaDrwD
import Derived.Test.YtogioeflbbmppaaPlB
import Derived.Test.YtogioeflbbmppaaFacts
import Derived.Lib.SmallJoins
namespace Go.Proofs.Ytogioeflbbmppaa.OpenNone
open Go.ChangeShapes Go.WideShapes Go.ChangeAt Go.RowKit Go.Shelf Go.Joins OkA Big Fl ImplB ImplF ImplS ImplT ImplU SpecA SpecB SpecC SpecD SpecW SpecX SpecF SpecG SpecH FindP FindN FindO FindD ImplW ImplX Pick Draw ClA DrB PlB 
open FlB (FsN)
open Facts (own laidOut)
set_option linter.unusedVariables false
set_option linter.unusedSimpArgs false
attribute [local go_sem ↓] Go.wp_at_zero Go.wp_at_succ

set_option maxRecDepth 100000 in
set_option maxHeartbeats 8000000 in
theorem walk (a0 : Option Addr) (len0 cap0 : Nat) (z0 : List Int) (w : World) (h0 : IsRow .u8 w a0 len0 cap0 z0) :
    Calls Try.prog 20 #[.slice a0 len0 cap0] w fun e w' => e = .returned (.bool true) ∧ Below w.heap.size w w' := by
  have HD := hide (drawOpen_any w a0 len0 cap0 z0 h0)
  clear h0
  go_enter Try.func20, Try.ntmps20
  by_cases hbig0 : 1048576 < (len0 : Int)
  · go_wp2
    go_ret
    exact ⟨rfl, Below.refl _ _⟩
  go_wp2_with fail
  refine (unhide HD).mono ?_
  rintro e w1 ⟨g, o, c, bs, rfl, F1, B⟩
  have h4 := F1.four
  have hp4 := hide F1.pgs
  have hf := F1.fs
  clear HD F1
  generalize hfa : (some ⟨g, o, none⟩ : Option Addr) = fa at *
  have HSO := hide (fun (w' : World) (hF : FsAt w' fa bs) => specOpen_any fa c  bs w' hF (by omega))
  have HOP := hide (fun (w' : World) (hF : FsAt w' fa bs) => implOpen_any fa c  bs w' hF (by omega))
  have HOK := hide (fun (w' : World) (hF : FsAt w' fa bs) => specFlashOk_any fa c  bs w' hF (by omega))
  have HCL := hide (fun (k : Int) (w' : World) (hF : FsAt w' fa bs) => flashClean_any fa c k bs w' hF (by omega))
  have HOL := hide (fun (w' : World) (hF : FsAt w' fa bs) => implOld_any fa c  bs w' hF (by omega))
  have HWI := hide (fun (k : Int) (torn : Bool) (w' : World) (hF : FsAt w' fa bs) => implWipe_any fa c k torn bs w' hF (by omega))
  have HFC := hide (fun (h : okB bs = true) => fop_cases h)
  have HWL : Hid (∀ (k : Int) (torn : Bool), (wiR bs k torn).length ≤ 4) := fun k torn => by
    unfold wiR
    split
    · split
      · exact h4
      · rw [SpecX.wiL_len]; exact h4
    · simp
  have HFW := hide (fun (k : Nat) (h : wiO bs (k : Int) = true) (h0 : ∀ j < 4, cN bs j = 0) => fop_wi k h h0)
  generalize hq : fopR bs = q at *
  clear hq
  obtain ⟨q1, q2⟩ := q
  have hq1 : (q1 != q1) = false := by simp
  have hq2 : (q1 == q1) = true := by simp
  have hq3 : (q2 != q2) = false := by simp
  have hq4 : (q2 == q2) = true := by simp
  go_wp2_with fail
  refine (unhide HSO _ hf).mono ?_
  rintro e u12 ⟨rfl, b⟩
  replace hf := FsAt.below hf b
  replace B := B.trans (b.mono B.size)
  clear b
  go_wp2_with fail
  refine (unhide HOP _ hf).mono ?_
  rintro e u13 ⟨rfl, b⟩
  replace hf := FsAt.below hf b
  replace B := B.trans (b.mono B.size)
  clear b
  cases hok : okB bs
  · have HK2 := hide (unhide HOK _ hf)
    rw [hok] at HK2
    go_wp2_with fail
    refine (unhide HK2).mono ?_
    rintro e u14 ⟨rfl, b⟩
    replace hf := FsAt.below hf b
    replace B := B.trans (b.mono B.size)
    clear b
    go_wp2
    go_ret
    exact ⟨rfl, B⟩
  have HK2 := hide (unhide HOK _ hf)
  rw [hok] at HK2
  go_wp2_with fail
  refine (unhide HK2).mono ?_
  rintro e u15 ⟨rfl, b⟩
  replace hf := FsAt.below hf b
  replace B := B.trans (b.mono B.size)
  clear b
  clear HK2
  have HQ := hide (unhide HFC hok)
  have HCQ : Hid (∀ (k : Nat), k < 4 → cleanR bs (k : Int) = (cN bs k : Int) ∧ cN bs k ≤ 4) := fun k hk => ⟨(clean_eq hok k hk).1, (clean_eq hok k hk).2.1⟩
  go_wp2
  have HB := hide B
  have HF := hide hf
  clear B hf
  go_loopw [8, 9] (fun c i w' => ∃ (j m : Nat), j ≤ 4 ∧ m ≤ 4 * j ∧ i = .int .i64 j ∧ c = .int .i64 m ∧ Hid ((∀ l < j, cN bs l ≤ m) ∧ ((∀ l < 4, cN bs l = 0) → m = 0)) ∧ Below w.heap.size w w' ∧ FsAt w' fa bs) (fun _ i _ => 4 - (intOf i).toNat)
  case atStart => exact ⟨0, 0, by omega, by omega, rfl, rfl, ⟨fun l hl => by omega, fun _ => rfl⟩, unhide HB, unhide HF⟩
  case round =>
    obtain ⟨j, m, hj, hm, rfl, rfl, hI, B, hf⟩ := hrel
    clear HB HF
    by_cases hj4 : j = 4
    · subst hj4
      obtain ⟨hI1, hI2⟩ := hI.out
      rcases unhide HQ with ⟨e, h0⟩ | ⟨kb, hkb, e, hc⟩
      · obtain ⟨rfl, rfl⟩ := Prod.mk.inj e
        have hm0 := hI2 h0
        subst hm0
        obtain ⟨ho, hol⟩ := old_ok hok
        have HO2 := hide (unhide HOL _ hf)
        rw [ho] at HO2
        generalize oldN bs 3 = od at *
        go_wp2_with fail
        refine (unhide HO2).mono ?_
        rintro e u16 ⟨rfl, b⟩
        replace hf := FsAt.below hf b
        replace B := B.trans (b.mono B.size)
        clear b
        go_wp2_with fail
        refine (unhide HWI (od : Int) false _ hf).mono ?_
        rintro e u17 ⟨v, rfl, X, b⟩
        replace hf := FsAt.below hf b
        replace B := B.trans (b.mono B.size)
        clear b
        obtain ⟨xa, xc, rfl, hx⟩ := Own.NewFs.form X
        clear X
        have HX := hide (fun (w' : World) (hF : FsAt w' xa (wiR bs od false)) => implOpen_any xa xc _ w' hF (by have := unhide HWL od false; omega))
        cases hO : wiO bs od
        · generalize wiR bs od false = X at *
          go_wp2_with fail
          refine (unhide HX _ hx).mono ?_
          rintro e u18 ⟨rfl, b⟩
          replace B := B.trans (b.mono B.size)
          clear b
          go_wp2
          go_ret
          exact ⟨rfl, B⟩
        · have hfw := unhide HFW od hO h0
          have HX2 := hide (unhide HX _ hx)
          rw [hfw] at HX2
          clear hfw
          generalize wiR bs od false = X at *
          go_wp2_with fail
          refine (unhide HX2).mono ?_
          rintro e u19 ⟨rfl, b⟩
          replace B := B.trans (b.mono B.size)
          clear b
          go_wp2
          go_ret
          exact ⟨by simp, B⟩
      · obtain ⟨rfl, rfl⟩ := Prod.mk.inj e
        have hmp : 0 < m := by have := hI1 kb hkb; omega
        have hmi : (0 : Int) < (m : Int) := by omega
        have HC2 := hide (unhide HCL (kb : Int) _ hf)
        rw [(unhide HCQ kb hkb).1] at HC2
        have hci : (0 : Int) < (cN bs kb : Int) := by omega
        generalize cN bs kb = cv at *
        go_wp2_with fail
        refine (unhide HC2).mono ?_
        rintro e u20 ⟨rfl, b⟩
        replace hf := FsAt.below hf b
        replace B := B.trans (b.mono B.size)
        clear b
        go_wp2
        go_ret
        exact ⟨rfl, B⟩
    · have hji : (j : Int) < 4 := by omega
      have hj0 : (0 : Int) ≤ (j : Int) := by omega
      have HC2 := hide (unhide HCL (j : Int) _ hf)
      obtain ⟨hcq, hc4⟩ := unhide HCQ j (by omega)
      rw [hcq] at HC2
      clear hcq
      have hI' := hI.out
      have HST : Hid ((∀ l < j + 1, cN bs l ≤ m + cN bs j) ∧ ((∀ l < 4, cN bs l = 0) → m + cN bs j = 0)) := ⟨fun l hl => by
        by_cases e : l = j
        · subst e; omega
        · have := hI'.1 l (by omega); omega, fun h => by have := hI'.2 h; have := h j (by omega); omega⟩
      generalize cN bs j = cv at *
      clear hI hI'
      go_wp2_with fail
      refine (unhide HC2).mono ?_
      rintro e u21 ⟨rfl, b⟩
      replace hf := FsAt.below hf b
      replace B := B.trans (b.mono B.size)
      clear b
      go_wp2
      go_roundw
      case rel => exact ⟨j + 1, m + cv, by omega, by omega, by first | rfl | go_num, by first | rfl | go_num | (simp; omega), HST, B, hf⟩
      case measure => simp [intOf]; omega


set_option maxRecDepth 100000 in
theorem lifted (os : Os) (started : os.Started) (H : Type) (enc : TypeId × Value → H) :
    ReturnsInHanded {} Try.checked os 20 .any (Rows.fnOpenNoneSpec.pre6 enc Try.prog Try.f20 Rows.fnOpenNoneRow.domain false) (Rows.fnOpenNoneSpec.post enc Try.prog Try.f20 false true false false) := by
  refine returnsInHanded_of_change (C := Try.checked) own started (by kernel_rfl) Try.func20
    (ChangeSpec.witness6 (enc := enc) (C := Try.checked) false ⟨#[], #[.slice none 0 0], []⟩ 8 (by kernel_rfl) (by kernel_rfl) (by kernel_rfl) (by kernel_rfl)) ?_
  intro W base args ds gs before hval0 hW hcnd _
  have hval : ∀ (j : Nat) t v, Try.f20.params[j]? = some t → args[j]? = some v → Value.okWide Try.prog W .any base t v := hval0
  have hW' := hW
  obtain ⟨p, q, hA0, hV, rfl, hfz, hnd⟩ := hW
  have hA : DataW.TrodAll enc Try.prog W 0 (fun _ => true) true Try.f20.params.toList args.toList ds p := hA0
  rw [Try.params20] at hA hval
  obtain ⟨v0, vs0, d0, ds0, p0, q0, hargs, rfl, rfl, h0, r0⟩ := trodAll_cons hA
  obtain ⟨rfl, rfl, rfl⟩ := trodAll_nil r0
  obtain rfl : args = #[v0] := by cases args; simp_all
  obtain ⟨rfl, rfl⟩ := trodVars_none hV
  have kk0 := h0
  have lt0 : ∀ x ∈ p0, x.block < W.heap.size := by obtain ⟨m, hm⟩ := kk0; exact DataW.trod_lt m _ _ _ hm
  obtain ⟨a0, len0, cap0, rfl⟩ := okWide_slice Try.underlying22 (hval 0 22 v0 rfl rfl)
  obtain ⟨z0, w0⟩ : ∃ zs, IsRow .u8 W a0 len0 cap0 zs := by
    obtain ⟨fuel, hf⟩ := h0
    rcases open_ints Try.underlying22 Try.underlying5 (by kernel_rfl) hf with ⟨hcs, _⟩ | ⟨x, l, c, zs, hcs, _, hl, hm, hz, _, hcell, hwz⟩
    · simp [Value.cells] at hcs
      obtain ⟨rfl, rfl, rfl⟩ := hcs
      exact ⟨[], .inl ⟨rfl, rfl, rfl, rfl⟩⟩
    · simp [Value.cells] at hcs
      obtain ⟨rfl, rfl, rfl⟩ := hcs
      exact ⟨zs, .inr ⟨_, rfl, hl, hm, by simpa using hz, hcell, hwz⟩⟩
  clear hA0
  refine (walk a0 len0 cap0 z0 W w0).mono fun e W' ⟨he, bel⟩ => ?_
  subst he
  exact ⟨_, rfl, _, _, _, [], _, [], hW', trodAll_mk1 (shut_bool Try.underlying4 _), (trodAll_cons_mk (Below.trod laidOut (by kernel_rfl) (of_decide_eq_true (by kernel_rfl)) kk0 bel lt0) trodAll_mk0), rfl, bel.frame _, fun h => by cases h⟩

set_option maxRecDepth 100000 in
theorem facts : joinedFacts Try.prog 20 Try.f20 Rows.fnOpenNoneSpec Rows.fnOpenNoneRow = true := by
  unfold joinedFacts
  refine Facts.and_t ?_ (by as_aux_lemma => kernel_rfl)
  refine Facts.and_t ?_ (by as_aux_lemma => kernel_rfl)
  refine Facts.and_t ?_ (by as_aux_lemma => kernel_rfl)
  refine Facts.and_t ?_ (by as_aux_lemma => kernel_rfl)
  refine Facts.and_t ?_ (by show (Try.prog.make == some Make.cut) = true; rw [Facts.made]; rfl)
  refine Facts.and_t ?_ (by show (false == Try.prog.liftsFinal) = true; rw [Facts.lifts]; rfl)
  refine Facts.and_t ?_ (Facts.enters)
  refine Facts.and_t ?_ (Facts.heard)
  refine Facts.and_t ?_ (rfl)
  refine Facts.and_t ?_ (by show (true == Try.prog.plainKeys) = true; rw [Facts.keys]; rfl)
  refine Facts.and_t ?_ (by as_aux_lemma => kernel_rfl)
  refine Facts.and_t ?_ (by as_aux_lemma => kernel_rfl)
  refine Facts.and_t ?_ (by as_aux_lemma => kernel_rfl)
  refine Facts.and_t ?_ (by as_aux_lemma => kernel_rfl)
  refine Facts.and_t ?_ (by as_aux_lemma => kernel_rfl)
  refine Facts.and_t ?_ (by as_aux_lemma => kernel_rfl)
  refine Facts.and_t ?_ (by as_aux_lemma => kernel_rfl)
  refine Facts.and_t ?_ (by as_aux_lemma => kernel_rfl)
  refine Facts.and_t ?_ (by as_aux_lemma => kernel_rfl)
  refine Facts.and_t ?_ (by as_aux_lemma => kernel_rfl)
  refine Facts.and_t ?_ (by as_aux_lemma => kernel_rfl)
  refine Facts.and_t ?_ (by as_aux_lemma => kernel_rfl)
  refine Facts.and_t ?_ (by as_aux_lemma => kernel_rfl)
  refine Facts.and_t ?_ (by as_aux_lemma => kernel_rfl)
  refine Facts.and_t ?_ (by as_aux_lemma => kernel_rfl)
  refine Facts.and_t ?_ (by as_aux_lemma => kernel_rfl)
  refine Facts.and_t ?_ (by as_aux_lemma => kernel_rfl)
  refine Facts.and_t ?_ (by as_aux_lemma => kernel_rfl)
  refine Facts.and_t ?_ (by as_aux_lemma => kernel_rfl)
  refine Facts.and_t ?_ (Facts.rowed)
  refine Facts.and_t ?_ (Facts.laidOut)
  kernel_rfl

theorem over : Rows.fnOpenNoneRow.holds Try.pinned (OpenSpec.ofChange Rows.fnOpenNoneSpec) :=
  OpenClaim.holds_of_wide 20 Try.f20 rfl rfl rfl rfl rfl rfl rfl ⟨rfl, rfl, rfl, rfl, rfl⟩ rfl rfl rfl rfl rfl (by kernel_rfl) Try.func20 facts
    (of_decide_eq_true (by kernel_rfl)) (by unfold Func.isWrapper; first | (rw [if_pos (by decide +kernel)]; kernel_rfl) | (rw [if_neg (by decide +kernel)]; exact ⟨rfl, rfl⟩))
    (fun os started H enc _ => lifted os started H enc)

end Go.Proofs.Ytogioeflbbmppaa.OpenNone
namespace Go.Proofs.Ytogioeflbbmppaa
theorem fnOpenNone_holds : Rows.FnOpenNoneSaid := OpenNone.over
end Go.Proofs.Ytogioeflbbmppaa
