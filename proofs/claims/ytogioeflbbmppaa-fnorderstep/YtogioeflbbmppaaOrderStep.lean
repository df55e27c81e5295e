/-
  What is written where one is to write is in order: so it is in drawn blocks. The given statement, with no condition.
-/
import Derived.Test.YtogioeflbbmppaaWpM
import Derived.Test.YtogioeflbbmppaaPlE
import Derived.Test.YtogioeflbbmppaaDrP
import Derived.Test.YtogioeflbbmppaaFacts
import Derived.Lib.SmallJoins
namespace Go.Proofs.Ytogioeflbbmppaa.OrderStep
open Go.ChangeShapes Go.WideShapes Go.ChangeAt Go.RowKit Go.Shelf Go.Joins OkA Big Fl ImplB ImplF ImplS ImplT ImplU SpecA SpecB SpecC SpecD SpecW SpecX SpecF SpecG SpecH FindP FindN FindO FindD ImplW ImplX Pick Draw ClA DrB PlB SpecO FindQ Wp Ws PlC PlD DrP
open FlB (FsN)
open Facts (own laidOut)
set_option linter.unusedVariables false
set_option linter.unusedSimpArgs false
attribute [local go_sem ↓] Go.wp_at_zero Go.wp_at_succ

theorem ordR_iff (bs : List Bk) : ordR bs = true ↔ okB bs = true ∧ ordB bs = true := by unfold ordR; simp
theorem ord_write {bs : List Bk} (h : ordR bs = true) (kb : Nat) (hop : fopR bs = ((kb : Int), true)) (hk : kb < 4) (ra : Int) (torn : Bool) (hw : SpecD.wrB bs (kb : Int) 2 (nextR bs) ra 0 = true) : ordR (wrR bs (kb : Int) 2 (nextR bs) ra 0 torn) = true := by
  obtain ⟨hok, ho⟩ := (ordR_iff bs).1 h
  obtain ⟨e, hX, -⟩ := wrR_yes (torn := torn) hw
  rw [e, ordR_iff]
  simp only [Int.toNat_natCast] at hX ⊢
  exact ⟨hX, ord_wr hok ho kb hop hk 2 (nextR bs) ra 0 (fun b hb p hp => by rw [(next_ok hok).1]; exact page_lt b hb p hp) torn⟩
theorem ord_wipe {bs : List Bk} (h : ordR bs = true) (h0 : ∀ j < 4, cN bs j = 0) (kb : Nat) (torn : Bool) (hw : wiO bs (kb : Int) = true) : ordR (wiR bs (kb : Int) torn) = true := by
  obtain ⟨hok, ho⟩ := (ordR_iff bs).1 h
  obtain ⟨e, hX, -, hk, -⟩ := wiR_yes (torn := torn) hw
  rw [e, ordR_iff]
  simp only [Int.toNat_natCast] at hX hk ⊢
  exact ⟨hX, ord_wi hok ho h0 kb hk torn⟩

set_option maxRecDepth 100000 in
set_option maxHeartbeats 8000000 in
theorem walk (a0 : Option Addr) (len0 cap0 : Nat) (z0 : List Int) (a1 : Option Addr) (len1 cap1 : Nat) (z1 : List Int) (w : World) (h0 : IsRow .u8 w a0 len0 cap0 z0) (h1 : IsRow .u8 w a1 len1 cap1 z1) :
    Calls Try.prog 18 #[.slice a0 len0 cap0, .slice a1 len1 cap1] w fun e w' => e = .returned (.bool true) ∧ Below w.heap.size w w' := by
  have HD := hide (drawOrder_any w a0 len0 cap0 z0 h0)
  clear h0
  clear h1
  go_enter Try.func18, Try.ntmps18
  by_cases hbig0 : 1048576 < (len0 : Int)
  · go_wp2
    go_ret
    exact ⟨rfl, Below.refl _ _⟩
  by_cases hbig1 : 1048576 < (len1 : Int)
  · go_wp2
    go_ret
    exact ⟨rfl, Below.refl _ _⟩
  go_wp2_with fail
  refine (unhide HD).mono ?_
  rintro e w1 ⟨g, o, c, bs, rfl, F1, B⟩
  have h4 := F1.four
  have hp4 := hide F1.pgs
  have hf := F1.fs
  clear HD F1
  generalize hfa : (some ⟨g, o, none⟩ : Option Addr) = fa at *
  have HIO := hide (fun (w' : World) (hF : FsAt w' fa bs) => implOrder_any fa c  bs w' hF (by omega))
  have HSO := hide (fun (w' : World) (hF : FsAt w' fa bs) => specOrder_any fa c  bs w' hF (by omega))
  have HOP := hide (fun (w' : World) (hF : FsAt w' fa bs) => implOpen_any fa c  bs w' hF (by omega))
  have HIN := hide (fun (w' : World) (hF : FsAt w' fa bs) => implNext_any fa c  bs w' hF (by omega))
  have HOL := hide (fun (w' : World) (hF : FsAt w' fa bs) => implOld_any fa c  bs w' hF (by omega))
  have HWR := hide (fun (k rk rs ra rv : Int) (torn : Bool) (w' : World) (hF : FsAt w' fa bs) => implWrite_any fa c k rk rs ra rv torn bs w' hF (by omega))
  have HWI := hide (fun (k : Int) (torn : Bool) (w' : World) (hF : FsAt w' fa bs) => implWipe_any fa c k torn bs w' hF (by omega))
  have HXL : Hid (∀ (k rk rs ra rv : Int) (torn : Bool), (wrR bs k rk rs ra rv torn).length ≤ 4) := fun k rk rs ra rv torn => wrR_len h4
  have HYL : Hid (∀ (k : Int) (torn : Bool), (wiR bs k torn).length ≤ 4) := fun k torn => wiR_len h4
  cases hoR : ordR bs
  · have HA := hide (fun (w' : World) (hF : FsAt w' fa bs) => unhide HIO w' hF)
    have HB := hide (fun (w' : World) (hF : FsAt w' fa bs) => unhide HSO w' hF)
    rw [hoR] at HA HB
    go_wp2_with fail
    refine (unhide HA _ hf).mono ?_
    rintro e u22 ⟨rfl, b⟩
    replace hf := FsAt.below hf b
    replace B := B.trans (b.mono B.size)
    clear b
    go_wp2_with fail
    refine (unhide HB _ hf).mono ?_
    rintro e u23 ⟨rfl, b⟩
    replace hf := FsAt.below hf b
    replace B := B.trans (b.mono B.size)
    clear b
    go_wp2_with fail
    refine (unhide HB _ hf).mono ?_
    rintro e u24 ⟨rfl, b⟩
    replace hf := FsAt.below hf b
    replace B := B.trans (b.mono B.size)
    clear b
    go_wp2
    go_ret
    exact ⟨rfl, B⟩

  obtain ⟨hok, ho⟩ := (ordR_iff bs).1 hoR
  have HA := hide (unhide HIO _ hf)
  rw [hoR] at HA
  go_wp2_with fail
  refine (unhide HA).mono ?_
  rintro e u25 ⟨rfl, b⟩
  replace hf := FsAt.below hf b
  replace B := B.trans (b.mono B.size)
  clear b
  have HB := hide (unhide HSO _ hf)
  rw [hoR] at HB
  go_wp2_with fail
  refine (unhide HB).mono ?_
  rintro e u26 ⟨rfl, b⟩
  replace hf := FsAt.below hf b
  replace B := B.trans (b.mono B.size)
  clear b
  clear HA HB
  obtain ⟨k2, hk2, hk2', k20, k21⟩ : ∃ k : Int, (len1 : Int).tmod 2 = k ∧ (len1 : Int) % 2 = k ∧ 0 ≤ k ∧ k ≤ 1 := ⟨(len1 : Int) % 2, by rw [Int.tmod_eq_emod_of_nonneg (by omega)], rfl, by omega, by omega⟩
  obtain ⟨k6, hk6, hk6', k60, k61⟩ : ∃ k : Int, (len1 : Int).tmod 6 = k ∧ (len1 : Int) % 6 = k ∧ 0 ≤ k ∧ k ≤ 5 := ⟨(len1 : Int) % 6, by rw [Int.tmod_eq_emod_of_nonneg (by omega)], rfl, by omega, by omega⟩
  obtain ⟨tb, htb⟩ : ∃ t : Bool, (k2 == 0) = t := ⟨_, rfl⟩
  rcases fop_cases hok with ⟨e, h0⟩ | ⟨kb, hkb, e, hc⟩
  · have HOP2 := hide (unhide HOP _ hf)
    rw [e] at HOP2
    go_wp2_with fail
    refine (unhide HOP2).mono ?_
    rintro e u27 ⟨rfl, b⟩
    replace hf := FsAt.below hf b
    replace B := B.trans (b.mono B.size)
    clear b
    obtain ⟨hol, hol4⟩ := old_ok hok
    have HO2 := hide (unhide HOL _ hf)
    rw [hol] at HO2
    have HW := hide (fun (h : wiO bs ((oldN bs 3 : Nat) : Int) = true) => ord_wipe hoR h0 (oldN bs 3) tb h)
    generalize oldN bs 3 = od at *
    go_wp2_with fail
    refine (unhide HO2).mono ?_
    rintro e u28 ⟨rfl, b⟩
    replace hf := FsAt.below hf b
    replace B := B.trans (b.mono B.size)
    clear b
    go_wp2_with fail
    refine (unhide HWI (od : Int) tb _ hf).mono ?_
    rintro e u29 ⟨v, rfl, X, b⟩
    replace hf := FsAt.below hf b
    replace B := B.trans (b.mono B.size)
    clear b
    obtain ⟨xa, xc, rfl, hx⟩ := Own.NewFs.form X
    clear X
    cases hO : wiO bs (od : Int)
    · go_wp2
      go_ret
      exact ⟨rfl, B⟩
    · have HX := hide (implOrder_any xa xc _ _ hx (by have := unhide HYL od tb; omega))
      rw [unhide HW hO] at HX
      go_wp2_with fail
      refine (unhide HX).mono ?_
      rintro e u30 ⟨rfl, b⟩
      replace B := B.trans (b.mono B.size)
      clear b
      go_wp2
      go_ret
      exact ⟨rfl, B⟩
  · have HOP2 := hide (unhide HOP _ hf)
    rw [e] at HOP2
    have HW := hide (fun (h : SpecD.wrB bs (kb : Int) 2 (nextR bs) (1 + k6) 0 = true) => ord_write hoR kb e hkb (1 + k6) tb h)
    have hn := next_ok hok
    obtain ⟨-, hn1, hn2⟩ := hn
    generalize nextR bs = n at *
    go_wp2_with fail
    refine (unhide HOP2).mono ?_
    rintro e u31 ⟨rfl, b⟩
    replace hf := FsAt.below hf b
    replace B := B.trans (b.mono B.size)
    clear b
    go_wp2_with fail
    refine (unhide HIN _ hf).mono ?_
    rintro e u32 ⟨rfl, b⟩
    replace hf := FsAt.below hf b
    replace B := B.trans (b.mono B.size)
    clear b
    go_wp2_with fail
    refine (unhide HWR (kb : Int) 2 n (1 + k6) 0 tb _ hf).mono ?_
    rintro e u33 ⟨v, rfl, X, b⟩
    replace hf := FsAt.below hf b
    replace B := B.trans (b.mono B.size)
    clear b
    obtain ⟨xa, xc, rfl, hx⟩ := Own.NewFs.form X
    clear X
    cases hO : SpecD.wrB bs (kb : Int) 2 n (1 + k6) 0
    · go_wp2
      go_ret
      exact ⟨rfl, B⟩
    · have HX := hide (implOrder_any xa xc _ _ hx (by have := unhide HXL kb 2 n (1 + k6) 0 tb; omega))
      rw [unhide HW hO] at HX
      go_wp2_with fail
      refine (unhide HX).mono ?_
      rintro e u34 ⟨rfl, b⟩
      replace B := B.trans (b.mono B.size)
      clear b
      go_wp2
      go_ret
      exact ⟨rfl, B⟩


set_option maxRecDepth 100000 in
theorem lifted (os : Os) (started : os.Started) (H : Type) (enc : TypeId × Value → H) :
    ReturnsInHanded {} Try.checked os 18 .any (Rows.fnOrderStepSpec.pre6 enc Try.prog Try.f18 Rows.fnOrderStepRow.domain false) (Rows.fnOrderStepSpec.post enc Try.prog Try.f18 false true false false) := by
  refine returnsInHanded_of_change (C := Try.checked) own started (by kernel_rfl) Try.func18
    (ChangeSpec.witness6 (enc := enc) (C := Try.checked) false ⟨#[], #[.slice none 0 0, .slice none 0 0], []⟩ 8 (by kernel_rfl) (by kernel_rfl) (by kernel_rfl) (by kernel_rfl)) ?_
  intro W base args ds gs before hval0 hW hcnd _
  have hval : ∀ (j : Nat) t v, Try.f18.params[j]? = some t → args[j]? = some v → Value.okWide Try.prog W .any base t v := hval0
  have hW' := hW
  obtain ⟨p, q, hA0, hV, rfl, hfz, hnd⟩ := hW
  have hA : DataW.TrodAll enc Try.prog W 0 (fun _ => true) true Try.f18.params.toList args.toList ds p := hA0
  rw [Try.params18] at hA hval
  obtain ⟨v0, vs0, d0, ds0, p0, q0, hargs, rfl, rfl, h0, r0⟩ := trodAll_cons hA
  obtain ⟨v1, vs1, d1, ds1, p1, q1, rfl, rfl, rfl, h1, r1⟩ := trodAll_cons r0
  obtain ⟨rfl, rfl, rfl⟩ := trodAll_nil r1
  obtain rfl : args = #[v0, v1] := by cases args; simp_all
  obtain ⟨rfl, rfl⟩ := trodVars_none hV
  have kk0 := h0
  have lt0 : ∀ x ∈ p0, x.block < W.heap.size := by obtain ⟨m, hm⟩ := kk0; exact DataW.trod_lt m _ _ _ hm
  obtain ⟨a0, len0, cap0, rfl⟩ := okWide_slice Try.underlying22 (hval 0 22 v0 rfl rfl)
  obtain ⟨z0, w0⟩ : ∃ zs, IsRow .u8 W a0 len0 cap0 zs := by
    obtain ⟨fuel, hf⟩ := h0
    rcases open_ints Try.underlying22 Try.underlying5 (by kernel_rfl) hf with ⟨hcs, _⟩ | ⟨x, l, c, zs, hcs, _, hl, hm, hz, _, hcell, hwz⟩
    · simp [Value.cells] at hcs
      obtain ⟨rfl, rfl, rfl⟩ := hcs
      exact ⟨[], .inl ⟨rfl, rfl, rfl, rfl⟩⟩
    · simp [Value.cells] at hcs
      obtain ⟨rfl, rfl, rfl⟩ := hcs
      exact ⟨zs, .inr ⟨_, rfl, hl, hm, by simpa using hz, hcell, hwz⟩⟩
  have kk1 := h1
  have lt1 : ∀ x ∈ p1, x.block < W.heap.size := by obtain ⟨m, hm⟩ := kk1; exact DataW.trod_lt m _ _ _ hm
  obtain ⟨a1, len1, cap1, rfl⟩ := okWide_slice Try.underlying22 (hval 1 22 v1 rfl rfl)
  obtain ⟨z1, w1⟩ : ∃ zs, IsRow .u8 W a1 len1 cap1 zs := by
    obtain ⟨fuel, hf⟩ := h1
    rcases open_ints Try.underlying22 Try.underlying5 (by kernel_rfl) hf with ⟨hcs, _⟩ | ⟨x, l, c, zs, hcs, _, hl, hm, hz, _, hcell, hwz⟩
    · simp [Value.cells] at hcs
      obtain ⟨rfl, rfl, rfl⟩ := hcs
      exact ⟨[], .inl ⟨rfl, rfl, rfl, rfl⟩⟩
    · simp [Value.cells] at hcs
      obtain ⟨rfl, rfl, rfl⟩ := hcs
      exact ⟨zs, .inr ⟨_, rfl, hl, hm, by simpa using hz, hcell, hwz⟩⟩
  clear hA0
  refine (walk a0 len0 cap0 z0 a1 len1 cap1 z1 W w0 w1).mono fun e W' ⟨he, bel⟩ => ?_
  subst he
  exact ⟨_, rfl, _, _, _, [], _, [], hW', trodAll_mk1 (shut_bool Try.underlying4 _), (trodAll_cons_mk (Below.trod laidOut (by kernel_rfl) (of_decide_eq_true (by kernel_rfl)) kk0 bel lt0) (trodAll_cons_mk (Below.trod laidOut (by kernel_rfl) (of_decide_eq_true (by kernel_rfl)) kk1 bel lt1) trodAll_mk0)), rfl, bel.frame _, fun h => by cases h⟩

set_option maxRecDepth 100000 in
theorem facts : joinedFacts Try.prog 18 Try.f18 Rows.fnOrderStepSpec Rows.fnOrderStepRow = true := by
  unfold joinedFacts
  refine Facts.and_t ?_ (by as_aux_lemma => kernel_rfl)
  refine Facts.and_t ?_ (by as_aux_lemma => kernel_rfl)
  refine Facts.and_t ?_ (by as_aux_lemma => kernel_rfl)
  refine Facts.and_t ?_ (by as_aux_lemma => kernel_rfl)
  refine Facts.and_t ?_ (by show (Try.prog.make == some Make.cut) = true; rw [Facts.made]; rfl)
  refine Facts.and_t ?_ (by show (false == Try.prog.liftsFinal) = true; rw [Facts.lifts]; rfl)
  refine Facts.and_t ?_ (Facts.enters)
  refine Facts.and_t ?_ (Facts.heard)
  refine Facts.and_t ?_ (rfl)
  refine Facts.and_t ?_ (by show (true == Try.prog.plainKeys) = true; rw [Facts.keys]; rfl)
  refine Facts.and_t ?_ (by as_aux_lemma => kernel_rfl)
  refine Facts.and_t ?_ (by as_aux_lemma => kernel_rfl)
  refine Facts.and_t ?_ (by as_aux_lemma => kernel_rfl)
  refine Facts.and_t ?_ (by as_aux_lemma => kernel_rfl)
  refine Facts.and_t ?_ (by as_aux_lemma => kernel_rfl)
  refine Facts.and_t ?_ (by as_aux_lemma => kernel_rfl)
  refine Facts.and_t ?_ (by as_aux_lemma => kernel_rfl)
  refine Facts.and_t ?_ (by as_aux_lemma => kernel_rfl)
  refine Facts.and_t ?_ (by as_aux_lemma => kernel_rfl)
  refine Facts.and_t ?_ (by as_aux_lemma => kernel_rfl)
  refine Facts.and_t ?_ (by as_aux_lemma => kernel_rfl)
  refine Facts.and_t ?_ (by as_aux_lemma => kernel_rfl)
  refine Facts.and_t ?_ (by as_aux_lemma => kernel_rfl)
  refine Facts.and_t ?_ (by as_aux_lemma => kernel_rfl)
  refine Facts.and_t ?_ (by as_aux_lemma => kernel_rfl)
  refine Facts.and_t ?_ (by as_aux_lemma => kernel_rfl)
  refine Facts.and_t ?_ (by as_aux_lemma => kernel_rfl)
  refine Facts.and_t ?_ (by as_aux_lemma => kernel_rfl)
  refine Facts.and_t ?_ (by as_aux_lemma => kernel_rfl)
  refine Facts.and_t ?_ (Facts.rowed)
  refine Facts.and_t ?_ (Facts.laidOut)
  kernel_rfl

theorem over : Rows.fnOrderStepRow.holds Try.pinned (OpenSpec.ofChange Rows.fnOrderStepSpec) :=
  OpenClaim.holds_of_wide 18 Try.f18 rfl rfl rfl rfl rfl rfl rfl ⟨rfl, rfl, rfl, rfl, rfl⟩ rfl rfl rfl rfl rfl (by kernel_rfl) Try.func18 facts
    (of_decide_eq_true (by kernel_rfl)) (by unfold Func.isWrapper; first | (rw [if_pos (by decide +kernel)]; kernel_rfl) | (rw [if_neg (by decide +kernel)]; exact ⟨rfl, rfl⟩))
    (fun os started H enc _ => lifted os started H enc)

end Go.Proofs.Ytogioeflbbmppaa.OrderStep
namespace Go.Proofs.Ytogioeflbbmppaa
theorem fnOrderStep_holds : Rows.FnOrderStepSaid := OrderStep.over
end Go.Proofs.Ytogioeflbbmppaa
