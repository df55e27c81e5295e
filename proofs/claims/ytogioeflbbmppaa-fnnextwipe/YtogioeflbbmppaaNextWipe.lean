/-
  What is wiped is not counted: so it is not in drawn blocks. The given statement, with no condition.
-/
import Derived.Test.YtogioeflbbmppaaDrwD
import Derived.Test.YtogioeflbbmppaaPlB
import Derived.Test.YtogioeflbbmppaaFacts
import Derived.Lib.SmallJoins
namespace Go.Proofs.Ytogioeflbbmppaa.NextWipe
open Go.ChangeShapes Go.WideShapes Go.ChangeAt Go.RowKit Go.Shelf Go.Joins OkA Big Fl ImplB ImplF ImplS ImplT ImplU SpecA SpecB SpecC SpecD SpecW SpecX SpecF SpecG SpecH FindP FindN FindO FindD ImplW ImplX Pick Draw ClA DrB PlB 
open FlB (FsN)
open Facts (own laidOut)
set_option linter.unusedVariables false
set_option linter.unusedSimpArgs false
attribute [local go_sem ↓] Go.wp_at_zero Go.wp_at_succ

theorem next_zero (a : Option Addr) (cap : Nat) (w : World) (hF : FsAt w a zFs) : Calls Try.prog 47 #[.slice a 4 cap] w fun e w' => e = .returned (.int .i64 1) ∧ Below w.heap.size w w' := by
  have := implNext_any a cap zFs w hF (by simp [zFs])
  rw [next_new] at this
  exact this

set_option maxRecDepth 100000 in
set_option maxHeartbeats 8000000 in
theorem walk (a0 : Option Addr) (len0 cap0 : Nat) (z0 : List Int) (a1 : Option Addr) (len1 cap1 : Nat) (z1 : List Int) (w : World) (h0 : IsRow .u8 w a0 len0 cap0 z0) (h1 : IsRow .u8 w a1 len1 cap1 z1) :
    Calls Try.prog 23 #[.slice a0 len0 cap0, .slice a1 len1 cap1] w fun e w' => e = .returned (.bool true) ∧ Below w.heap.size w w' := by
  have HD := hide (drawNext_any w a0 len0 cap0 z0 h0)
  clear h0
  clear h1
  go_enter Try.func23, Try.ntmps23
  by_cases hbig0 : 1048576 < (len0 : Int)
  · go_wp2
    go_ret
    exact ⟨rfl, Below.refl _ _⟩
  by_cases hbig1 : 1048576 < (len1 : Int)
  · go_wp2
    go_ret
    exact ⟨rfl, Below.refl _ _⟩
  go_wp2_with fail
  refine (unhide HD).mono ?_
  rintro e w1 ⟨g, o, c, bs, rfl, F1, B⟩
  have h4 := F1.four
  have hp4 := hide F1.pgs
  have hf := F1.fs
  clear HD F1
  generalize hfa : (some ⟨g, o, none⟩ : Option Addr) = fa at *
  have HIN := hide (fun (w' : World) (hF : FsAt w' fa bs) => implNext_any fa c  bs w' hF (by omega))
  have HSN := hide (fun (w' : World) (hF : FsAt w' fa bs) => specNext_any fa c  bs w' hF (by omega) (fun b hb => by have := unhide hp4 b hb; omega))
  have HOK := hide (fun (w' : World) (hF : FsAt w' fa bs) => specFlashOk_any fa c  bs w' hF (by omega))
  have HWI := hide (fun (k : Int) (torn : Bool) (w' : World) (hF : FsAt w' fa bs) => implWipe_any fa c k torn bs w' hF (by omega))
  have HWN := hide (fun (k : Int) (torn : Bool) (h : wiO bs k = true) => next_wi (torn := torn) h)
  have HWL : Hid (∀ (k : Int) (torn : Bool), (wiR bs k torn).length ≤ 4) := fun k torn => by
    unfold wiR
    split
    · split
      · exact h4
      · rw [SpecX.wiL_len]; exact h4
    · simp
  generalize hn : nextR bs = n at *
  clear hn
  have hnn : (n != n) = false := by simp
  have hne : (n == n) = true := by simp
  go_wp2_with fail
  refine (unhide HIN _ hf).mono ?_
  rintro e u1 ⟨rfl, b⟩
  replace hf := FsAt.below hf b
  replace B := B.trans (b.mono B.size)
  clear b
  go_wp2_with fail
  refine (unhide HSN _ hf).mono ?_
  rintro e u2 ⟨rfl, b⟩
  replace hf := FsAt.below hf b
  replace B := B.trans (b.mono B.size)
  clear b
  go_wp2_with fail
  refine (unhide HOK _ hf).mono ?_
  rintro e u3 ⟨rfl, b⟩
  replace hf := FsAt.below hf b
  replace B := B.trans (b.mono B.size)
  clear b
  cases hok : okB bs
  · go_wp2_with fail
    refine (unhide HSN _ hf).mono ?_
    rintro e u4 ⟨rfl, b⟩
    replace hf := FsAt.below hf b
    replace B := B.trans (b.mono B.size)
    clear b
    go_wp2
    go_ret
    exact ⟨rfl, B⟩
  obtain ⟨k, hk, k0, k1⟩ : ∃ k : Int, (len1 : Int).tmod 4 = k ∧ 0 ≤ k ∧ k ≤ 3 := ⟨_, rfl, Int.tmod_nonneg 4 (by omega), by have := Int.tmod_lt_of_pos (len1 : Int) (show (0 : Int) < 4 by omega); omega⟩
  obtain ⟨k2, hk2, k20, k21⟩ : ∃ k : Int, (len1 : Int).tmod 2 = k ∧ 0 ≤ k ∧ k ≤ 1 := ⟨_, rfl, Int.tmod_nonneg 2 (by omega), by have := Int.tmod_lt_of_pos (len1 : Int) (show (0 : Int) < 2 by omega); omega⟩
  go_wp2_with fail
  refine (unhide HWI k _ _ hf).mono ?_
  rintro e u5 ⟨v, rfl, X, b⟩
  replace hf := FsAt.below hf b
  replace B := B.trans (b.mono B.size)
  clear b
  obtain ⟨xa, xc, rfl, hx⟩ := Own.NewFs.form X
  clear X
  cases hO : wiO bs k
  · go_wp2_with fail
    refine (flashNew_any _).mono ?_
    rintro e v1 ⟨ng, nG, rfl, O, b⟩
    have hz := O.fs
    replace B := B.trans (b.mono B.size)
    clear b O
    go_wp2_with fail
    refine (next_zero _ _ _ hz).mono ?_
    rintro e v2 ⟨rfl, b⟩
    replace B := B.trans (b.mono B.size)
    clear b
    go_wp2
    go_ret
    exact ⟨rfl, B⟩
  · obtain ⟨hm1, hm2⟩ := unhide HWN k _ hO
    have HX := hide (fun (w' : World) (hF : FsAt w' xa (wiR bs k (k2 == 0))) => implNext_any xa xc _ w' hF (by have := unhide HWL k (k2 == 0); omega))
    generalize wiR bs k (k2 == 0) = X at *
    generalize nextR X = m at *
    go_wp2_with fail
    refine (unhide HX _ hx).mono ?_
    rintro e u6 ⟨rfl, b⟩
    replace hf := FsAt.below hf b
    replace hx := FsAt.below hx b
    replace B := B.trans (b.mono B.size)
    clear b
    go_wp2_with fail
    refine (unhide HX _ hx).mono ?_
    rintro e u7 ⟨rfl, b⟩
    replace hf := FsAt.below hf b
    replace hx := FsAt.below hx b
    replace B := B.trans (b.mono B.size)
    clear b
    go_wp2_with fail
    refine (flashNew_any _).mono ?_
    rintro e v1 ⟨ng, nG, rfl, O, b⟩
    have hz := O.fs
    replace B := B.trans (b.mono B.size)
    clear b O
    go_wp2_with fail
    refine (next_zero _ _ _ hz).mono ?_
    rintro e v2 ⟨rfl, b⟩
    replace B := B.trans (b.mono B.size)
    clear b
    go_wp2
    go_ret
    exact ⟨rfl, B⟩


set_option maxRecDepth 100000 in
theorem lifted (os : Os) (started : os.Started) (H : Type) (enc : TypeId × Value → H) :
    ReturnsInHanded {} Try.checked os 23 .any (Rows.fnNextWipeSpec.pre6 enc Try.prog Try.f23 Rows.fnNextWipeRow.domain false) (Rows.fnNextWipeSpec.post enc Try.prog Try.f23 false true false false) := by
  refine returnsInHanded_of_change (C := Try.checked) own started (by kernel_rfl) Try.func23
    (ChangeSpec.witness6 (enc := enc) (C := Try.checked) false ⟨#[], #[.slice none 0 0, .slice none 0 0], []⟩ 8 (by kernel_rfl) (by kernel_rfl) (by kernel_rfl) (by kernel_rfl)) ?_
  intro W base args ds gs before hval0 hW hcnd _
  have hval : ∀ (j : Nat) t v, Try.f23.params[j]? = some t → args[j]? = some v → Value.okWide Try.prog W .any base t v := hval0
  have hW' := hW
  obtain ⟨p, q, hA0, hV, rfl, hfz, hnd⟩ := hW
  have hA : DataW.TrodAll enc Try.prog W 0 (fun _ => true) true Try.f23.params.toList args.toList ds p := hA0
  rw [Try.params23] at hA hval
  obtain ⟨v0, vs0, d0, ds0, p0, q0, hargs, rfl, rfl, h0, r0⟩ := trodAll_cons hA
  obtain ⟨v1, vs1, d1, ds1, p1, q1, rfl, rfl, rfl, h1, r1⟩ := trodAll_cons r0
  obtain ⟨rfl, rfl, rfl⟩ := trodAll_nil r1
  obtain rfl : args = #[v0, v1] := by cases args; simp_all
  obtain ⟨rfl, rfl⟩ := trodVars_none hV
  have kk0 := h0
  have lt0 : ∀ x ∈ p0, x.block < W.heap.size := by obtain ⟨m, hm⟩ := kk0; exact DataW.trod_lt m _ _ _ hm
  obtain ⟨a0, len0, cap0, rfl⟩ := okWide_slice Try.underlying22 (hval 0 22 v0 rfl rfl)
  obtain ⟨z0, w0⟩ : ∃ zs, IsRow .u8 W a0 len0 cap0 zs := by
    obtain ⟨fuel, hf⟩ := h0
    rcases open_ints Try.underlying22 Try.underlying5 (by kernel_rfl) hf with ⟨hcs, _⟩ | ⟨x, l, c, zs, hcs, _, hl, hm, hz, _, hcell, hwz⟩
    · simp [Value.cells] at hcs
      obtain ⟨rfl, rfl, rfl⟩ := hcs
      exact ⟨[], .inl ⟨rfl, rfl, rfl, rfl⟩⟩
    · simp [Value.cells] at hcs
      obtain ⟨rfl, rfl, rfl⟩ := hcs
      exact ⟨zs, .inr ⟨_, rfl, hl, hm, by simpa using hz, hcell, hwz⟩⟩
  have kk1 := h1
  have lt1 : ∀ x ∈ p1, x.block < W.heap.size := by obtain ⟨m, hm⟩ := kk1; exact DataW.trod_lt m _ _ _ hm
  obtain ⟨a1, len1, cap1, rfl⟩ := okWide_slice Try.underlying22 (hval 1 22 v1 rfl rfl)
  obtain ⟨z1, w1⟩ : ∃ zs, IsRow .u8 W a1 len1 cap1 zs := by
    obtain ⟨fuel, hf⟩ := h1
    rcases open_ints Try.underlying22 Try.underlying5 (by kernel_rfl) hf with ⟨hcs, _⟩ | ⟨x, l, c, zs, hcs, _, hl, hm, hz, _, hcell, hwz⟩
    · simp [Value.cells] at hcs
      obtain ⟨rfl, rfl, rfl⟩ := hcs
      exact ⟨[], .inl ⟨rfl, rfl, rfl, rfl⟩⟩
    · simp [Value.cells] at hcs
      obtain ⟨rfl, rfl, rfl⟩ := hcs
      exact ⟨zs, .inr ⟨_, rfl, hl, hm, by simpa using hz, hcell, hwz⟩⟩
  clear hA0
  refine (walk a0 len0 cap0 z0 a1 len1 cap1 z1 W w0 w1).mono fun e W' ⟨he, bel⟩ => ?_
  subst he
  exact ⟨_, rfl, _, _, _, [], _, [], hW', trodAll_mk1 (shut_bool Try.underlying4 _), (trodAll_cons_mk (Below.trod laidOut (by kernel_rfl) (of_decide_eq_true (by kernel_rfl)) kk0 bel lt0) (trodAll_cons_mk (Below.trod laidOut (by kernel_rfl) (of_decide_eq_true (by kernel_rfl)) kk1 bel lt1) trodAll_mk0)), rfl, bel.frame _, fun h => by cases h⟩

set_option maxRecDepth 100000 in
theorem facts : joinedFacts Try.prog 23 Try.f23 Rows.fnNextWipeSpec Rows.fnNextWipeRow = true := by
  unfold joinedFacts
  refine Facts.and_t ?_ (by as_aux_lemma => kernel_rfl)
  refine Facts.and_t ?_ (by as_aux_lemma => kernel_rfl)
  refine Facts.and_t ?_ (by as_aux_lemma => kernel_rfl)
  refine Facts.and_t ?_ (by as_aux_lemma => kernel_rfl)
  refine Facts.and_t ?_ (by show (Try.prog.make == some Make.cut) = true; rw [Facts.made]; rfl)
  refine Facts.and_t ?_ (by show (false == Try.prog.liftsFinal) = true; rw [Facts.lifts]; rfl)
  refine Facts.and_t ?_ (Facts.enters)
  refine Facts.and_t ?_ (Facts.heard)
  refine Facts.and_t ?_ (rfl)
  refine Facts.and_t ?_ (by show (true == Try.prog.plainKeys) = true; rw [Facts.keys]; rfl)
  refine Facts.and_t ?_ (by as_aux_lemma => kernel_rfl)
  refine Facts.and_t ?_ (by as_aux_lemma => kernel_rfl)
  refine Facts.and_t ?_ (by as_aux_lemma => kernel_rfl)
  refine Facts.and_t ?_ (by as_aux_lemma => kernel_rfl)
  refine Facts.and_t ?_ (by as_aux_lemma => kernel_rfl)
  refine Facts.and_t ?_ (by as_aux_lemma => kernel_rfl)
  refine Facts.and_t ?_ (by as_aux_lemma => kernel_rfl)
  refine Facts.and_t ?_ (by as_aux_lemma => kernel_rfl)
  refine Facts.and_t ?_ (by as_aux_lemma => kernel_rfl)
  refine Facts.and_t ?_ (by as_aux_lemma => kernel_rfl)
  refine Facts.and_t ?_ (by as_aux_lemma => kernel_rfl)
  refine Facts.and_t ?_ (by as_aux_lemma => kernel_rfl)
  refine Facts.and_t ?_ (by as_aux_lemma => kernel_rfl)
  refine Facts.and_t ?_ (by as_aux_lemma => kernel_rfl)
  refine Facts.and_t ?_ (by as_aux_lemma => kernel_rfl)
  refine Facts.and_t ?_ (by as_aux_lemma => kernel_rfl)
  refine Facts.and_t ?_ (by as_aux_lemma => kernel_rfl)
  refine Facts.and_t ?_ (by as_aux_lemma => kernel_rfl)
  refine Facts.and_t ?_ (by as_aux_lemma => kernel_rfl)
  refine Facts.and_t ?_ (Facts.rowed)
  refine Facts.and_t ?_ (Facts.laidOut)
  kernel_rfl

theorem over : Rows.fnNextWipeRow.holds Try.pinned (OpenSpec.ofChange Rows.fnNextWipeSpec) :=
  OpenClaim.holds_of_wide 23 Try.f23 rfl rfl rfl rfl rfl rfl rfl ⟨rfl, rfl, rfl, rfl, rfl⟩ rfl rfl rfl rfl rfl (by kernel_rfl) Try.func23 facts
    (of_decide_eq_true (by kernel_rfl)) (by unfold Func.isWrapper; first | (rw [if_pos (by decide +kernel)]; kernel_rfl) | (rw [if_neg (by decide +kernel)]; exact ⟨rfl, rfl⟩))
    (fun os started H enc _ => lifted os started H enc)

end Go.Proofs.Ytogioeflbbmppaa.NextWipe
namespace Go.Proofs.Ytogioeflbbmppaa
theorem fnNextWipe_holds : Rows.FnNextWipeSaid := NextWipe.over
end Go.Proofs.Ytogioeflbbmppaa
