/-
  Clean pages stand behind all others: so they do in drawn blocks. The given statement, with no condition.
-/
import Derived.Test.YtbfklmlniepihaaClA
import Derived.Test.YtbfklmlniepihaaImplU
import Derived.Test.YtbfklmlniepihaaSpecB
import Derived.Test.YtbfklmlniepihaaFacts
import Derived.Lib.SmallJoins
namespace Go.Proofs.Ytbfklmlniepihaa.CleanAll
open Go.ChangeShapes Go.WideShapes Go.ChangeAt Go.RowKit Go.Shelf Big Fl ImplF ImplL Kp StA RmA DoA AlA DpA NwA Pick Draw EvA ImplB ImplS ImplU SpecC SpecD SpecW ImplW PyA Go.Joins OkA SpecB FlB ClA
open Facts (own laidOut)
set_option linter.unusedVariables false
set_option linter.unusedSimpArgs false
attribute [local go_sem ↓] Go.wp_at_zero Go.wp_at_succ

theorem used_after : ∀ (ps : List Pg) (j : Nat) (hj : j < ps.length), usedN ps ≤ j → clB ps[j] = true
  | p :: r, 0, _, h => by
    simp only [usedN] at h
    split at h
    · split at h
      · simpa using ‹clB p = true›
      · omega
    · omega
  | p :: r, j + 1, hj, h => by
    simp only [List.getElem_cons_succ]
    refine used_after r j (by simpa using hj) ?_
    simp only [usedN] at h
    split at h
    · omega
    · omega
theorem clean_page {bs : List Bk} (hok : okB bs = true) (k : Nat) (hk : k < 4) (j : Nat) (hj : j < 4) (n : Int) (hn : cleanR bs (k : Int) = n) (hb : k < bs.length) (hp : j < bs[k].ps.length) : (bs[k].ps[j].st == 0) = decide (4 - n ≤ (j : Int)) := by
  have h4 := ok_fours hok bs[k] (List.getElem_mem hb)
  have hin : inB (k : Int) 0 3 = true := by simp [inB]; omega
  unfold cleanR at hn
  rw [hok, hin] at hn
  simp only [Bool.and_self, if_true, Int.toNat_natCast] at hn
  rw [show bs.getD k zBk = bs[k] by simp [List.getD, hb]] at hn
  have hbk : bkB bs[k] = true := by
    simp only [okB, Bool.and_eq_true, List.all_eq_true] at hok
    exact hok.1.2 _ (List.getElem_mem hb)
  have ht : tailB bs[k].ps = true := by simp only [bkB, Bool.and_eq_true] at hbk; exact hbk.2
  have hcl : ∀ p : Pg, clB p = (p.st == 0) := fun p => rfl
  rw [← hcl]
  by_cases hu : usedN bs[k].ps ≤ j
  · rw [used_after _ j hp hu]; symm; simp; omega
  · rw [(tailB_iff _).1 ht j hp (by omega)]; symm; simp; omega

set_option maxRecDepth 100000 in
set_option maxHeartbeats 4000000 in
theorem walk (a0 : Option Addr) (len0 cap0 : Nat) (z0 : List Int) (w : World) (h0 : IsRow .u8 w a0 len0 cap0 z0) :
    Calls Try.prog 3 #[.slice a0 len0 cap0] w fun e w' => e = .returned (.bool true) ∧ Below w.heap.size w w' := by
  have HD := hide (drawClean_any w a0 len0 cap0 z0 h0)
  clear h0
  go_enter Try.func3, Try.ntmps3
  by_cases hbig : 1048576 < (len0 : Int)
  · go_wp2
    go_ret
    exact ⟨rfl, Below.refl _ _⟩
  go_wp2_with fail
  refine (unhide HD).mono ?_
  rintro e w1 ⟨g, o, c, bs, k, rfl, F1, k0, k1, B1⟩
  have h4 := F1.four
  have HCL := hide (fun (b : Int) (w' : World) (hF : FsN w.heap.size w' g o bs) => flashClean_any (some ⟨g, o, none⟩) c b bs w' hF.fs (by omega))
  have HSC := hide (fun (b : Int) (w' : World) (hF : FsN w.heap.size w' g o bs) => specClean_any (some ⟨g, o, none⟩) c b bs w' hF.fs (by omega))
  have HOK := hide (fun (w' : World) (hF : FsN w.heap.size w' g o bs) => specFlashOk_any (some ⟨g, o, none⟩) c bs w' hF.fs (by omega))
  have HM1 : Hid (cleanR bs (-1) = -1) := by show _ = _; simp [cleanR, inB]
  have HM4 : Hid (cleanR bs 4 = -1) := by show _ = _; simp [cleanR, inB]
  have HPG := hide (fun (hok : okB bs = true) (k : Nat) (hk : k < 4) (j : Nat) (hj : j < 4) (n : Int) (hn : cleanR bs (k : Int) = n) (hb : k < bs.length) (hp : j < bs[k].ps.length) => clean_page hok k hk j hj n hn hb hp)
  clear HD
  go_wp2_with fail
  refine (unhide HCL k _ F1).mono ?_
  rintro e w2 ⟨rfl, b2⟩
  have F2 := FsN.below F1 b2
  have B2 := B1.trans (b2.mono B1.size)
  clear F1 B1 b2
  generalize hn : cleanR bs k = n at *
  have HN := hide hn
  clear hn
  have HSC2 := hide (fun (w' : World) (hF : FsN w.heap.size w' g o bs) => unhide HSC k w' hF)
  rw [unhide HN] at HSC2
  have hnn : (n != n) = false := by simp
  have hne : (n == n) = true := by simp
  go_wp2_with fail
  refine (unhide HSC2 _ F2).mono ?_
  rintro e w3 ⟨rfl, b3⟩
  have F3 := FsN.below F2 b3
  have B3 := B2.trans (b3.mono B2.size)
  clear F2 B2 b3
  go_wp2_with fail
  refine (unhide HOK _ F3).mono ?_
  rintro e w4 ⟨rfl, b4⟩
  have F4 := FsN.below F3 b4
  have B4 := B3.trans (b4.mono B3.size)
  clear F3 B3 b4
  cases hok : okB bs
  · go_wp2_with fail
    refine (unhide HSC2 _ F4).mono ?_
    rintro e w5 ⟨rfl, b5⟩
    have B5 := B4.trans (b5.mono B4.size)
    go_wp2
    go_ret
    exact ⟨rfl, B5⟩
  have hkn : ¬ k < 0 := by omega
  by_cases hk4 : 4 ≤ k
  · go_wp2_with fail
    refine (unhide HSC2 _ F4).mono ?_
    rintro e w5 ⟨rfl, b5⟩
    have B5 := B4.trans (b5.mono B4.size)
    go_wp2
    go_ret
    exact ⟨rfl, B5⟩
  obtain ⟨K, rfl⟩ := Int.eq_ofNat_of_zero_le k0
  have hK : K < bs.length := by rw [ok_len hok]; omega
  have hK4 : bs[K].ps.length = 4 := (ok_fours hok).at K hK
  have hKl : (K : Int) < (bs.length : Int) := by omega
  have hn4 : -1 ≤ n ∧ n ≤ 4 := by
    have := unhide HN
    unfold cleanR at this
    split at this
    · have h9 := usedN_le (bs.getD (K : Int).toNat zBk).ps
      have h8 : (bs.getD (K : Int).toNat zBk).ps.length = 4 := by
        rw [Int.toNat_natCast, show bs.getD K zBk = bs[K] by simp [List.getD, hK]]; exact hK4
      omega
    · omega
  obtain ⟨hna, hnb⟩ := hn4
  go_wp2
  go_loop [6] (fun i => ∃ j : Nat, j ≤ 4 ∧ i = .int .i64 j) (fun i => 4 - (intOf i).toNat)
  case atStart => exact ⟨0, by omega, rfl⟩
  case round =>
    obtain ⟨j, hj, rfl⟩ := hrel
    by_cases hj4 : j = 4
    · subst hj4
      go_wp2_with fail
      have HA := hide (unhide HCL (-1) _ F4)
      rw [unhide HM1] at HA
      refine (unhide HA).mono ?_
      rintro e w5 ⟨rfl, b5⟩
      have F5 := FsN.below F4 b5
      have B5 := B4.trans (b5.mono B4.size)
      clear F4 B4 b5 HA
      have HA := hide (unhide HCL 4 _ F5)
      rw [unhide HM4] at HA
      go_wp2_with fail
      refine (unhide HA).mono ?_
      rintro e w6 ⟨rfl, b6⟩
      have B6 := B5.trans (b6.mono B5.size)
      clear F5 B5 b6 HA
      go_wp2
      go_ret
      exact ⟨rfl, B6⟩
    · have hj3 : j < 4 := by omega
      have hp := unhide HPG hok K (by omega) j hj3 n (unhide HN) hK (by omega)
      obtain ⟨pb, po, pc, c0, _, hr, _⟩ := F4.bk K hK
      rw [hK4] at c0
      have d0 := (PsAt.cells hr j (by omega)).1
      have hji : (j : Int) < 4 := by omega
      have hlo : (0 : Int) ≤ (j : Int) := by omega
      have hKi : (K : Int) < 4 := by omega
      have hK0 : (0 : Int) ≤ (K : Int) := by omega
      clear hr
      generalize bs[K].ps[j].st = st at *
      by_cases hq : 4 - n ≤ (j : Int)
      · have hst : st = 0 := by simpa [hq] using hp
        subst hst
        clear hp
        go_wp2
        go_round
        case rel => exact ⟨j + 1, by omega, by first | rfl | go_num⟩
        case measure => simp [intOf]; omega
      · have hst : (st == 0) = false := by rw [hp]; simpa using hq
        clear hp
        go_wp2
        go_round
        case rel => exact ⟨j + 1, by omega, by first | rfl | go_num⟩
        case measure => simp [intOf]; omega


set_option maxRecDepth 100000 in
theorem lifted (os : Os) (started : os.Started) (H : Type) (enc : TypeId × Value → H) :
    ReturnsInHanded {} Try.checked os 3 .any (Rows.fnCleanAllSpec.pre6 enc Try.prog Try.f3 Rows.fnCleanAllRow.domain false) (Rows.fnCleanAllSpec.post enc Try.prog Try.f3 false true false false) := by
  refine returnsInHanded_of_change (C := Try.checked) own started (by kernel_rfl) Try.func3
    (ChangeSpec.witness6 (enc := enc) (C := Try.checked) false ⟨#[], #[.slice none 0 0], []⟩ 8 (by kernel_rfl) (by kernel_rfl) (by kernel_rfl) (by kernel_rfl)) ?_
  intro W base args ds gs before hval0 hW hcnd _
  have hval : ∀ (j : Nat) t v, Try.f3.params[j]? = some t → args[j]? = some v → Value.okWide Try.prog W .any base t v := hval0
  have hW' := hW
  obtain ⟨p, q, hA0, hV, rfl, hfz, hnd⟩ := hW
  have hA : DataW.TrodAll enc Try.prog W 0 (fun _ => true) true Try.f3.params.toList args.toList ds p := hA0
  rw [Try.params3] at hA hval
  obtain ⟨v0, vs0, d0, ds0, p0, q0, hargs, rfl, rfl, h0, r0⟩ := trodAll_cons hA
  obtain ⟨rfl, rfl, rfl⟩ := trodAll_nil r0
  obtain rfl : args = #[v0] := by cases args; simp_all
  obtain ⟨rfl, rfl⟩ := trodVars_none hV
  have kk0 := h0
  have lt0 : ∀ x ∈ p0, x.block < W.heap.size := by obtain ⟨m, hm⟩ := kk0; exact DataW.trod_lt m _ _ _ hm
  obtain ⟨a0, len0, cap0, rfl⟩ := okWide_slice Try.underlying22 (hval 0 22 v0 rfl rfl)
  obtain ⟨z0, w0⟩ : ∃ zs, IsRow .u8 W a0 len0 cap0 zs := by
    obtain ⟨fuel, hf⟩ := h0
    rcases open_ints Try.underlying22 Try.underlying5 (by kernel_rfl) hf with ⟨hcs, _⟩ | ⟨x, l, c, zs, hcs, _, hl, hm, hz, _, hcell, hwz⟩
    · simp [Value.cells] at hcs
      obtain ⟨rfl, rfl, rfl⟩ := hcs
      exact ⟨[], .inl ⟨rfl, rfl, rfl, rfl⟩⟩
    · simp [Value.cells] at hcs
      obtain ⟨rfl, rfl, rfl⟩ := hcs
      exact ⟨zs, .inr ⟨_, rfl, hl, hm, by simpa using hz, hcell, hwz⟩⟩
  clear hA0
  refine (walk a0 len0 cap0 z0 W w0).mono fun e W' ⟨he, bel⟩ => ?_
  subst he
  exact ⟨_, rfl, _, _, _, [], _, [], hW', trodAll_mk1 (shut_bool Try.underlying4 _), (trodAll_cons_mk (Below.trod laidOut (by kernel_rfl) (of_decide_eq_true (by kernel_rfl)) kk0 bel lt0) trodAll_mk0), rfl, bel.frame _, fun h => by cases h⟩

set_option maxRecDepth 100000 in
theorem facts : joinedFacts Try.prog 3 Try.f3 Rows.fnCleanAllSpec Rows.fnCleanAllRow = true := by
  unfold joinedFacts
  refine Facts.and_t ?_ (by as_aux_lemma => kernel_rfl)
  refine Facts.and_t ?_ (by as_aux_lemma => kernel_rfl)
  refine Facts.and_t ?_ (by as_aux_lemma => kernel_rfl)
  refine Facts.and_t ?_ (by as_aux_lemma => kernel_rfl)
  refine Facts.and_t ?_ (by show (Try.prog.make == some Make.cut) = true; rw [Facts.made]; rfl)
  refine Facts.and_t ?_ (by show (false == Try.prog.liftsFinal) = true; rw [Facts.lifts]; rfl)
  refine Facts.and_t ?_ (Facts.enters)
  refine Facts.and_t ?_ (Facts.heard)
  refine Facts.and_t ?_ (rfl)
  refine Facts.and_t ?_ (by show (true == Try.prog.plainKeys) = true; rw [Facts.keys]; rfl)
  refine Facts.and_t ?_ (by as_aux_lemma => kernel_rfl)
  refine Facts.and_t ?_ (by as_aux_lemma => kernel_rfl)
  refine Facts.and_t ?_ (by as_aux_lemma => kernel_rfl)
  refine Facts.and_t ?_ (by as_aux_lemma => kernel_rfl)
  refine Facts.and_t ?_ (by as_aux_lemma => kernel_rfl)
  refine Facts.and_t ?_ (by as_aux_lemma => kernel_rfl)
  refine Facts.and_t ?_ (by as_aux_lemma => kernel_rfl)
  refine Facts.and_t ?_ (by as_aux_lemma => kernel_rfl)
  refine Facts.and_t ?_ (by as_aux_lemma => kernel_rfl)
  refine Facts.and_t ?_ (by as_aux_lemma => kernel_rfl)
  refine Facts.and_t ?_ (by as_aux_lemma => kernel_rfl)
  refine Facts.and_t ?_ (by as_aux_lemma => kernel_rfl)
  refine Facts.and_t ?_ (by as_aux_lemma => kernel_rfl)
  refine Facts.and_t ?_ (by as_aux_lemma => kernel_rfl)
  refine Facts.and_t ?_ (by as_aux_lemma => kernel_rfl)
  refine Facts.and_t ?_ (by as_aux_lemma => kernel_rfl)
  refine Facts.and_t ?_ (by as_aux_lemma => kernel_rfl)
  refine Facts.and_t ?_ (by as_aux_lemma => kernel_rfl)
  refine Facts.and_t ?_ (by as_aux_lemma => kernel_rfl)
  refine Facts.and_t ?_ (Facts.rowed)
  refine Facts.and_t ?_ (Facts.laidOut)
  kernel_rfl

theorem over : Rows.fnCleanAllRow.holds Try.pinned (OpenSpec.ofChange Rows.fnCleanAllSpec) :=
  OpenClaim.holds_of_wide 3 Try.f3 rfl rfl rfl rfl rfl rfl rfl ⟨rfl, rfl, rfl, rfl, rfl⟩ rfl rfl rfl rfl rfl (by kernel_rfl) Try.func3 facts
    (of_decide_eq_true (by kernel_rfl)) (by unfold Func.isWrapper; first | (rw [if_pos (by decide +kernel)]; kernel_rfl) | (rw [if_neg (by decide +kernel)]; exact ⟨rfl, rfl⟩))
    (fun os started H enc _ => lifted os started H enc)

end Go.Proofs.Ytbfklmlniepihaa.CleanAll
namespace Go.Proofs.Ytbfklmlniepihaa
theorem fnCleanAll_holds : Rows.FnCleanAllSaid := CleanAll.over
end Go.Proofs.Ytbfklmlniepihaa
