/-
  The next number is greater than all: so it is of drawn blocks. The given statement, with no condition.
-/
import Derived.Test.YtogioeflbbmppaaDrwD
import Derived.Test.YtogioeflbbmppaaPlB
import Derived.Test.YtogioeflbbmppaaImplX
import Derived.Test.YtogioeflbbmppaaFacts
import Derived.Lib.SmallJoins
namespace Go.Proofs.Ytogioeflbbmppaa.Next
open Go.ChangeShapes Go.WideShapes Go.ChangeAt Go.RowKit Go.Shelf Go.Joins OkA Big Fl ImplB ImplF ImplS ImplT ImplU SpecA SpecB SpecC SpecD SpecW SpecX SpecF SpecG SpecH FindP FindN FindO FindD ImplW ImplX Pick Draw ClA DrB PlB 
open FlB (FsN)
open Facts (own laidOut)
set_option linter.unusedVariables false
set_option linter.unusedSimpArgs false
attribute [local go_sem ↓] Go.wp_at_zero Go.wp_at_succ

set_option maxRecDepth 100000 in
set_option maxHeartbeats 8000000 in
theorem walk (a0 : Option Addr) (len0 cap0 : Nat) (z0 : List Int) (w : World) (h0 : IsRow .u8 w a0 len0 cap0 z0) :
    Calls Try.prog 14 #[.slice a0 len0 cap0] w fun e w' => e = .returned (.bool true) ∧ Below w.heap.size w w' := by
  have HD := hide (drawNext_any w a0 len0 cap0 z0 h0)
  clear h0
  go_enter Try.func14, Try.ntmps14
  by_cases hbig0 : 1048576 < (len0 : Int)
  · go_wp2
    go_ret
    exact ⟨rfl, Below.refl _ _⟩
  go_wp2_with fail
  refine (unhide HD).mono ?_
  rintro e w1 ⟨g, o, c, bs, rfl, F1, B⟩
  have h4 := F1.four
  have hp4 := hide F1.pgs
  have hf := F1.fs
  clear HD F1
  generalize hfa : (some ⟨g, o, none⟩ : Option Addr) = fa at *
  have HIN := hide (fun (w' : World) (hF : FsAt w' fa bs) => implNext_any fa c  bs w' hF (by omega))
  have HSN := hide (fun (w' : World) (hF : FsAt w' fa bs) => specNext_any fa c  bs w' hF (by omega) (fun b hb => by have := unhide hp4 b hb; omega))
  have HOK := hide (fun (w' : World) (hF : FsAt w' fa bs) => specFlashOk_any fa c  bs w' hF (by omega))
  have HOP := hide (fun (w' : World) (hF : FsAt w' fa bs) => implOpen_any fa c  bs w' hF (by omega))
  have HWR := hide (fun (k rk rs ra rv : Int) (torn : Bool) (w' : World) (hF : FsAt w' fa bs) => implWrite_any fa c k rk rs ra rv torn bs w' hF (by omega))
  have HN := hide (fun (h : okB bs = true) => next_ok h)
  generalize hn : nextR bs = n at *
  clear hn
  have hnn : (n != n) = false := by simp
  have hne : (n == n) = true := by simp
  go_wp2_with fail
  refine (unhide HIN _ hf).mono ?_
  rintro e u8 ⟨rfl, b⟩
  replace hf := FsAt.below hf b
  replace B := B.trans (b.mono B.size)
  clear b
  go_wp2_with fail
  refine (unhide HSN _ hf).mono ?_
  rintro e u9 ⟨rfl, b⟩
  replace hf := FsAt.below hf b
  replace B := B.trans (b.mono B.size)
  clear b
  go_wp2_with fail
  refine (unhide HOK _ hf).mono ?_
  rintro e u10 ⟨rfl, b⟩
  replace hf := FsAt.below hf b
  replace B := B.trans (b.mono B.size)
  clear b
  cases hok : okB bs
  · go_wp2_with fail
    refine (unhide HSN _ hf).mono ?_
    rintro e u11 ⟨rfl, b⟩
    replace hf := FsAt.below hf b
    replace B := B.trans (b.mono B.size)
    clear b
    go_wp2
    go_ret
    exact ⟨rfl, B⟩
  obtain ⟨hn0, hn1, hn2⟩ := unhide HN hok
  have HM := hide hn0
  clear hn0
  have HALL : Hid (∀ b ∈ bs, ∀ p ∈ b.ps, p.s < n) := fun b hb p hp => by rw [unhide HM]; exact page_lt b hb p hp
  have HAT : Hid (n = 1 ∨ ∃ b ∈ bs, ∃ p ∈ b.ps, p.s = n - 1) := by
    rcases mostB_at bs with h | ⟨b, hb, p, hp, h⟩
    · left; have := unhide HM; omega
    · right; exact ⟨b, hb, p, hp, by have := unhide HM; omega⟩
  have HL := hide (ok_len hok)
  have HF := hide hf
  go_wp2
  go_loop [5, 6] (fun f i => ∃ (k : Nat) (t : Bool), k ≤ bs.length ∧ i = .int .i64 k ∧ f = .bool t ∧ Hid ((n = 1 ∨ ∃ b ∈ bs.take k, ∃ p ∈ b.ps, p.s = n - 1) → t = true)) (fun _ i => bs.length - (intOf i).toNat)
  case atStart => exact ⟨0, (n == 1), by omega, rfl, rfl, fun h => by simpa using h⟩
  case round =>
    obtain ⟨k, t, hk, rfl, rfl, ht⟩ := hrel
    by_cases h0 : k = bs.length
    · have htt : t = true := ht.out (by
        rw [h0, List.take_of_length_le (Nat.le_refl _)]
        exact unhide HAT)
      subst htt
      subst h0
      clear ht
      rcases fop_cases hok with ⟨e, _⟩ | ⟨kb, hkb, e, hc⟩
      · have HOP2 := hide (unhide HOP _ hf)
        rw [e] at HOP2
        go_wp2_with fail
        refine (unhide HOP2).mono ?_
        rintro e u9 ⟨rfl, b⟩
        replace hf := FsAt.below hf b
        replace B := B.trans (b.mono B.size)
        clear b
        go_wp2
        go_ret
        exact ⟨rfl, B⟩
      · have HOP2 := hide (unhide HOP _ hf)
        rw [e] at HOP2
        go_wp2_with fail
        refine (unhide HOP2).mono ?_
        rintro e u9 ⟨rfl, b⟩
        replace hf := FsAt.below hf b
        replace B := B.trans (b.mono B.size)
        clear b
        by_cases h6 : 600 < n
        · go_wp2
          go_ret
          exact ⟨rfl, B⟩
        have hw := (wr_open hok kb hkb hc 1 n 1 0 (unhide HALL) (by simp [recB, numB, inB]; omega)).1
        have HW2 := hide (unhide HWR (kb : Int) 1 n 1 0 false _ hf)
        rw [hw] at HW2
        clear hw
        go_wp2_with fail
        refine (unhide HW2).mono ?_
        rintro e u8 ⟨v, rfl, X, b⟩
        replace B := B.trans (b.mono B.size)
        clear b X
        go_wp2
        go_ret
        exact ⟨rfl, B⟩
    · have hlt : (k : Int) < (bs.length : Int) := by omega
      have hkb : k < bs.length := by omega
      have hlo : (0 : Int) ≤ (k : Int) := by omega
      have hk4 : k < 4 := by have := unhide HL; omega
      obtain ⟨fb, fo, pb, po, pc, e, c0, _, hr⟩ := ok_at hf hok k hk4
      have hb4 : bs[k].ps.length = 4 := (ok_fours hok).at k hkb
      have HB4 := hide hb4
      clear hb4
      have HR := hide hr
      clear hr
      subst e
      have HT : Hid (∀ p ∈ bs[k].ps, p.s < n) := fun p hp => unhide HALL _ (List.getElem_mem hkb) p hp
      have HTK := hide (List.take_succ_eq_append_getElem hkb)
      generalize bs[k] = b at *
      go_wp2
      go_loop [5, 7] (fun f i => ∃ (j : Nat) (t : Bool), j ≤ 4 ∧ i = .int .i64 j ∧ f = .bool t ∧ Hid ((n = 1 ∨ (∃ b ∈ bs.take k, ∃ p ∈ b.ps, p.s = n - 1) ∨ ∃ p ∈ b.ps.take j, p.s = n - 1) → t = true)) (fun _ i => 4 - (intOf i).toNat)
      case atStart => exact ⟨0, t, by omega, rfl, rfl, fun h => ht.out (h.elim .inl fun h => h.elim .inr fun ⟨p, hp, _⟩ => by simp at hp)⟩
      case round =>
        obtain ⟨j, u, hj, rfl, rfl, hu⟩ := hrel
        by_cases hj4 : j = 4
        · subst hj4
          go_wp2
          go_round
          case rel =>
            refine ⟨k + 1, u, by omega, by first | rfl | go_num, rfl, fun h => hu.out ?_⟩
            rw [List.take_of_length_le (l := b.ps) (by have := unhide HB4; omega)]
            rcases h with h | ⟨b', hb, p, hp, h⟩
            · exact .inl h
            · rw [unhide HTK] at hb
              rcases List.mem_append.1 hb with hb | hb
              · exact .inr (.inl ⟨b', hb, p, hp, h⟩)
              · obtain rfl := List.mem_singleton.1 hb
                exact .inr (.inr ⟨p, hp, h⟩)
          case measure => simp [intOf]; omega
        · have hji : (j : Int) < 4 := by omega
          have hj0 : (0 : Int) ≤ (j : Int) := by omega
          have hjb : j < b.ps.length := by have := unhide HB4; omega
          have d2 := (PsAt.cells (unhide HR) j hjb).2.2.1
          have HS := hide (unhide HT b.ps[j] (List.getElem_mem hjb))
          have HJT := hide (List.take_succ_eq_append_getElem hjb)
          generalize b.ps[j] = p at *
          have hs : p.s < n := unhide HS
          have hsn : ¬ n ≤ p.s := by omega
          cases u
          · by_cases hq : p.s = n - 1
            · have hq2 : (p.s == n - 1) = true := by simpa using hq
              have HQ := hide hq
              clear hq
              go_wp2
              go_round
              case rel => exact ⟨j + 1, true, by omega, by first | rfl | go_num, rfl, fun _ => rfl⟩
              case measure => simp [intOf]; omega
            · have hq2 : (p.s == n - 1) = false := by simpa using hq
              have HQ := hide hq
              clear hq
              go_wp2
              go_round
              case rel =>
                refine ⟨j + 1, false, by omega, by first | rfl | go_num, rfl, fun h => hu.out ?_⟩
                rcases h with h | h | ⟨p', hp, h⟩
                · exact .inl h
                · exact .inr (.inl h)
                · rw [unhide HJT] at hp
                  rcases List.mem_append.1 hp with hp | hp
                  · exact .inr (.inr ⟨p', hp, h⟩)
                  · obtain rfl := List.mem_singleton.1 hp
                    exact absurd h (unhide HQ)
              case measure => simp [intOf]; omega
          · go_wp2
            go_round
            case rel => exact ⟨j + 1, true, by omega, by first | rfl | go_num, rfl, fun _ => rfl⟩
            case measure => simp [intOf]; omega


set_option maxRecDepth 100000 in
theorem lifted (os : Os) (started : os.Started) (H : Type) (enc : TypeId × Value → H) :
    ReturnsInHanded {} Try.checked os 14 .any (Rows.fnNextSpec.pre6 enc Try.prog Try.f14 Rows.fnNextRow.domain false) (Rows.fnNextSpec.post enc Try.prog Try.f14 false true false false) := by
  refine returnsInHanded_of_change (C := Try.checked) own started (by kernel_rfl) Try.func14
    (ChangeSpec.witness6 (enc := enc) (C := Try.checked) false ⟨#[], #[.slice none 0 0], []⟩ 8 (by kernel_rfl) (by kernel_rfl) (by kernel_rfl) (by kernel_rfl)) ?_
  intro W base args ds gs before hval0 hW hcnd _
  have hval : ∀ (j : Nat) t v, Try.f14.params[j]? = some t → args[j]? = some v → Value.okWide Try.prog W .any base t v := hval0
  have hW' := hW
  obtain ⟨p, q, hA0, hV, rfl, hfz, hnd⟩ := hW
  have hA : DataW.TrodAll enc Try.prog W 0 (fun _ => true) true Try.f14.params.toList args.toList ds p := hA0
  rw [Try.params14] at hA hval
  obtain ⟨v0, vs0, d0, ds0, p0, q0, hargs, rfl, rfl, h0, r0⟩ := trodAll_cons hA
  obtain ⟨rfl, rfl, rfl⟩ := trodAll_nil r0
  obtain rfl : args = #[v0] := by cases args; simp_all
  obtain ⟨rfl, rfl⟩ := trodVars_none hV
  have kk0 := h0
  have lt0 : ∀ x ∈ p0, x.block < W.heap.size := by obtain ⟨m, hm⟩ := kk0; exact DataW.trod_lt m _ _ _ hm
  obtain ⟨a0, len0, cap0, rfl⟩ := okWide_slice Try.underlying22 (hval 0 22 v0 rfl rfl)
  obtain ⟨z0, w0⟩ : ∃ zs, IsRow .u8 W a0 len0 cap0 zs := by
    obtain ⟨fuel, hf⟩ := h0
    rcases open_ints Try.underlying22 Try.underlying5 (by kernel_rfl) hf with ⟨hcs, _⟩ | ⟨x, l, c, zs, hcs, _, hl, hm, hz, _, hcell, hwz⟩
    · simp [Value.cells] at hcs
      obtain ⟨rfl, rfl, rfl⟩ := hcs
      exact ⟨[], .inl ⟨rfl, rfl, rfl, rfl⟩⟩
    · simp [Value.cells] at hcs
      obtain ⟨rfl, rfl, rfl⟩ := hcs
      exact ⟨zs, .inr ⟨_, rfl, hl, hm, by simpa using hz, hcell, hwz⟩⟩
  clear hA0
  refine (walk a0 len0 cap0 z0 W w0).mono fun e W' ⟨he, bel⟩ => ?_
  subst he
  exact ⟨_, rfl, _, _, _, [], _, [], hW', trodAll_mk1 (shut_bool Try.underlying4 _), (trodAll_cons_mk (Below.trod laidOut (by kernel_rfl) (of_decide_eq_true (by kernel_rfl)) kk0 bel lt0) trodAll_mk0), rfl, bel.frame _, fun h => by cases h⟩

set_option maxRecDepth 100000 in
theorem facts : joinedFacts Try.prog 14 Try.f14 Rows.fnNextSpec Rows.fnNextRow = true := by
  unfold joinedFacts
  refine Facts.and_t ?_ (by as_aux_lemma => kernel_rfl)
  refine Facts.and_t ?_ (by as_aux_lemma => kernel_rfl)
  refine Facts.and_t ?_ (by as_aux_lemma => kernel_rfl)
  refine Facts.and_t ?_ (by as_aux_lemma => kernel_rfl)
  refine Facts.and_t ?_ (by show (Try.prog.make == some Make.cut) = true; rw [Facts.made]; rfl)
  refine Facts.and_t ?_ (by show (false == Try.prog.liftsFinal) = true; rw [Facts.lifts]; rfl)
  refine Facts.and_t ?_ (Facts.enters)
  refine Facts.and_t ?_ (Facts.heard)
  refine Facts.and_t ?_ (rfl)
  refine Facts.and_t ?_ (by show (true == Try.prog.plainKeys) = true; rw [Facts.keys]; rfl)
  refine Facts.and_t ?_ (by as_aux_lemma => kernel_rfl)
  refine Facts.and_t ?_ (by as_aux_lemma => kernel_rfl)
  refine Facts.and_t ?_ (by as_aux_lemma => kernel_rfl)
  refine Facts.and_t ?_ (by as_aux_lemma => kernel_rfl)
  refine Facts.and_t ?_ (by as_aux_lemma => kernel_rfl)
  refine Facts.and_t ?_ (by as_aux_lemma => kernel_rfl)
  refine Facts.and_t ?_ (by as_aux_lemma => kernel_rfl)
  refine Facts.and_t ?_ (by as_aux_lemma => kernel_rfl)
  refine Facts.and_t ?_ (by as_aux_lemma => kernel_rfl)
  refine Facts.and_t ?_ (by as_aux_lemma => kernel_rfl)
  refine Facts.and_t ?_ (by as_aux_lemma => kernel_rfl)
  refine Facts.and_t ?_ (by as_aux_lemma => kernel_rfl)
  refine Facts.and_t ?_ (by as_aux_lemma => kernel_rfl)
  refine Facts.and_t ?_ (by as_aux_lemma => kernel_rfl)
  refine Facts.and_t ?_ (by as_aux_lemma => kernel_rfl)
  refine Facts.and_t ?_ (by as_aux_lemma => kernel_rfl)
  refine Facts.and_t ?_ (by as_aux_lemma => kernel_rfl)
  refine Facts.and_t ?_ (by as_aux_lemma => kernel_rfl)
  refine Facts.and_t ?_ (by as_aux_lemma => kernel_rfl)
  refine Facts.and_t ?_ (Facts.rowed)
  refine Facts.and_t ?_ (Facts.laidOut)
  kernel_rfl

theorem over : Rows.fnNextRow.holds Try.pinned (OpenSpec.ofChange Rows.fnNextSpec) :=
  OpenClaim.holds_of_wide 14 Try.f14 rfl rfl rfl rfl rfl rfl rfl ⟨rfl, rfl, rfl, rfl, rfl⟩ rfl rfl rfl rfl rfl (by kernel_rfl) Try.func14 facts
    (of_decide_eq_true (by kernel_rfl)) (by unfold Func.isWrapper; first | (rw [if_pos (by decide +kernel)]; kernel_rfl) | (rw [if_neg (by decide +kernel)]; exact ⟨rfl, rfl⟩))
    (fun os started H enc _ => lifted os started H enc)

end Go.Proofs.Ytogioeflbbmppaa.Next
namespace Go.Proofs.Ytogioeflbbmppaa
theorem fnNext_holds : Rows.FnNextSaid := Next.over
end Go.Proofs.Ytogioeflbbmppaa
