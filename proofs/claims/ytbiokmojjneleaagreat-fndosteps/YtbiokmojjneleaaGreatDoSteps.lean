/-
  What happens happens by its steps: so it does in a drawn store. The given statement, with no condition.
-/
import Derived.Test.YtbiokmojjneleaaGreatRcQ
import Derived.Test.YtbiokmojjneleaaGreatPyF
import Derived.Test.YtbiokmojjneleaaGreatRbS
import Derived.Test.YtbiokmojjneleaaGreatHaT
import Derived.Test.YtbiokmojjneleaaGreatFacts
import Derived.Lib.SmallJoins
namespace Go.Proofs.YtbiokmojjneleaaGreat.DoSteps
open Go.ChangeShapes Go.WideShapes Go.ChangeAt Go.RowKit Go.Shelf Go.Joins OkA Big Fl ImplB ImplF ImplS ImplT ImplU SpecA SpecB SpecC SpecD SpecW SpecX SpecF SpecG SpecH FindP FindN FindO FindD ImplW ImplX Pick Draw ClA DrB PlB AlX DpX Pl FindL StA StB StC StD StE StF StG SpS SpT Sv LqI LqF Px NwA Sn9 ImplL Kp DoA RmA WrA FlA PlA SpU ToA QuE LawT MkN Ct Cu Ps Py Pz PaA EvL EvS PrA Nf Nr Rw PyE PaB PaC PdB TwC PyF MkN QuE LawU TwA
open FlB (FsN)
open StN (SN)
open Facts (own laidOut)
set_option linter.unusedVariables false
set_option linter.unusedSimpArgs false
attribute [local go_sem ↓] Go.wp_at_zero Go.wp_at_succ

set_option maxRecDepth 100000 in
set_option maxHeartbeats 8000000 in
theorem walk (a0 : Option Addr) (len0 cap0 : Nat) (z0 : List Int) (w : World) (h0 : IsRow .u8 w a0 len0 cap0 z0) :
    Calls Tryz.prog 6 #[.slice a0 len0 cap0] w fun e w' => e = .returned (.bool true) ∧ Below w.heap.size w w' := by
  have HD := hide (drawDs_any w a0 len0 cap0 z0 h0)
  clear h0
  go_enter Tryz.func6, Tryz.ntmps6
  by_cases hbig0 : 1048576 < (len0 : Int)
  · go_wp2
    go_ret
    exact ⟨rfl, Below.refl _ _⟩
  go_wp2_with fail
  refine (unhide HD).mono ?_
  rintro e w1 ⟨g, o, c, bs, d, z, dc, dk, x, rfl, S1, hxb, B⟩
  clear HD
  have h4 := S1.fs.four
  have h6 := S1.six
  have hp4 := S1.fs.pgs
  have hs := S1.at
  clear S1
  generalize (some ⟨g, o, none⟩ : Option Addr) = fa at *
  generalize (some ⟨d, z, none⟩ : Option Addr) = da at *
  have hxo : EvOk x := by unfold EvOk; omega
  have HSS := hide (show (Tryz.prog.info? 26).map (·.size) = some 2 by kernel_rfl)
  have HSE := hide (show (Tryz.prog.info? 42).map (·.size) = some 5 by kernel_rfl)
  have HIS := hide (fun (w' : World) (h : SAt w' fa bs da dk) => implPlaySteps_any x hxo.1.1 hxo.1.2 fa c bs da dc dk w' h (by omega) (by omega))
  have HSS9 := hide (fun (w' : World) (h : SAt w' fa bs da dk) => specPlaySteps_any x.k x.a x.b x.c x.t fa c bs da dc dk w' h (by omega) (fun b hb => by have := hp4 b hb; omega) (by omega))
  have HSO := hide (fun (w' : World) (h : SAt w' fa bs da dk) => Sv.sOk (fc := c) (dc := dc) w' h (by omega) (by omega) hp4)
  have HL7 := hide (ev_len bs dk x)
  have HEQ := hide (fun (h : stB bs dk = true) => (show evS bs dk x = evP bs dk x by unfold evS; rw [if_pos h]))
  clear h4 h6 hp4
  generalize hn4 : bs.length = n4 at *
  generalize hn6 : dk.length = n6 at *
  have HN4 := hide hn4
  have HN6 := hide hn6
  clear hn4 hn6
  generalize hL : evS bs dk x = L at *
  have HLE := hide hL
  clear hL
  have b : Below w1.heap.size w1 ((w1.alloc (.cells #[.slice fa n4 c, .slice da n6 dc] 26)).alloc (.cells #[.int .i64 x.k, .int .i64 x.a, .int .i64 x.b, .int .i64 x.c, .bool x.t] 42)) := ((Below.refl _ _).alloc (Nat.le_refl _) _).alloc (by simp) _
  have bx0 := Bx.new w1 (.slice fa n4 c) (.slice da n6 dc) 26
  have ba := (Below.refl (w1.alloc (.cells #[.slice fa n4 c, .slice da n6 dc] 26)).heap.size (w1.alloc (.cells #[.slice fa n4 c, .slice da n6 dc] 26))).alloc (Nat.le_refl _) (.cells #[.int .i64 x.k, .int .i64 x.a, .int .i64 x.b, .int .i64 x.c, .bool x.t] 42)
  have bx := bx0.below ba
  have ce := CsAt.new (w1.alloc (.cells #[.slice fa n4 c, .slice da n6 dc] 26)) [.int .i64 x.k, .int .i64 x.a, .int .i64 x.b, .int .i64 x.c, .bool x.t] 42
  rw [World.size_alloc] at ce
  clear bx0 ba
  replace hs := hs.below b
  replace B := B.trans (b.mono B.size)
  clear b
  have bx0 := bx.c0
  have bx1 := bx.c1
  have e0 := ce.cell 0 _ rfl
  have e1 := ce.cell 1 _ rfl
  have e2 := ce.cell 2 _ rfl
  have e3 := ce.cell 3 _ rfl
  have e4 := ce.cell 4 _ rfl
  go_wp2_with fail
  generalize (w1.alloc (.cells #[.slice fa n4 c, .slice da n6 dc] 26)).alloc (.cells #[.int .i64 x.k, .int .i64 x.a, .int .i64 x.b, .int .i64 x.c, .bool x.t] 42) = v1 at *
  generalize w1.heap.size = bxb at *
  refine (unhide HIS _ hs).mono ?_
  rintro e u2 ⟨v5, rfl, V5, b⟩
  replace ce := ce.below b (CsAt.lt ce (by simp))
  clear e0 e1 e2 e3 e4
  have e0 := ce.cell 0 _ rfl
  have e1 := ce.cell 1 _ rfl
  have e2 := ce.cell 2 _ rfl
  have e3 := ce.cell 3 _ rfl
  have e4 := ce.cell 4 _ rfl
  replace hs := hs.below b
  replace bx := bx.below b
  clear bx0 bx1
  have bx0 := bx.c0
  have bx1 := bx.c1
  replace B := B.trans (b.mono B.size)
  clear b
  obtain ⟨sa, sc, rfl, hss, _⟩ := stepsArg V5
  clear V5
  go_wp2_with fail
  refine (unhide HSS9 _ hs).mono ?_
  rintro e u3 ⟨v6, rfl, V6, b⟩
  replace ce := ce.below b (CsAt.lt ce (by simp))
  clear e0 e1 e2 e3 e4
  have e0 := ce.cell 0 _ rfl
  have e1 := ce.cell 1 _ rfl
  have e2 := ce.cell 2 _ rfl
  have e3 := ce.cell 3 _ rfl
  have e4 := ce.cell 4 _ rfl
  replace hs := hs.below b
  replace hss := hss.below b
  replace bx := bx.below b
  clear bx0 bx1
  have bx0 := bx.c0
  have bx1 := bx.c1
  replace B := B.trans (b.mono B.size)
  clear b
  obtain ⟨sa6, sc6, rfl, _, _⟩ := stepsArg V6
  clear V6
  have hnn : ((L.length : Int) != (L.length : Int)) = false := by simp
  have hnn2 : ((L.length : Int) == (L.length : Int)) = true := by simp
  go_wp2_with fail
  refine (unhide HSO _ hs).mono ?_
  rintro e u4 ⟨rfl, b⟩
  replace ce := ce.below b (CsAt.lt ce (by simp))
  clear e0 e1 e2 e3 e4
  have e0 := ce.cell 0 _ rfl
  have e1 := ce.cell 1 _ rfl
  have e2 := ce.cell 2 _ rfl
  have e3 := ce.cell 3 _ rfl
  have e4 := ce.cell 4 _ rfl
  replace hs := hs.below b
  replace hss := hss.below b
  replace bx := bx.below b
  clear bx0 bx1
  have bx0 := bx.c0
  have bx1 := bx.c1
  replace B := B.trans (b.mono B.size)
  clear b
  cases hst : stB bs dk
  · go_wp2
    go_ret
    exact ⟨rfl, B⟩
  · by_cases hk4 : x.k = 4
    · have hk : (x.k == 4) = true := by rw [hk4]; rfl
      clear hk4
      go_wp2
      go_ret
      exact ⟨rfl, B⟩
    have hk : (x.k == 4) = false := by simpa using hk4
    have hLP : L = evP bs dk x := unhide HEQ hst
    obtain rfl : n4 = 4 := (unhide HN4).symm.trans (ok_len (st_parts hst).1)
    obtain rfl : n6 = 6 := (unhide HN6).symm.trans (st_len hst)
    have hso : SO _ fa da bs dk := ⟨hs, hst⟩
    have HDP := hide (show doP bs dk x = if x.c < 0 then (bs, dk) else (toB bs L x.c x.t, toK dk L x.c x.t) by unfold doP; rw [if_neg hk4, hLP])
    have HTK := hide (fun (h0 : 0 ≤ x.c) => (show toOk bs dk L x.c = true by rw [hLP]; exact ev_tk hst x x.c h0))
    have HDO := hide (fun (w' : World) (h : SO w' fa da bs dk) => iDo (c1 := c) (c2 := dc) x hxo w' h)
    have HST2 := hide (doP_st hst x)
    have HTO := hide (fun (h0 : 0 ≤ x.c) (w' : World) (h : SAt w' fa bs da dk) (h2 : SsAt w' sa L) => (by have := implTo_any fa c bs da dc dk sa sc L x.c hxo.2.1 hxo.2.2 x.t w' h h2 (by have := unhide HN4; omega) (by have := unhide HN6; omega) (by have := unhide HL7; omega); rw [unhide HN4, unhide HN6] at this; exact this : Calls Tryz.prog 22 #[.agg #[.slice fa 4 c, .slice da 6 dc], .slice sa L.length sc, .int .i64 x.c, .bool x.t] w' fun e w'' => TpPost w' bs dk L x.c x.t e w''))
    clear hLP HLE HEQ hk4 HIS HSS9 HSO hnn hnn2
    generalize doP bs dk x = Q at *
    obtain ⟨BX, KX⟩ := Q
    go_wp2_with fail
    refine (unhide HDO _ hso).mono ?_
    rintro e u5 ⟨fx, m1, dx, m2, rfl, hx, b⟩
    replace ce := ce.below b (CsAt.lt ce (by simp))
    clear e0 e1 e2 e3 e4
    have e0 := ce.cell 0 _ rfl
    have e1 := ce.cell 1 _ rfl
    have e2 := ce.cell 2 _ rfl
    have e3 := ce.cell 3 _ rfl
    have e4 := ce.cell 4 _ rfl
    replace hs := hs.below b
    replace hss := hss.below b
    replace hso := hso.below b
    replace bx := bx.below b
    clear bx0 bx1
    have bx0 := bx.c0
    have bx1 := bx.c1
    replace B := B.trans (b.mono B.size)
    clear b
    have b : Below u5.heap.size u5 (u5.alloc (.cells #[.slice fx 4 m1, .slice dx 6 m2] 26)) := (Below.refl _ _).alloc (Nat.le_refl _) _
    have bq := Bx.new u5 (.slice fx 4 m1) (.slice dx 6 m2) 26
    replace ce := ce.below b (CsAt.lt ce (by simp))
    clear e0 e1 e2 e3 e4
    have e0 := ce.cell 0 _ rfl
    have e1 := ce.cell 1 _ rfl
    have e2 := ce.cell 2 _ rfl
    have e3 := ce.cell 3 _ rfl
    have e4 := ce.cell 4 _ rfl
    replace hs := hs.below b
    replace hss := hss.below b
    replace hso := hso.below b
    replace hx := hx.below b
    replace bx := bx.below b
    clear bx0 bx1
    have bx0 := bx.c0
    have bx1 := bx.c1
    replace B := B.trans (b.mono B.size)
    clear b
    have bq0 := bq.c0
    have bq1 := bq.c1
    by_cases hc : x.c < 0
    · have hQ := unhide HDP
      rw [if_pos hc] at hQ
      injection hQ with q1 q2
      subst q1 q2
      clear HTK HTO HDP HDO
      go_wp2_with fail
      generalize u5.alloc (.cells #[.slice fx 4 m1, .slice dx 6 m2] 26) = v6 at *
      generalize u5.heap.size = bqb at *
      refine (lqEq _ hx hso).mono ?_
      rintro e u7 ⟨rfl, b⟩
      replace ce := ce.below b (CsAt.lt ce (by simp))
      clear e0 e1 e2 e3 e4
      have e0 := ce.cell 0 _ rfl
      have e1 := ce.cell 1 _ rfl
      have e2 := ce.cell 2 _ rfl
      have e3 := ce.cell 3 _ rfl
      have e4 := ce.cell 4 _ rfl
      replace hs := hs.below b
      replace hss := hss.below b
      replace hso := hso.below b
      replace hx := hx.below b
      replace bx := bx.below b
      clear bx0 bx1
      have bx0 := bx.c0
      have bx1 := bx.c1
      replace bq := bq.below b
      clear bq0 bq1
      have bq0 := bq.c0
      have bq1 := bq.c1
      replace B := B.trans (b.mono B.size)
      clear b
      go_wp2
      go_ret
      exact ⟨rfl, B⟩
    have hQ := unhide HDP
    rw [if_neg hc] at hQ
    have hc0 : 0 ≤ x.c := by omega
    have HT := hide (unhide HTO hc0)
    have htk := hide (unhide HTK hc0)
    have hcf : decide (x.c < 0) = false := decide_eq_false hc
    clear HTK HTO HDP HDO
    have HQ := hide hQ
    clear hQ
    go_wp2_with fail
    generalize u5.alloc (.cells #[.slice fx 4 m1, .slice dx 6 m2] 26) = v6 at *
    generalize u5.heap.size = bqb at *
    refine (unhide HT _ hs hss).mono ?_
    rintro e u7 hT
    obtain ⟨X, Y, rfl, I, b⟩ := InT.of hT
    rw [unhide htk] at I
    obtain ⟨g9, d9, c9, k9, e1, e2, _, _, hq9⟩ := int_form I
    subst e1 e2
    clear hT I
    have hQ := unhide HQ
    injection hQ with q1 q2
    rw [← q1, ← q2] at hq9
    have hy : SO u7 _ _ BX KX := ⟨hq9, unhide HST2⟩
    clear hq9 q1 q2 HQ
    replace ce := ce.below b (CsAt.lt ce (by simp))
    clear e0 e1 e2 e3 e4
    have e0 := ce.cell 0 _ rfl
    have e1 := ce.cell 1 _ rfl
    have e2 := ce.cell 2 _ rfl
    have e3 := ce.cell 3 _ rfl
    have e4 := ce.cell 4 _ rfl
    replace hs := hs.below b
    replace hss := hss.below b
    replace hso := hso.below b
    replace hx := hx.below b
    replace bx := bx.below b
    clear bx0 bx1
    have bx0 := bx.c0
    have bx1 := bx.c1
    replace bq := bq.below b
    clear bq0 bq1
    have bq0 := bq.c0
    have bq1 := bq.c1
    replace B := B.trans (b.mono B.size)
    clear b
    rw [unhide htk]
    have b : Below u7.heap.size u7 (u7.alloc (.cells #[.slice (some ⟨g9, 0, none⟩) 4 c9, .slice (some ⟨d9, 0, none⟩) 6 k9] 26)) := (Below.refl _ _).alloc (Nat.le_refl _) _
    have br := Bx.new u7 (.slice (some ⟨g9, 0, none⟩) 4 c9) (.slice (some ⟨d9, 0, none⟩) 6 k9) 26
    replace ce := ce.below b (CsAt.lt ce (by simp))
    clear e0 e1 e2 e3 e4
    have e0 := ce.cell 0 _ rfl
    have e1 := ce.cell 1 _ rfl
    have e2 := ce.cell 2 _ rfl
    have e3 := ce.cell 3 _ rfl
    have e4 := ce.cell 4 _ rfl
    replace hs := hs.below b
    replace hss := hss.below b
    replace hso := hso.below b
    replace hx := hx.below b
    replace hy := hy.below b
    replace bx := bx.below b
    clear bx0 bx1
    have bx0 := bx.c0
    have bx1 := bx.c1
    replace bq := bq.below b
    clear bq0 bq1
    have bq0 := bq.c0
    have bq1 := bq.c1
    replace B := B.trans (b.mono B.size)
    clear b
    have br0 := br.c0
    have br1 := br.c1
    go_wp2_with fail
    generalize u7.alloc (.cells #[.slice (some ⟨g9, 0, none⟩) 4 c9, .slice (some ⟨d9, 0, none⟩) 6 k9] 26) = v8 at *
    generalize u7.heap.size = brb at *
    refine (lqEq _ hx hy).mono ?_
    rintro e u9 ⟨rfl, b⟩
    replace ce := ce.below b (CsAt.lt ce (by simp))
    clear e0 e1 e2 e3 e4
    have e0 := ce.cell 0 _ rfl
    have e1 := ce.cell 1 _ rfl
    have e2 := ce.cell 2 _ rfl
    have e3 := ce.cell 3 _ rfl
    have e4 := ce.cell 4 _ rfl
    replace hs := hs.below b
    replace hss := hss.below b
    replace hso := hso.below b
    replace hx := hx.below b
    replace hy := hy.below b
    replace bx := bx.below b
    clear bx0 bx1
    have bx0 := bx.c0
    have bx1 := bx.c1
    replace bq := bq.below b
    clear bq0 bq1
    have bq0 := bq.c0
    have bq1 := bq.c1
    replace br := br.below b
    clear br0 br1
    have br0 := br.c0
    have br1 := br.c1
    replace B := B.trans (b.mono B.size)
    clear b
    go_wp2
    go_ret
    exact ⟨rfl, B⟩


set_option maxRecDepth 100000 in
theorem lifted (os : Os) (started : os.Started) (H : Type) (enc : TypeId × Value → H) :
    ReturnsInHanded {} Tryz.checked os 6 .any (Rows.fnDoStepsSpec.pre6 enc Tryz.prog Tryz.f6 Rows.fnDoStepsRow.domain false) (Rows.fnDoStepsSpec.post enc Tryz.prog Tryz.f6 false true false false) := by
  refine returnsInHanded_of_change (C := Tryz.checked) own started (by kernel_rfl) Tryz.func6
    (ChangeSpec.witness6 (enc := enc) (C := Tryz.checked) false ⟨#[], #[.slice none 0 0], []⟩ 8 (by kernel_rfl) (by kernel_rfl) (by kernel_rfl) (by kernel_rfl)) ?_
  intro W base args ds gs before hval0 hW hcnd _
  have hval : ∀ (j : Nat) t v, Tryz.f6.params[j]? = some t → args[j]? = some v → Value.okWide Tryz.prog W .any base t v := hval0
  have hW' := hW
  obtain ⟨p, q, hA0, hV, rfl, hfz, hnd⟩ := hW
  have hA : DataW.TrodAll enc Tryz.prog W 0 (fun _ => true) true Tryz.f6.params.toList args.toList ds p := hA0
  rw [Tryz.params6] at hA hval
  obtain ⟨v0, vs0, d0, ds0, p0, q0, hargs, rfl, rfl, h0, r0⟩ := trodAll_cons hA
  obtain ⟨rfl, rfl, rfl⟩ := trodAll_nil r0
  obtain rfl : args = #[v0] := by cases args; simp_all
  obtain ⟨rfl, rfl⟩ := trodVars_none hV
  have kk0 := h0
  have lt0 : ∀ x ∈ p0, x.block < W.heap.size := by obtain ⟨m, hm⟩ := kk0; exact DataW.trod_lt m _ _ _ hm
  obtain ⟨a0, len0, cap0, rfl⟩ := okWide_slice Tryz.underlying22 (hval 0 22 v0 rfl rfl)
  obtain ⟨z0, w0⟩ : ∃ zs, IsRow .u8 W a0 len0 cap0 zs := by
    obtain ⟨fuel, hf⟩ := h0
    rcases open_ints Tryz.underlying22 Tryz.underlying5 (by kernel_rfl) hf with ⟨hcs, _⟩ | ⟨x, l, c, zs, hcs, _, hl, hm, hz, _, hcell, hwz⟩
    · simp [Value.cells] at hcs
      obtain ⟨rfl, rfl, rfl⟩ := hcs
      exact ⟨[], .inl ⟨rfl, rfl, rfl, rfl⟩⟩
    · simp [Value.cells] at hcs
      obtain ⟨rfl, rfl, rfl⟩ := hcs
      exact ⟨zs, .inr ⟨_, rfl, hl, hm, by simpa using hz, hcell, hwz⟩⟩
  clear hA0
  refine (walk a0 len0 cap0 z0 W w0).mono fun e W' ⟨he, bel⟩ => ?_
  subst he
  exact ⟨_, rfl, _, _, _, [], _, [], hW', trodAll_mk1 (shut_bool Tryz.underlying4 _), (trodAll_cons_mk (Below.trod laidOut (by kernel_rfl) (of_decide_eq_true (by kernel_rfl)) kk0 bel lt0) trodAll_mk0), rfl, bel.frame _, fun h => by cases h⟩

set_option maxRecDepth 100000 in
theorem facts : joinedFacts Tryz.prog 6 Tryz.f6 Rows.fnDoStepsSpec Rows.fnDoStepsRow = true := by
  unfold joinedFacts
  refine Facts.and_t ?_ (by as_aux_lemma => kernel_rfl)
  refine Facts.and_t ?_ (by as_aux_lemma => kernel_rfl)
  refine Facts.and_t ?_ (by as_aux_lemma => kernel_rfl)
  refine Facts.and_t ?_ (by as_aux_lemma => kernel_rfl)
  refine Facts.and_t ?_ (by show (Tryz.prog.make == some Make.cut) = true; rw [Facts.made]; rfl)
  refine Facts.and_t ?_ (by show (false == Tryz.prog.liftsFinal) = true; rw [Facts.lifts]; rfl)
  refine Facts.and_t ?_ (Facts.enters)
  refine Facts.and_t ?_ (Facts.heard)
  refine Facts.and_t ?_ (rfl)
  refine Facts.and_t ?_ (by show (true == Tryz.prog.plainKeys) = true; rw [Facts.keys]; rfl)
  refine Facts.and_t ?_ (by as_aux_lemma => kernel_rfl)
  refine Facts.and_t ?_ (by as_aux_lemma => kernel_rfl)
  refine Facts.and_t ?_ (by as_aux_lemma => kernel_rfl)
  refine Facts.and_t ?_ (by as_aux_lemma => kernel_rfl)
  refine Facts.and_t ?_ (by as_aux_lemma => kernel_rfl)
  refine Facts.and_t ?_ (by as_aux_lemma => kernel_rfl)
  refine Facts.and_t ?_ (by as_aux_lemma => kernel_rfl)
  refine Facts.and_t ?_ (by as_aux_lemma => kernel_rfl)
  refine Facts.and_t ?_ (by as_aux_lemma => kernel_rfl)
  refine Facts.and_t ?_ (by as_aux_lemma => kernel_rfl)
  refine Facts.and_t ?_ (by as_aux_lemma => kernel_rfl)
  refine Facts.and_t ?_ (by as_aux_lemma => kernel_rfl)
  refine Facts.and_t ?_ (by as_aux_lemma => kernel_rfl)
  refine Facts.and_t ?_ (by as_aux_lemma => kernel_rfl)
  refine Facts.and_t ?_ (by as_aux_lemma => kernel_rfl)
  refine Facts.and_t ?_ (by as_aux_lemma => kernel_rfl)
  refine Facts.and_t ?_ (by as_aux_lemma => kernel_rfl)
  refine Facts.and_t ?_ (by as_aux_lemma => kernel_rfl)
  refine Facts.and_t ?_ (by as_aux_lemma => kernel_rfl)
  refine Facts.and_t ?_ (Facts.rowed)
  refine Facts.and_t ?_ (Facts.laidOut)
  kernel_rfl

theorem over : Rows.fnDoStepsRow.holds Tryz.pinned (OpenSpec.ofChange Rows.fnDoStepsSpec) :=
  OpenClaim.holds_of_wide 6 Tryz.f6 rfl rfl rfl rfl rfl rfl rfl ⟨rfl, rfl, rfl, rfl, rfl⟩ rfl rfl rfl rfl rfl (by kernel_rfl) Tryz.func6 facts
    (of_decide_eq_true (by kernel_rfl)) (by unfold Func.isWrapper; first | (rw [if_pos (by decide +kernel)]; kernel_rfl) | (rw [if_neg (by decide +kernel)]; exact ⟨rfl, rfl⟩))
    (fun os started H enc _ => (lifted os started H enc))

end Go.Proofs.YtbiokmojjneleaaGreat.DoSteps
namespace Go.Proofs.YtbiokmojjneleaaGreat
theorem fnDoSteps_holds : Rows.FnDoStepsSaid := DoSteps.over
end Go.Proofs.YtbiokmojjneleaaGreat
