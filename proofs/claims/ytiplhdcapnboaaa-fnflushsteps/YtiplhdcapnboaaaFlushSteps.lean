/-
  The slow disk is told first: so it is in a drawn store. The given statement, with no condition.
-/
import Derived.Test.YtiplhdcapnboaaaPv
import Derived.Test.YtiplhdcapnboaaaPlE
import Derived.Test.YtiplhdcapnboaaaImplX
import Derived.Test.YtiplhdcapnboaaaFacts
import Derived.Lib.SmallJoins
namespace Go.Proofs.Ytiplhdcapnboaaa.FlushSteps
open Go.ChangeShapes Go.WideShapes Go.ChangeAt Go.RowKit Go.Shelf Go.Joins OkA Big Fl ImplB ImplF ImplS ImplT ImplU SpecA SpecB SpecC SpecD SpecW SpecX SpecF SpecG SpecH FindP FindN FindO FindD ImplW ImplX Pick Draw ClA DrB PlB Pl FindL StA StB StC StD StE StF StG SpS SpT DrS Sv LqI Pw Pv Py DrG RmA WrA FlA PlA SpU ToA SpecH  Px NwA LqI Sn9 ImplL Kp DoA
open FlB (FsN)
open StN (SN)
open Facts (own laidOut)
set_option linter.unusedVariables false
set_option linter.unusedSimpArgs false
attribute [local go_sem ↓] Go.wp_at_zero Go.wp_at_succ

theorem st_cells {w : World} {g : Nat} {L : List Stp} (h : w.rangeAt g 0 (stsC L)) (hg : g < w.heap.size) {w' : World} (b : Below w.heap.size w w') (j : Nat) (hj : j < L.length) : ∀ i v, (stC (L.getD j zSt))[i]? = some v → w'.cell? ⟨g, j * 8 + i, none⟩ = some v := fun i v hv => by
  rw [List.getD_eq_getElem?_getD, List.getElem?_eq_getElem hj] at hv
  have := stp_at h j hj i v hv
  rw [Nat.zero_add] at this
  exact (b.cell (p := ⟨g, j * 8 + i, none⟩) hg).trans this

set_option maxRecDepth 100000 in
set_option maxHeartbeats 8000000 in
theorem walk (a0 : Option Addr) (len0 cap0 : Nat) (z0 : List Int) (w : World) (h0 : IsRow .u8 w a0 len0 cap0 z0) :
    Calls Try.prog 21 #[.slice a0 len0 cap0] w fun e w' => e = .returned (.bool true) ∧ Below w.heap.size w w' := by
  have HD := hide (drawFlush_any w a0 len0 cap0 z0 h0)
  clear h0
  go_enter Try.func21, Try.ntmps21
  by_cases hbig0 : 1048576 < (len0 : Int)
  · go_wp2
    go_ret
    exact ⟨rfl, Below.refl _ _⟩
  go_wp2_with fail
  refine (unhide HD).mono ?_
  rintro e w1 ⟨g, o, c, bs, d, z, dc, dk, k, rfl, S1, k0, k1, B⟩
  have h4 := S1.fs.four
  have h6 := S1.six
  have hp4 := hide S1.fs.pgs
  have hs := S1.at
  clear HD S1
  generalize (some ⟨g, o, none⟩ : Option Addr) = fa at *
  generalize (some ⟨d, z, none⟩ : Option Addr) = da at *
  have bA : Below w1.heap.size w1 (w1.alloc (.cells #[.slice fa bs.length c, .slice da dk.length dc] 54)) := (Below.refl _ _).alloc (Nat.le_refl _) _
  have bx := Bx.new w1 (.slice fa bs.length c) (.slice da dk.length dc) 54
  replace hs := hs.below bA
  replace B := B.trans (bA.mono B.size)
  clear bA
  have y0 := bx.c0
  have y1 := bx.c1
  have HIF := hide (fun (w' : World) (h : SAt w' fa bs da dk) => iFlush (fc := c) (dc := dc) k (by omega) (by omega) w' h h4 h6)
  have HSF := hide (fun (w' : World) (h : SAt w' fa bs da dk) => sFlush k (fc := c) (dc := dc)  w' h h4 h6 (unhide hp4))
  have HSO := hide (fun (w' : World) (h : SAt w' fa bs da dk) => sOk (fc := c) (dc := dc)  w' h h4 h6 (unhide hp4))
  have HIP := hide (fun (w' : World) (h : SAt w' fa bs da dk) => iPut k 1 (fc := c) (dc := dc)  w' h h4 h6)
  have HID := hide (fun (w' : World) (h : SAt w' fa bs da dk) => iDirty2 (fc := c) (dc := dc)  w' h h4 h6)
  have HIR := hide (fun (w' : World) (h : SAt w' fa bs da dk) => iRead k (fc := c) (dc := dc)  w' h h4 h6)
  have HSS := hide (show (Try.prog.info? 54).map (·.size) = some 2 by kernel_rfl)
  have HZ := hide (fun (hs : stB bs dk = true) (hd : dtB bs k = true) (h : flushS bs dk k = []) => fl_zero hs hd h)
  have HP := hide (fun (hs : stB bs dk = true) (h : flushS bs dk k ≠ []) => (⟨(fl_pos hs h).1, (fl_pos hs h).2.1⟩ : dtB bs k = true ∧ _))
  have HANY := hide (fun (hs : stB bs dk = true) => any_dy hs k)
  have HD6 := hide (DrG.dy_le6 bs dk)
  have HF7 := hide (flush_len (bs := bs) (dk := dk) k)
  generalize flushS bs dk k = F at *
  generalize dyS bs dk = LD at *
  generalize putS bs dk k 1 = LP at *
  generalize rdS bs dk k = v at *
  generalize dtB bs k = dt at *
  go_wp2_with fail
  generalize w1.alloc (.cells #[.slice fa bs.length c, .slice da dk.length dc] 54) = w2 at *
  generalize w1.heap.size = sb at *
  refine (unhide HIF _ hs).mono ?_
  rintro e u1 ⟨la, lc, rfl, l, b⟩
  replace hs := hs.below b
  replace bx := bx.below b
  clear y0 y1
  have y0 := bx.c0
  have y1 := bx.c1
  replace B := B.trans (b.mono B.size)
  clear b
  go_wp2_with fail
  refine (unhide HSF _ hs).mono ?_
  rintro e u2 ⟨ma, mc, rfl, m, b⟩
  replace hs := hs.below b
  replace l := l.below b
  replace bx := bx.below b
  clear y0 y1
  have y0 := bx.c0
  have y1 := bx.c1
  replace B := B.trans (b.mono B.size)
  clear b
  clear m
  go_wp2_with fail
  refine (unhide HSO _ hs).mono ?_
  rintro e u3 ⟨rfl, b⟩
  replace hs := hs.below b
  replace l := l.below b
  replace bx := bx.below b
  clear y0 y1
  have y0 := bx.c0
  have y1 := bx.c1
  replace B := B.trans (b.mono B.size)
  clear b
  cases hst : stB bs dk
  · go_wp2_with fail
    refine (unhide HSF _ hs).mono ?_
    rintro e u4 ⟨ma, mc, rfl, m, b⟩
    replace hs := hs.below b
    replace l := l.below b
    replace bx := bx.below b
    clear y0 y1
    have y0 := bx.c0
    have y1 := bx.c1
    replace B := B.trans (b.mono B.size)
    clear b
    go_wp2
    go_ret
    exact ⟨rfl, B⟩
  have HZ2 := hide (unhide HZ hst)
  have HP2 := hide (unhide HP hst)
  have HA2 := hide (unhide HANY hst)
  clear HZ HP HANY HSF HSO HIF
  go_wp2_with fail
  refine (unhide HID _ hs).mono ?_
  rintro e u5 ⟨qa, qc, rfl, q, b⟩
  replace hs := hs.below b
  replace l := l.below b
  replace bx := bx.below b
  clear y0 y1
  have y0 := bx.c0
  have y1 := bx.c1
  replace B := B.trans (b.mono B.size)
  clear b
  have HQC : Hid (∀ j, j < LD.length → ∃ qb qo, qa = some ⟨qb, qo, none⟩ ∧ qb < u5.heap.size ∧ u5.cell? ⟨qb, qo + j, none⟩ = some (.int .i64 (LD.getD j 0))) := fun j hj => by
    obtain ⟨qb, qo, e, hc⟩ := q.lies (by omega)
    exact ⟨qb, qo, e, by have := Fl.cell_lt (hc j hj); simpa using this, hc j hj⟩
  have hD6 := unhide HD6
  clear q
  go_wp2
  go_loopw [7, 9] (fun b i w' => ∃ j : Nat, j ≤ LD.length ∧ b = .bool (anyN LD k j) ∧ i = .int .i64 j ∧ Below u5.heap.size u5 w') (fun b i _ => LD.length - (intOf i).toNat)
  case atStart => exact ⟨0, by omega, rfl, rfl, Below.refl _ _⟩
  case round =>
    obtain ⟨j, hj, rfl, rfl, bw⟩ := hrel
    by_cases h0 : j = LD.length
    · subst h0
      rw [unhide HA2]
      replace hs := hs.below bw
      replace bx := bx.below bw
      replace l := l.below bw
      replace B := B.trans (bw.mono B.size)
      clear y0 y1 HQC bw HA2 HID
      have y0 := bx.c0
      have y1 := bx.c1
      have hF7 := unhide HF7
      by_cases hF0 : F.length = 0
      · have hFi : (F.length : Int) = 0 := by omega
        cases dt
        · clear hF0 hs bx l
          go_wp2
          go_ret
          exact ⟨rfl, B⟩
        · have hLP : LP.length = 0 := by rw [unhide HZ2 rfl (List.length_eq_zero_iff.1 hF0)]; rfl
          have hLPi : (LP.length : Int) = 0 := by omega
          clear hF0
          go_wp2_with fail
          refine (unhide HIP _ hs).mono ?_
          rintro e x1 ⟨pa, pc, rfl, _, b⟩
          replace B := B.trans (b.mono B.size)
          clear b hs bx l y0 y1
          go_wp2
          go_ret
          exact ⟨rfl, B⟩
      · have hne : F ≠ [] := fun q => hF0 (by rw [q]; rfl)
        obtain ⟨hdt, eF⟩ := unhide HP2 hne
        subst hdt
        have hFn : ¬ (F.length : Int) = 0 := by omega
        obtain ⟨sg, rfl, hsg, hsr⟩ : ∃ g, la = some ⟨g, 0, none⟩ ∧ g < wr.heap.size ∧ wr.rangeAt g 0 (stsC F) := by
          rcases l with q | q
          · exact absurd q hne
          · exact q
        obtain ⟨m, hm⟩ : ∃ m, F.length = m + 1 := ⟨F.length - 1, by omega⟩
        have g0 : F.getD 0 zSt = diskS k v := by rw [eF]; rfl
        have gm : F.getD m zSt = writeS (roomB bs) ⟨2, mostB bs + 1, k, v⟩ := by
          have hm2 : m = (roomL bs).length + 1 := by rw [eF] at hm; simp at hm; omega
          rw [eF, hm2]; simp
        have HC0 := hide (fun (w' : World) (b : Below wr.heap.size wr w') => st_cells hsr hsg b 0 (by omega))
        have HCm := hide (fun (w' : World) (b : Below wr.heap.size wr w') => st_cells hsr hsg b m (by omega))
        rw [g0] at HC0
        rw [gm] at HCm
        have hmi : (F.length : Int) - 1 = (m : Int) := by omega
        have hmF : (m : Int) < (F.length : Int) := by omega
        have hm0 : (0 : Int) ≤ (m : Int) := by omega
        have hF1 : (0 : Int) < (F.length : Int) := by omega
        have hwm : IntKind.i64.wrap (m : Int) = (m : Int) := by rw [IntKind.wrap_i64] <;> omega
        clear eF g0 gm hne hF0 hm l hsr HZ2 HP2
        generalize roomB bs = rbk at *
        generalize mostB bs + 1 = sq at *
        go_wp2_with fail
        refine (unhide HIR _ hs).mono ?_
        rintro e x1 ⟨rfl, b⟩
        have B1 := B.trans (b.mono B.size)
        have m0 : x1.cell? ⟨sg, m * 8, none⟩ = some (.int .i64 3) := unhide HCm _ b 0 _ rfl
        have m1 : x1.cell? ⟨sg, m * 8 + 1, none⟩ = some (.int .i64 0) := unhide HCm _ b 1 _ rfl
        have m2 : x1.cell? ⟨sg, m * 8 + 2, none⟩ = some (.int .i64 0) := unhide HCm _ b 2 _ rfl
        have m3 : x1.cell? ⟨sg, m * 8 + 3, none⟩ = some (.int .i64 rbk) := unhide HCm _ b 3 _ rfl
        have m4 : x1.cell? ⟨sg, m * 8 + 4, none⟩ = some (.int .i64 2) := unhide HCm _ b 4 _ rfl
        have m5 : x1.cell? ⟨sg, m * 8 + 5, none⟩ = some (.int .i64 sq) := unhide HCm _ b 5 _ rfl
        have m6 : x1.cell? ⟨sg, m * 8 + 6, none⟩ = some (.int .i64 k) := unhide HCm _ b 6 _ rfl
        have m7 : x1.cell? ⟨sg, m * 8 + 7, none⟩ = some (.int .i64 v) := unhide HCm _ b 7 _ rfl
        have bA : Below x1.heap.size x1 (x1.alloc (.cells #[.int .i64 3, .int .i64 0, .int .i64 0, .int .i64 rbk, .int .i64 2, .int .i64 sq, .int .i64 k, .int .i64 v] 69)) := (Below.refl _ _).alloc (Nat.le_refl _) _
        have b2 := b.trans (bA.mono b.size)
        have f0 : (x1.alloc (.cells #[.int .i64 3, .int .i64 0, .int .i64 0, .int .i64 rbk, .int .i64 2, .int .i64 sq, .int .i64 k, .int .i64 v] 69)).cell? ⟨sg, 0, none⟩ = some (.int .i64 1) := unhide HC0 _ b2 0 _ rfl
        have f1 : (x1.alloc (.cells #[.int .i64 3, .int .i64 0, .int .i64 0, .int .i64 rbk, .int .i64 2, .int .i64 sq, .int .i64 k, .int .i64 v] 69)).cell? ⟨sg, 1, none⟩ = some (.int .i64 k) := unhide HC0 _ b2 1 _ rfl
        have f2 : (x1.alloc (.cells #[.int .i64 3, .int .i64 0, .int .i64 0, .int .i64 rbk, .int .i64 2, .int .i64 sq, .int .i64 k, .int .i64 v] 69)).cell? ⟨sg, 2, none⟩ = some (.int .i64 v) := unhide HC0 _ b2 2 _ rfl
        have f3 : (x1.alloc (.cells #[.int .i64 3, .int .i64 0, .int .i64 0, .int .i64 rbk, .int .i64 2, .int .i64 sq, .int .i64 k, .int .i64 v] 69)).cell? ⟨sg, 3, none⟩ = some (.int .i64 0) := unhide HC0 _ b2 3 _ rfl
        have f4 : (x1.alloc (.cells #[.int .i64 3, .int .i64 0, .int .i64 0, .int .i64 rbk, .int .i64 2, .int .i64 sq, .int .i64 k, .int .i64 v] 69)).cell? ⟨sg, 4, none⟩ = some (.int .i64 0) := unhide HC0 _ b2 4 _ rfl
        have f5 : (x1.alloc (.cells #[.int .i64 3, .int .i64 0, .int .i64 0, .int .i64 rbk, .int .i64 2, .int .i64 sq, .int .i64 k, .int .i64 v] 69)).cell? ⟨sg, 5, none⟩ = some (.int .i64 0) := unhide HC0 _ b2 5 _ rfl
        have f6 : (x1.alloc (.cells #[.int .i64 3, .int .i64 0, .int .i64 0, .int .i64 rbk, .int .i64 2, .int .i64 sq, .int .i64 k, .int .i64 v] 69)).cell? ⟨sg, 6, none⟩ = some (.int .i64 0) := unhide HC0 _ b2 6 _ rfl
        have f7 : (x1.alloc (.cells #[.int .i64 3, .int .i64 0, .int .i64 0, .int .i64 rbk, .int .i64 2, .int .i64 sq, .int .i64 k, .int .i64 v] 69)).cell? ⟨sg, 7, none⟩ = some (.int .i64 0) := unhide HC0 _ b2 7 _ rfl
        have B2 := B1.trans (bA.mono B1.size)
        clear b b2 bA hs bx y0 y1
        go_wp2
        go_ret
        exact ⟨rfl, B2⟩
    · have hjl : j < LD.length := by omega
      have hji : (j : Int) < (LD.length : Int) := by omega
      have hj0 : (0 : Int) ≤ (j : Int) := by omega
      obtain ⟨qb, qo, rfl, hqb, hqc⟩ := unhide HQC j hjl
      have hc := (bw.cell (p := ⟨qb, qo + j, none⟩) hqb).trans hqc
      have hs8 := hide (anyN_succ LD k j hjl)
      have hwj : IntKind.i64.wrap ((j : Int) + 1) = (j : Int) + 1 := by rw [IntKind.wrap_i64] <;> omega
      clear hqc HQC HA2 hs bx y0 y1 l
      generalize LD.getD j 0 = x at *
      generalize hN2 : anyN LD k (j + 1) = n2 at *
      have HN2 := hide hN2
      clear hN2
      cases hn : anyN LD k j
      · have hn2 : n2 = (x == k) := by have := unhide hs8; rw [hn] at this; simpa using this
        clear hs8 hn
        go_wp2
        go_roundw
        case rel => exact ⟨j + 1, by omega, by rw [unhide HN2, hn2], by first | rfl | go_num, bw⟩
        case measure => simp [intOf]; omega
      · have hn2 : n2 = true := by have := unhide hs8; rw [hn] at this; simpa using this
        clear hs8 hn
        go_wp2
        go_roundw
        case rel => exact ⟨j + 1, by omega, by rw [unhide HN2, hn2], by first | rfl | go_num, bw⟩
        case measure => simp [intOf]; omega


set_option maxRecDepth 100000 in
theorem lifted (os : Os) (started : os.Started) (H : Type) (enc : TypeId × Value → H) :
    ReturnsInHanded {} Try.checked os 21 .any (Rows.fnFlushStepsSpec.pre6 enc Try.prog Try.f21 Rows.fnFlushStepsRow.domain false) (Rows.fnFlushStepsSpec.post enc Try.prog Try.f21 false true false false) := by
  refine returnsInHanded_of_change (C := Try.checked) own started (by kernel_rfl) Try.func21
    (ChangeSpec.witness6 (enc := enc) (C := Try.checked) false ⟨#[], #[.slice none 0 0], []⟩ 8 (by kernel_rfl) (by kernel_rfl) (by kernel_rfl) (by kernel_rfl)) ?_
  intro W base args ds gs before hval0 hW hcnd _
  have hval : ∀ (j : Nat) t v, Try.f21.params[j]? = some t → args[j]? = some v → Value.okWide Try.prog W .any base t v := hval0
  have hW' := hW
  obtain ⟨p, q, hA0, hV, rfl, hfz, hnd⟩ := hW
  have hA : DataW.TrodAll enc Try.prog W 0 (fun _ => true) true Try.f21.params.toList args.toList ds p := hA0
  rw [Try.params21] at hA hval
  obtain ⟨v0, vs0, d0, ds0, p0, q0, hargs, rfl, rfl, h0, r0⟩ := trodAll_cons hA
  obtain ⟨rfl, rfl, rfl⟩ := trodAll_nil r0
  obtain rfl : args = #[v0] := by cases args; simp_all
  obtain ⟨rfl, rfl⟩ := trodVars_none hV
  have kk0 := h0
  have lt0 : ∀ x ∈ p0, x.block < W.heap.size := by obtain ⟨m, hm⟩ := kk0; exact DataW.trod_lt m _ _ _ hm
  obtain ⟨a0, len0, cap0, rfl⟩ := okWide_slice Try.underlying22 (hval 0 22 v0 rfl rfl)
  obtain ⟨z0, w0⟩ : ∃ zs, IsRow .u8 W a0 len0 cap0 zs := by
    obtain ⟨fuel, hf⟩ := h0
    rcases open_ints Try.underlying22 Try.underlying5 (by kernel_rfl) hf with ⟨hcs, _⟩ | ⟨x, l, c, zs, hcs, _, hl, hm, hz, _, hcell, hwz⟩
    · simp [Value.cells] at hcs
      obtain ⟨rfl, rfl, rfl⟩ := hcs
      exact ⟨[], .inl ⟨rfl, rfl, rfl, rfl⟩⟩
    · simp [Value.cells] at hcs
      obtain ⟨rfl, rfl, rfl⟩ := hcs
      exact ⟨zs, .inr ⟨_, rfl, hl, hm, by simpa using hz, hcell, hwz⟩⟩
  clear hA0
  refine (walk a0 len0 cap0 z0 W w0).mono fun e W' ⟨he, bel⟩ => ?_
  subst he
  exact ⟨_, rfl, _, _, _, [], _, [], hW', trodAll_mk1 (shut_bool Try.underlying4 _), (trodAll_cons_mk (Below.trod laidOut (by kernel_rfl) (of_decide_eq_true (by kernel_rfl)) kk0 bel lt0) trodAll_mk0), rfl, bel.frame _, fun h => by cases h⟩

set_option maxRecDepth 100000 in
theorem facts : joinedFacts Try.prog 21 Try.f21 Rows.fnFlushStepsSpec Rows.fnFlushStepsRow = true := by
  unfold joinedFacts
  refine Facts.and_t ?_ (by as_aux_lemma => kernel_rfl)
  refine Facts.and_t ?_ (by as_aux_lemma => kernel_rfl)
  refine Facts.and_t ?_ (by as_aux_lemma => kernel_rfl)
  refine Facts.and_t ?_ (by as_aux_lemma => kernel_rfl)
  refine Facts.and_t ?_ (by show (Try.prog.make == some Make.cut) = true; rw [Facts.made]; rfl)
  refine Facts.and_t ?_ (by show (false == Try.prog.liftsFinal) = true; rw [Facts.lifts]; rfl)
  refine Facts.and_t ?_ (Facts.enters)
  refine Facts.and_t ?_ (Facts.heard)
  refine Facts.and_t ?_ (rfl)
  refine Facts.and_t ?_ (by show (true == Try.prog.plainKeys) = true; rw [Facts.keys]; rfl)
  refine Facts.and_t ?_ (by as_aux_lemma => kernel_rfl)
  refine Facts.and_t ?_ (by as_aux_lemma => kernel_rfl)
  refine Facts.and_t ?_ (by as_aux_lemma => kernel_rfl)
  refine Facts.and_t ?_ (by as_aux_lemma => kernel_rfl)
  refine Facts.and_t ?_ (by as_aux_lemma => kernel_rfl)
  refine Facts.and_t ?_ (by as_aux_lemma => kernel_rfl)
  refine Facts.and_t ?_ (by as_aux_lemma => kernel_rfl)
  refine Facts.and_t ?_ (by as_aux_lemma => kernel_rfl)
  refine Facts.and_t ?_ (by as_aux_lemma => kernel_rfl)
  refine Facts.and_t ?_ (by as_aux_lemma => kernel_rfl)
  refine Facts.and_t ?_ (by as_aux_lemma => kernel_rfl)
  refine Facts.and_t ?_ (by as_aux_lemma => kernel_rfl)
  refine Facts.and_t ?_ (by as_aux_lemma => kernel_rfl)
  refine Facts.and_t ?_ (by as_aux_lemma => kernel_rfl)
  refine Facts.and_t ?_ (by as_aux_lemma => kernel_rfl)
  refine Facts.and_t ?_ (by as_aux_lemma => kernel_rfl)
  refine Facts.and_t ?_ (by as_aux_lemma => kernel_rfl)
  refine Facts.and_t ?_ (by as_aux_lemma => kernel_rfl)
  refine Facts.and_t ?_ (by as_aux_lemma => kernel_rfl)
  refine Facts.and_t ?_ (Facts.rowed)
  refine Facts.and_t ?_ (Facts.laidOut)
  kernel_rfl

theorem over : Rows.fnFlushStepsRow.holds Try.pinned (OpenSpec.ofChange Rows.fnFlushStepsSpec) :=
  OpenClaim.holds_of_wide 21 Try.f21 rfl rfl rfl rfl rfl rfl rfl ⟨rfl, rfl, rfl, rfl, rfl⟩ rfl rfl rfl rfl rfl (by kernel_rfl) Try.func21 facts
    (of_decide_eq_true (by kernel_rfl)) (by unfold Func.isWrapper; first | (rw [if_pos (by decide +kernel)]; kernel_rfl) | (rw [if_neg (by decide +kernel)]; exact ⟨rfl, rfl⟩))
    (fun os started H enc _ => lifted os started H enc)

end Go.Proofs.Ytiplhdcapnboaaa.FlushSteps
namespace Go.Proofs.Ytiplhdcapnboaaa
theorem fnFlushSteps_holds : Rows.FnFlushStepsSaid := FlushSteps.over
end Go.Proofs.Ytiplhdcapnboaaa
