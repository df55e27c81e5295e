/-
  One put is few steps: so it is in a drawn store. The given statement, with no condition.
-/
import Derived.Test.YtiplhdcapnboaaaPw
import Derived.Test.YtiplhdcapnboaaaPlE
import Derived.Test.YtiplhdcapnboaaaImplX
import Derived.Test.YtiplhdcapnboaaaFacts
import Derived.Lib.SmallJoins
namespace Go.Proofs.Ytiplhdcapnboaaa.PutFew
open Go.ChangeShapes Go.WideShapes Go.ChangeAt Go.RowKit Go.Shelf Go.Joins OkA Big Fl ImplB ImplF ImplS ImplT ImplU SpecA SpecB SpecC SpecD SpecW SpecX SpecF SpecG SpecH FindP FindN FindO FindD ImplW ImplX Pick Draw ClA DrB PlB Pl FindL StA StB StC StD StE StF StG SpS SpT DrS Sv LqI Pw DrF RmA WrA FlA PlA SpU ToA  Px NwA LqI Sn9 ImplL Kp DoA
open FlB (FsN)
open StN (SN)
open Facts (own laidOut)
set_option linter.unusedVariables false
set_option linter.unusedSimpArgs false
attribute [local go_sem ↓] Go.wp_at_zero Go.wp_at_succ

set_option maxRecDepth 100000 in
set_option maxHeartbeats 8000000 in
theorem walk (a0 : Option Addr) (len0 cap0 : Nat) (z0 : List Int) (w : World) (h0 : IsRow .u8 w a0 len0 cap0 z0) :
    Calls Try.prog 22 #[.slice a0 len0 cap0] w fun e w' => e = .returned (.bool true) ∧ Below w.heap.size w w' := by
  have HD := hide (drawPut_any w a0 len0 cap0 z0 h0)
  clear h0
  go_enter Try.func22, Try.ntmps22
  by_cases hbig0 : 1048576 < (len0 : Int)
  · go_wp2
    go_ret
    exact ⟨rfl, Below.refl _ _⟩
  go_wp2_with fail
  refine (unhide HD).mono ?_
  rintro e w1 ⟨g, o, c, bs, d, z, dc, dk, k, v, rfl, S1, k0, k1, v0, v1, B⟩
  have h4 := S1.fs.four
  have h6 := S1.six
  have hp4 := hide S1.fs.pgs
  have hs := S1.at
  clear HD S1
  generalize (some ⟨g, o, none⟩ : Option Addr) = fa at *
  generalize (some ⟨d, z, none⟩ : Option Addr) = da at *
  have bA : Below w1.heap.size w1 (w1.alloc (.cells #[.slice fa bs.length c, .slice da dk.length dc] 54)) := (Below.refl _ _).alloc (Nat.le_refl _) _
  have bx := Bx.new w1 (.slice fa bs.length c) (.slice da dk.length dc) 54
  replace hs := hs.below bA
  replace B := B.trans (bA.mono B.size)
  clear bA
  have y0 := bx.c0
  have y1 := bx.c1
  have HIP := hide (fun (w' : World) (h : SAt w' fa bs da dk) => iPut k v (fc := c) (dc := dc)  w' h h4 h6)
  have HSP := hide (fun (w' : World) (h : SAt w' fa bs da dk) => sPut k v (fc := c) (dc := dc)  w' h h4 h6 (unhide hp4))
  have HSO := hide (fun (w' : World) (h : SAt w' fa bs da dk) => sOk (fc := c) (dc := dc)  w' h h4 h6 (unhide hp4))
  have HSS := hide (show (Try.prog.info? 54).map (·.size) = some 2 by kernel_rfl)
  have HWP := hide (fun (hne : putS bs dk k v ≠ []) => put_wipes hne)
  have HL6 := hide (put_len (bs := bs) (dk := dk) k v)
  have HIF := hide (fun (w' : World) (h : SAt w' fa bs da dk) => iFlush (fc := c) (dc := dc) k (by omega) (by omega) w' h h4 h6)
  have HF7 := hide (flush_len (bs := bs) (dk := dk) k)
  generalize flushS bs dk k = LF at *
  generalize putS bs dk k v = L at *
  go_wp2_with fail
  generalize w1.alloc (.cells #[.slice fa bs.length c, .slice da dk.length dc] 54) = w2 at *
  generalize w1.heap.size = sb at *
  refine (unhide HIP _ hs).mono ?_
  rintro e u1 ⟨la, lc, rfl, l, b⟩
  replace hs := hs.below b
  replace bx := bx.below b
  clear y0 y1
  have y0 := bx.c0
  have y1 := bx.c1
  replace B := B.trans (b.mono B.size)
  clear b
  go_wp2_with fail
  refine (unhide HSP _ hs).mono ?_
  rintro e u2 ⟨ma, mc, rfl, m, b⟩
  replace hs := hs.below b
  replace l := l.below b
  replace bx := bx.below b
  clear y0 y1
  have y0 := bx.c0
  have y1 := bx.c1
  replace B := B.trans (b.mono B.size)
  clear b
  clear m
  by_cases hL0 : L.length = 0
  · have hLi : (L.length : Int) = 0 := by omega
    go_wp2_with fail
    refine (unhide HSP _ hs).mono ?_
    rintro e u3 ⟨ma, mc, rfl, m, b⟩
    replace hs := hs.below b
    replace l := l.below b
    replace bx := bx.below b
    clear y0 y1
    have y0 := bx.c0
    have y1 := bx.c1
    replace B := B.trans (b.mono B.size)
    clear b
    go_wp2
    go_ret
    exact ⟨rfl, B⟩
  have hL6 := unhide HL6
  have hne : L ≠ [] := fun q => hL0 (by rw [q]; rfl)
  obtain ⟨hw1, hw2⟩ := unhide HWP hne
  have HW := hide (⟨hw1, hw2⟩ : (L.length = 1 ↔ wpN L L.length = 0) ∧ wpN L L.length ≤ 1)
  obtain ⟨sg, rfl, hsg, hsr⟩ : ∃ g, la = some ⟨g, 0, none⟩ ∧ g < u2.heap.size ∧ u2.rangeAt g 0 (stsC L) := by
    rcases l with q | q
    · exact absurd q hne
    · exact q
  have HC : Hid (∀ j (hj : j < L.length), u2.cell? ⟨sg, j * 8, none⟩ = some (.int .i64 L[j].kind)) := fun j hj => by
    have := stp_at hsr j hj 0 (.int .i64 L[j].kind) rfl
    simpa using this
  have hLn : ((L.length : Int) = 0) = False := by simp; omega
  clear hw1 hw2 HWP HL6 hne hsr l HSP HIP HSO
  go_wp2
  go_loopw [7, 8] (fun q i w' => ∃ j : Nat, j ≤ L.length ∧ q = .int .i64 (wpN L j : Nat) ∧ i = .int .i64 j ∧ Below u2.heap.size u2 w') (fun q i _ => L.length - (intOf i).toNat)
  case atStart => exact ⟨0, by omega, rfl, rfl, Below.refl _ _⟩
  case round =>
    obtain ⟨j, hj, rfl, rfl, bw⟩ := hrel
    by_cases h0 : j = L.length
    · subst h0
      replace hs := hs.below bw
      replace bx := bx.below bw
      replace B := B.trans (bw.mono B.size)
      clear y0 y1 HC bw
      have y0 := bx.c0
      have y1 := bx.c1
      obtain ⟨hw1, hw2⟩ := unhide HW
      have hF7 := unhide HF7
      go_wp2_with fail
      refine (unhide HIF _ hs).mono ?_
      rintro e x1 ⟨fa1, fc1, rfl, _, b⟩
      replace B := B.trans (b.mono B.size)
      have hfi : (LF.length : Int) ≤ 7 := by omega
      have hLi : (L.length : Int) ≤ 6 := by omega
      have hwi : (wpN L L.length : Int) ≤ 1 := by omega
      by_cases h1 : L.length = 1
      · have e1 : ((L.length : Int) == 1) = true := by rw [h1]; rfl
        have e2 : ((wpN L L.length : Int) == 0) = true := by rw [hw1.1 h1]; rfl
        clear b hs bx y0 y1 h1 hw1 hw2
        go_wp2
        go_ret
        exact ⟨rfl, B⟩
      · have e1 : ((L.length : Int) == 1) = false := by simp; omega
        have e2 : ((wpN L L.length : Int) == 0) = false := by have : wpN L L.length ≠ 0 := fun q => h1 (hw1.2 q); simp; omega
        clear b hs bx y0 y1 h1 hw1 hw2
        go_wp2
        go_ret
        exact ⟨rfl, B⟩
    · have hjl : j < L.length := by omega
      have hji : (j : Int) < (L.length : Int) := by omega
      have hj0 : (0 : Int) ≤ (j : Int) := by omega
      have hc := (bw.cell (p := ⟨sg, j * 8, none⟩) hsg).trans (unhide HC j hjl)
      have hs8 := hide (wpN_succ L j hjl)
      have hwl := wpN_le L j
      have hwk : IntKind.i64.wrap ((wpN L j : Int) + 1) = (wpN L j : Int) + 1 := by rw [IntKind.wrap_i64] <;> omega
      have hwj : IntKind.i64.wrap ((j : Int) + 1) = (j : Int) + 1 := by rw [IntKind.wrap_i64] <;> omega
      by_cases hk2 : L[j].kind = 2
      · have hn2 : Hid (wpN L (j + 1) = wpN L j + 1) := by show _ = _; rw [unhide hs8, if_pos hk2]
        rw [hk2] at hc
        clear hk2 hs8 HC hs bx y0 y1 HW
        go_wp2
        go_roundw
        case rel => exact ⟨j + 1, by omega, by first | rfl | (rw [unhide hn2]; go_num) | (rw [unhide hn2]; rfl), by first | rfl | go_num, bw⟩
        case measure => simp [intOf]; omega
      · have hn2 : Hid (wpN L (j + 1) = wpN L j) := by show _ = _; rw [unhide hs8, if_neg hk2]; rfl
        have hkb : (L[j].kind == 2) = false := by simpa using hk2
        clear hk2 hs8 HC hs bx y0 y1 HW
        generalize L[j].kind = kd at *
        go_wp2
        go_roundw
        case rel => exact ⟨j + 1, by omega, by first | (rw [unhide hn2]) | rfl, by first | rfl | go_num, bw⟩
        case measure => simp [intOf]; omega


set_option maxRecDepth 100000 in
theorem lifted (os : Os) (started : os.Started) (H : Type) (enc : TypeId × Value → H) :
    ReturnsInHanded {} Try.checked os 22 .any (Rows.fnPutFewSpec.pre6 enc Try.prog Try.f22 Rows.fnPutFewRow.domain false) (Rows.fnPutFewSpec.post enc Try.prog Try.f22 false true false false) := by
  refine returnsInHanded_of_change (C := Try.checked) own started (by kernel_rfl) Try.func22
    (ChangeSpec.witness6 (enc := enc) (C := Try.checked) false ⟨#[], #[.slice none 0 0], []⟩ 8 (by kernel_rfl) (by kernel_rfl) (by kernel_rfl) (by kernel_rfl)) ?_
  intro W base args ds gs before hval0 hW hcnd _
  have hval : ∀ (j : Nat) t v, Try.f22.params[j]? = some t → args[j]? = some v → Value.okWide Try.prog W .any base t v := hval0
  have hW' := hW
  obtain ⟨p, q, hA0, hV, rfl, hfz, hnd⟩ := hW
  have hA : DataW.TrodAll enc Try.prog W 0 (fun _ => true) true Try.f22.params.toList args.toList ds p := hA0
  rw [Try.params22] at hA hval
  obtain ⟨v0, vs0, d0, ds0, p0, q0, hargs, rfl, rfl, h0, r0⟩ := trodAll_cons hA
  obtain ⟨rfl, rfl, rfl⟩ := trodAll_nil r0
  obtain rfl : args = #[v0] := by cases args; simp_all
  obtain ⟨rfl, rfl⟩ := trodVars_none hV
  have kk0 := h0
  have lt0 : ∀ x ∈ p0, x.block < W.heap.size := by obtain ⟨m, hm⟩ := kk0; exact DataW.trod_lt m _ _ _ hm
  obtain ⟨a0, len0, cap0, rfl⟩ := okWide_slice Try.underlying22 (hval 0 22 v0 rfl rfl)
  obtain ⟨z0, w0⟩ : ∃ zs, IsRow .u8 W a0 len0 cap0 zs := by
    obtain ⟨fuel, hf⟩ := h0
    rcases open_ints Try.underlying22 Try.underlying5 (by kernel_rfl) hf with ⟨hcs, _⟩ | ⟨x, l, c, zs, hcs, _, hl, hm, hz, _, hcell, hwz⟩
    · simp [Value.cells] at hcs
      obtain ⟨rfl, rfl, rfl⟩ := hcs
      exact ⟨[], .inl ⟨rfl, rfl, rfl, rfl⟩⟩
    · simp [Value.cells] at hcs
      obtain ⟨rfl, rfl, rfl⟩ := hcs
      exact ⟨zs, .inr ⟨_, rfl, hl, hm, by simpa using hz, hcell, hwz⟩⟩
  clear hA0
  refine (walk a0 len0 cap0 z0 W w0).mono fun e W' ⟨he, bel⟩ => ?_
  subst he
  exact ⟨_, rfl, _, _, _, [], _, [], hW', trodAll_mk1 (shut_bool Try.underlying4 _), (trodAll_cons_mk (Below.trod laidOut (by kernel_rfl) (of_decide_eq_true (by kernel_rfl)) kk0 bel lt0) trodAll_mk0), rfl, bel.frame _, fun h => by cases h⟩

set_option maxRecDepth 100000 in
theorem facts : joinedFacts Try.prog 22 Try.f22 Rows.fnPutFewSpec Rows.fnPutFewRow = true := by
  unfold joinedFacts
  refine Facts.and_t ?_ (by as_aux_lemma => kernel_rfl)
  refine Facts.and_t ?_ (by as_aux_lemma => kernel_rfl)
  refine Facts.and_t ?_ (by as_aux_lemma => kernel_rfl)
  refine Facts.and_t ?_ (by as_aux_lemma => kernel_rfl)
  refine Facts.and_t ?_ (by show (Try.prog.make == some Make.cut) = true; rw [Facts.made]; rfl)
  refine Facts.and_t ?_ (by show (false == Try.prog.liftsFinal) = true; rw [Facts.lifts]; rfl)
  refine Facts.and_t ?_ (Facts.enters)
  refine Facts.and_t ?_ (Facts.heard)
  refine Facts.and_t ?_ (rfl)
  refine Facts.and_t ?_ (by show (true == Try.prog.plainKeys) = true; rw [Facts.keys]; rfl)
  refine Facts.and_t ?_ (by as_aux_lemma => kernel_rfl)
  refine Facts.and_t ?_ (by as_aux_lemma => kernel_rfl)
  refine Facts.and_t ?_ (by as_aux_lemma => kernel_rfl)
  refine Facts.and_t ?_ (by as_aux_lemma => kernel_rfl)
  refine Facts.and_t ?_ (by as_aux_lemma => kernel_rfl)
  refine Facts.and_t ?_ (by as_aux_lemma => kernel_rfl)
  refine Facts.and_t ?_ (by as_aux_lemma => kernel_rfl)
  refine Facts.and_t ?_ (by as_aux_lemma => kernel_rfl)
  refine Facts.and_t ?_ (by as_aux_lemma => kernel_rfl)
  refine Facts.and_t ?_ (by as_aux_lemma => kernel_rfl)
  refine Facts.and_t ?_ (by as_aux_lemma => kernel_rfl)
  refine Facts.and_t ?_ (by as_aux_lemma => kernel_rfl)
  refine Facts.and_t ?_ (by as_aux_lemma => kernel_rfl)
  refine Facts.and_t ?_ (by as_aux_lemma => kernel_rfl)
  refine Facts.and_t ?_ (by as_aux_lemma => kernel_rfl)
  refine Facts.and_t ?_ (by as_aux_lemma => kernel_rfl)
  refine Facts.and_t ?_ (by as_aux_lemma => kernel_rfl)
  refine Facts.and_t ?_ (by as_aux_lemma => kernel_rfl)
  refine Facts.and_t ?_ (by as_aux_lemma => kernel_rfl)
  refine Facts.and_t ?_ (Facts.rowed)
  refine Facts.and_t ?_ (Facts.laidOut)
  kernel_rfl

theorem over : Rows.fnPutFewRow.holds Try.pinned (OpenSpec.ofChange Rows.fnPutFewSpec) :=
  OpenClaim.holds_of_wide 22 Try.f22 rfl rfl rfl rfl rfl rfl rfl ⟨rfl, rfl, rfl, rfl, rfl⟩ rfl rfl rfl rfl rfl (by kernel_rfl) Try.func22 facts
    (of_decide_eq_true (by kernel_rfl)) (by unfold Func.isWrapper; first | (rw [if_pos (by decide +kernel)]; kernel_rfl) | (rw [if_neg (by decide +kernel)]; exact ⟨rfl, rfl⟩))
    (fun os started H enc _ => lifted os started H enc)

end Go.Proofs.Ytiplhdcapnboaaa.PutFew
namespace Go.Proofs.Ytiplhdcapnboaaa
theorem fnPutFew_holds : Rows.FnPutFewSaid := PutFew.over
end Go.Proofs.Ytiplhdcapnboaaa
