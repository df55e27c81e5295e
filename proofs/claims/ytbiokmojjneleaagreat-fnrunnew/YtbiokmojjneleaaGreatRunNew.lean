/-
  What was never put is 0: so it is in a drawn play. The given statement, with no condition.
-/
import Derived.Test.YtbiokmojjneleaaGreatRcQ
import Derived.Test.YtbiokmojjneleaaGreatRbS
import Derived.Test.YtbiokmojjneleaaGreatHaT
import Derived.Test.YtbiokmojjneleaaGreatFacts
import Derived.Lib.SmallJoins
namespace Go.Proofs.YtbiokmojjneleaaGreat.RunNew
open Go.ChangeShapes Go.WideShapes Go.ChangeAt Go.RowKit Go.Shelf Go.Joins OkA Big Fl ImplB ImplF ImplS ImplT ImplU SpecA SpecB SpecC SpecD SpecW SpecX SpecF SpecG SpecH FindP FindN FindO FindD ImplW ImplX Pick Draw ClA DrB PlB AlX DpX Pl FindL StA StB StC StD StE StF StG SpS SpT Sv LqI LqF Px NwA Sn9 ImplL Kp DoA RmA WrA FlA PlA SpU ToA QuE LawT MkN Ct Cu Ps Py Pz PaA EvL EvS PrA Nf Nr Rw PyE 
open FlB (FsN)
open StN (SN)
open Facts (own laidOut)
set_option linter.unusedVariables false
set_option linter.unusedSimpArgs false
attribute [local go_sem ↓] Go.wp_at_zero Go.wp_at_succ

set_option maxRecDepth 100000 in
set_option maxHeartbeats 8000000 in
theorem walk (a0 : Option Addr) (len0 cap0 : Nat) (z0 : List Int) (w : World) (h0 : IsRow .u8 w a0 len0 cap0 z0) :
    Calls Tryz.prog 17 #[.slice a0 len0 cap0] w fun e w' => e = .returned (.bool true) ∧ Below w.heap.size w w' := by
  have HD := hide (drawRun_any w a0 len0 cap0 z0 h0)
  clear h0
  go_enter Tryz.func17, Tryz.ntmps17
  by_cases hbig0 : 1048576 < (len0 : Int)
  · go_wp2
    go_ret
    exact ⟨rfl, Below.refl _ _⟩
  go_wp2_with fail
  refine (unhide HD).mono ?_
  rintro e w1 ⟨ea, ec, L, rfl, hE, hl, hin, hac, B⟩
  clear HD
  have HIN := hide hin
  have HEV := hide (fun x hx => (hin x hx).ok)
  have HLC := hide hl
  have HAC := hide hac
  clear hin hl hac
  by_cases h60 : 60 < L.length
  · have hl61 : L.length ≤ 61 := by have := unhide HLC; omega
    have HI := hide (fun (w' : World) (h : EsAt w' ea L) => iRunN (cap := ec) L w' h (unhide HEV) (by omega) h60)
    have HS := hide (fun (w' : World) (h : EsAt w' ea L) => sRunN (cap := ec) L w' h (by omega) h60)
    clear HIN HEV HLC HAC h60 hl61
    go_wp2_with fail
    refine (unhide HI _ hE).mono ?_
    rintro e u1 ⟨rfl, b⟩
    replace hE := hE.below b
    replace B := B.trans (b.mono B.size)
    clear b
    have b : Below u1.heap.size u1 (u1.alloc (.cells #[.slice none 0 0, .slice none 0 0] 26)) := (Below.refl _ _).alloc (Nat.le_refl _) _
    have bs := Bx.new u1 (.slice none 0 0) (.slice none 0 0) 26
    replace hE := hE.below b
    replace B := B.trans (b.mono B.size)
    clear b
    have bs0 := bs.c0
    have bs1 := bs.c1
    go_wp2_with fail
    generalize u1.alloc (.cells #[.slice none 0 0, .slice none 0 0] 26) = v2 at *
    generalize u1.heap.size = bsb at *
    refine (unhide HS _ hE).mono ?_
    rintro e u3 ⟨rfl, b⟩
    replace hE := hE.below b
    replace bs := bs.below b
    clear bs0 bs1
    have bs0 := bs.c0
    have bs1 := bs.c1
    replace B := B.trans (b.mono B.size)
    clear b
    have b : Below u3.heap.size u3 (u3.alloc (.cells #[.slice none 0 0, .slice none 0 0] 26)) := (Below.refl _ _).alloc (Nat.le_refl _) _
    have bw := Bx.new u3 (.slice none 0 0) (.slice none 0 0) 26
    replace hE := hE.below b
    replace bs := bs.below b
    clear bs0 bs1
    have bs0 := bs.c0
    have bs1 := bs.c1
    replace B := B.trans (b.mono B.size)
    clear b
    have bw0 := bw.c0
    have bw1 := bw.c1
    go_wp2_with fail
    generalize u3.alloc (.cells #[.slice none 0 0, .slice none 0 0] 26) = v4 at *
    generalize u3.heap.size = bwb at *
    refine (lqNil _).mono ?_
    rintro e u5 ⟨rfl, b⟩
    replace hE := hE.below b
    replace bs := bs.below b
    clear bs0 bs1
    have bs0 := bs.c0
    have bs1 := bs.c1
    replace bw := bw.below b
    clear bw0 bw1
    have bw0 := bw.c0
    have bw1 := bw.c1
    replace B := B.trans (b.mono B.size)
    clear b
    go_wp2_with fail
    refine (lqNil _).mono ?_
    rintro e u6 ⟨rfl, b⟩
    replace hE := hE.below b
    replace bs := bs.below b
    clear bs0 bs1
    have bs0 := bs.c0
    have bs1 := bs.c1
    replace bw := bw.below b
    clear bw0 bw1
    have bw0 := bw.c0
    have bw1 := bw.c1
    replace B := B.trans (b.mono B.size)
    clear b
    go_wp2
    go_ret
    exact ⟨rfl, B⟩
  have hl60 : L.length ≤ 60 := by omega
  clear h60
  have HI := hide (fun (w' : World) (h : EsAt w' ea L) => iRunI (cap := ec) L w' h (unhide HEV) hl60)
  have HS := hide (fun (w' : World) (h : EsAt w' ea L) => sRun (cap := ec) L w' h hl60)
  have HST := hide (runP_st L)
  have HP := hide (run_put L)
  generalize runP L = P at *
  obtain ⟨BB, KK⟩ := P
  go_wp2_with fail
  refine (unhide HI _ hE).mono ?_
  rintro e u1 ⟨fa, c1, da, c2, rfl, hI, b⟩
  replace hE := hE.below b
  replace B := B.trans (b.mono B.size)
  clear b
  have hs : SO _ fa da BB KK := so_of hI (unhide HST)
  obtain ⟨loI, hiI, hJ, hlI⟩ : ∃ lo hi, InT u1 lo hi (.slice fa 4 c1) (.slice da 6 c2) true BB KK ∧ hi ≤ u1.heap.size := ⟨_, _, hI, Nat.le_refl _⟩
  clear hI
  have b : Below u1.heap.size u1 (u1.alloc (.cells #[.slice fa 4 c1, .slice da 6 c2] 26)) := (Below.refl _ _).alloc (Nat.le_refl _) _
  have bs := Bx.new u1 (.slice fa 4 c1) (.slice da 6 c2) 26
  replace hE := hE.below b
  replace hs := hs.below b
  replace hJ := hJ.below b
  replace hlI := Nat.le_trans hlI b.size
  replace B := B.trans (b.mono B.size)
  clear b
  have bs0 := bs.c0
  have bs1 := bs.c1
  go_wp2_with fail
  generalize u1.alloc (.cells #[.slice fa 4 c1, .slice da 6 c2] 26) = v2 at *
  generalize u1.heap.size = bsb at *
  refine (unhide HS _ hE).mono ?_
  rintro e u3 ⟨fw, c3, dw, c4, rfl, hw, b⟩
  replace hE := hE.below b
  replace hs := hs.below b
  replace hJ := hJ.below b
  replace bs := bs.below b
  clear bs0 bs1
  have bs0 := bs.c0
  have bs1 := bs.c1
  replace hlI := Nat.le_trans hlI b.size
  replace B := B.trans (b.mono B.size)
  clear b
  have b : Below u3.heap.size u3 (u3.alloc (.cells #[.slice fw 4 c3, .slice dw 6 c4] 26)) := (Below.refl _ _).alloc (Nat.le_refl _) _
  have bw := Bx.new u3 (.slice fw 4 c3) (.slice dw 6 c4) 26
  replace hE := hE.below b
  replace hs := hs.below b
  replace hJ := hJ.below b
  replace hw := hw.below b
  replace bs := bs.below b
  clear bs0 bs1
  have bs0 := bs.c0
  have bs1 := bs.c1
  replace hlI := Nat.le_trans hlI b.size
  replace B := B.trans (b.mono B.size)
  clear b
  have bw0 := bw.c0
  have bw1 := bw.c1
  go_wp2_with fail
  generalize u3.alloc (.cells #[.slice fw 4 c3, .slice dw 6 c4] 26) = v4 at *
  generalize u3.heap.size = bwb at *
  refine (lqEq _ hs hw).mono ?_
  rintro e u5 ⟨rfl, b⟩
  replace hE := hE.below b
  replace hs := hs.below b
  replace hJ := hJ.below b
  replace hw := hw.below b
  replace bs := bs.below b
  clear bs0 bs1
  have bs0 := bs.c0
  have bs1 := bs.c1
  replace bw := bw.below b
  clear bw0 bw1
  have bw0 := bw.c0
  have bw1 := bw.c1
  replace hlI := Nat.le_trans hlI b.size
  replace B := B.trans (b.mono B.size)
  clear b
  clear bw bw0 bw1
  clear hw
  clear HI HS
  clear hlI
  clear hJ
  clear HIN HEV HLC HAC HST
  have HP9 : Hid (∀ j : Nat, j < 6 → WasPut L ((j : Int) + 1) (readI BB KK ((j : Int) + 1)) ∧ WasPut L ((j : Int) + 1) (KK.getD j 0)) := HP
  clear HP
  go_wp2
  go_loopw [8] (fun a w' => ∃ q : Nat, q ≤ 6 ∧ a = .int .i64 ((q : Int) + 1) ∧ Below u5.heap.size u5 w') (fun a _ => 7 - (intOf a).toNat)
  case atStart => exact ⟨0, by omega, rfl, Below.refl _ _⟩
  case round =>
    obtain ⟨q, hq, rfl, bw⟩ := hrel
    have b := bw
    replace hE := hE.below b
    replace hs := hs.below b
    replace bs := bs.below b
    clear bs0 bs1
    have bs0 := bs.c0
    have bs1 := bs.c1
    replace B := B.trans (b.mono B.size)
    clear b
    have bq := bw
    clear bw
    by_cases h6 : q = 6
    · subst h6
      go_wp2
      go_ret
      exact ⟨rfl, B⟩
    · have hq5 : q < 6 := by omega
      have hwq0 : IntKind.i64.wrap (q : Int) = (q : Int) := by rw [IntKind.wrap_i64] <;> omega
      have hqi : (q : Int) + 1 ≤ 6 := by omega
      have hwq : IntKind.i64.wrap ((q : Int) + 1 + 1) = (q : Int) + 1 + 1 := by rw [IntKind.wrap_i64] <;> omega
      have hwm : IntKind.i64.wrap ((q : Int) + 1 - 1) = (q : Int) := by rw [IntKind.wrap_i64] <;> omega
      have hq0 : (0 : Int) ≤ (q : Int) := by omega
      have hq6 : (q : Int) < 6 := by omega
      have hqe : (q : Int) + 1 - 1 = (q : Int) := by omega
      have HRD := hide (fun (h0 : readI BB KK ((q : Int) + 1) = 0) (w' : World) (h : SO w' fa da BB KK) => (h0 ▸ iRdO (c1 := c1) (c2 := c2) ((q : Int) + 1) (by omega) (by omega) w' h : Calls Tryz.prog 38 #[.agg #[.slice fa 4 c1, .slice da 6 c2], .int .i64 ((q : Int) + 1)] w' fun e w'' => e = .returned (.int .i64 0) ∧ Below w'.heap.size w' w''))
      have HPQ := hide (unhide HP9 q hq5)
      clear HP9
      go_wp2
      go_loopw [9, 10] (fun p i w' => ∃ j : Nat, j ≤ L.length ∧ p = .bool (anyPut ((q : Int) + 1) (L.take j)) ∧ i = .int .i64 j ∧ Below wr.heap.size wr w') (fun p i _ => L.length - (intOf i).toNat)
      case atStart => exact ⟨0, by omega, rfl, rfl, Below.refl _ _⟩
      case round =>
        obtain ⟨j, hj, rfl, rfl, bw⟩ := hrel
        have b := bw
        replace hE := hE.below b
        replace hs := hs.below b
        replace bs := bs.below b
        clear bs0 bs1
        have bs0 := bs.c0
        have bs1 := bs.c1
        replace B := B.trans (b.mono B.size)
        clear b
        by_cases h0 : j = L.length
        · subst h0
          rw [List.take_of_length_le (Nat.le_refl _)]
          replace bq := bq.trans (bw.mono bq.size)
          clear bw
          clear hE
          cases hp : anyPut ((q : Int) + 1) L
          · have h1 := put_0 (unhide HPQ).1 hp
            have h2 := put_0 (unhide HPQ).2 hp
            have HR0 := hide (unhide HRD h1)
            clear HRD HPQ hp h1
            go_wp2_with fail
            refine (unhide HR0 _ hs).mono ?_
            rintro e u6 ⟨rfl, b⟩
            replace bq := bq.trans (b.mono bq.size)
            replace hs := hs.below b
            replace bs := bs.below b
            clear bs0 bs1
            have bs0 := bs.c0
            have bs1 := bs.c1
            replace B := B.trans (b.mono B.size)
            clear b
            obtain ⟨db, do9, rfl, hd⟩ := hs.sat.ds.lies (by rw [hs.l6]; omega)
            have hdq := hd q (by rw [hs.l6]; omega)
            rw [h2] at hdq
            clear hd HR0
            go_wp2
            go_roundw
            case rel => exact ⟨q + 1, by omega, by first | rfl | (rw [show ((q + 1 : Nat) : Int) = (q : Int) + 1 by omega]; first | rfl | go_num), bq⟩
            case measure => simp [intOf]; omega
          · clear HRD HPQ hp
            go_wp2
            go_roundw
            case rel => exact ⟨q + 1, by omega, by first | rfl | (rw [show ((q + 1 : Nat) : Int) = (q : Int) + 1 by omega]; first | rfl | go_num), bq⟩
            case measure => simp [intOf]; omega
        · have hjl : j < L.length := by omega
          have hji : (j : Int) < (L.length : Int) := by omega
          have hj0 : (0 : Int) ≤ (j : Int) := by omega
          have hwj : IntKind.i64.wrap ((j : Int) + 1) = (j : Int) + 1 := by rw [IntKind.wrap_i64] <;> omega
          obtain ⟨eb, eo, rfl, rX, lX⟩ := hE.at j hjl
          obtain ⟨v0, v1, v2, v3, v4⟩ := evC_cells rX
          have hT := hide (anyPut_take ((q : Int) + 1) L j hjl)
          clear HRD HPQ hs rX v2 v3 v4 bq
          generalize anyPut ((q : Int) + 1) (L.take j) = p at *
          cases p
          · by_cases h1 : L[j].k = 1
            · by_cases h2 : L[j].a = (q : Int) + 1
              · have hT2 : Hid (anyPut ((q : Int) + 1) (L.take (j + 1)) = true) := by show _ = _; rw [unhide hT]; rw [h1, h2]; simp
                rw [h1] at v0
                rw [h2] at v1
                clear hT h1 h2
                go_wp2
                go_roundw
                case rel => exact ⟨j + 1, by omega, by rw [unhide hT2], by first | rfl | go_num, bw⟩
                case measure => simp [intOf]; omega
              · have hT2 : Hid (anyPut ((q : Int) + 1) (L.take (j + 1)) = false) := by show _ = _; rw [unhide hT]; simp [h2]
                have hk2 : (L[j].a == (q : Int) + 1) = false := by simpa using h2
                rw [h1] at v0
                generalize L[j].a = ka at *
                clear hT h1 h2
                go_wp2
                go_roundw
                case rel => exact ⟨j + 1, by omega, by rw [unhide hT2], by first | rfl | go_num, bw⟩
                case measure => simp [intOf]; omega
            · have hT2 : Hid (anyPut ((q : Int) + 1) (L.take (j + 1)) = false) := by show _ = _; rw [unhide hT]; simp [h1]
              have hk1 : (L[j].k == 1) = false := by simpa using h1
              generalize L[j].k = kd at *
              clear hT h1 v1
              go_wp2
              go_roundw
              case rel => exact ⟨j + 1, by omega, by rw [unhide hT2], by first | rfl | go_num, bw⟩
              case measure => simp [intOf]; omega
          · have hT2 : Hid (anyPut ((q : Int) + 1) (L.take (j + 1)) = true) := by show _ = _; rw [unhide hT]; rfl
            clear hT v0 v1
            go_wp2
            go_roundw
            case rel => exact ⟨j + 1, by omega, by rw [unhide hT2], by first | rfl | go_num, bw⟩
            case measure => simp [intOf]; omega


set_option maxRecDepth 100000 in
theorem lifted (os : Os) (started : os.Started) (H : Type) (enc : TypeId × Value → H) :
    ReturnsInHanded {} Tryz.checked os 17 .any (Rows.fnRunNewSpec.pre6 enc Tryz.prog Tryz.f17 Rows.fnRunNewRow.domain false) (Rows.fnRunNewSpec.post enc Tryz.prog Tryz.f17 false true false false) := by
  refine returnsInHanded_of_change (C := Tryz.checked) own started (by kernel_rfl) Tryz.func17
    (ChangeSpec.witness6 (enc := enc) (C := Tryz.checked) false ⟨#[], #[.slice none 0 0], []⟩ 8 (by kernel_rfl) (by kernel_rfl) (by kernel_rfl) (by kernel_rfl)) ?_
  intro W base args ds gs before hval0 hW hcnd _
  have hval : ∀ (j : Nat) t v, Tryz.f17.params[j]? = some t → args[j]? = some v → Value.okWide Tryz.prog W .any base t v := hval0
  have hW' := hW
  obtain ⟨p, q, hA0, hV, rfl, hfz, hnd⟩ := hW
  have hA : DataW.TrodAll enc Tryz.prog W 0 (fun _ => true) true Tryz.f17.params.toList args.toList ds p := hA0
  rw [Tryz.params17] at hA hval
  obtain ⟨v0, vs0, d0, ds0, p0, q0, hargs, rfl, rfl, h0, r0⟩ := trodAll_cons hA
  obtain ⟨rfl, rfl, rfl⟩ := trodAll_nil r0
  obtain rfl : args = #[v0] := by cases args; simp_all
  obtain ⟨rfl, rfl⟩ := trodVars_none hV
  have kk0 := h0
  have lt0 : ∀ x ∈ p0, x.block < W.heap.size := by obtain ⟨m, hm⟩ := kk0; exact DataW.trod_lt m _ _ _ hm
  obtain ⟨a0, len0, cap0, rfl⟩ := okWide_slice Tryz.underlying22 (hval 0 22 v0 rfl rfl)
  obtain ⟨z0, w0⟩ : ∃ zs, IsRow .u8 W a0 len0 cap0 zs := by
    obtain ⟨fuel, hf⟩ := h0
    rcases open_ints Tryz.underlying22 Tryz.underlying5 (by kernel_rfl) hf with ⟨hcs, _⟩ | ⟨x, l, c, zs, hcs, _, hl, hm, hz, _, hcell, hwz⟩
    · simp [Value.cells] at hcs
      obtain ⟨rfl, rfl, rfl⟩ := hcs
      exact ⟨[], .inl ⟨rfl, rfl, rfl, rfl⟩⟩
    · simp [Value.cells] at hcs
      obtain ⟨rfl, rfl, rfl⟩ := hcs
      exact ⟨zs, .inr ⟨_, rfl, hl, hm, by simpa using hz, hcell, hwz⟩⟩
  clear hA0
  refine (walk a0 len0 cap0 z0 W w0).mono fun e W' ⟨he, bel⟩ => ?_
  subst he
  exact ⟨_, rfl, _, _, _, [], _, [], hW', trodAll_mk1 (shut_bool Tryz.underlying4 _), (trodAll_cons_mk (Below.trod laidOut (by kernel_rfl) (of_decide_eq_true (by kernel_rfl)) kk0 bel lt0) trodAll_mk0), rfl, bel.frame _, fun h => by cases h⟩

set_option maxRecDepth 100000 in
theorem facts : joinedFacts Tryz.prog 17 Tryz.f17 Rows.fnRunNewSpec Rows.fnRunNewRow = true := by
  unfold joinedFacts
  refine Facts.and_t ?_ (by as_aux_lemma => kernel_rfl)
  refine Facts.and_t ?_ (by as_aux_lemma => kernel_rfl)
  refine Facts.and_t ?_ (by as_aux_lemma => kernel_rfl)
  refine Facts.and_t ?_ (by as_aux_lemma => kernel_rfl)
  refine Facts.and_t ?_ (by show (Tryz.prog.make == some Make.cut) = true; rw [Facts.made]; rfl)
  refine Facts.and_t ?_ (by show (false == Tryz.prog.liftsFinal) = true; rw [Facts.lifts]; rfl)
  refine Facts.and_t ?_ (Facts.enters)
  refine Facts.and_t ?_ (Facts.heard)
  refine Facts.and_t ?_ (rfl)
  refine Facts.and_t ?_ (by show (true == Tryz.prog.plainKeys) = true; rw [Facts.keys]; rfl)
  refine Facts.and_t ?_ (by as_aux_lemma => kernel_rfl)
  refine Facts.and_t ?_ (by as_aux_lemma => kernel_rfl)
  refine Facts.and_t ?_ (by as_aux_lemma => kernel_rfl)
  refine Facts.and_t ?_ (by as_aux_lemma => kernel_rfl)
  refine Facts.and_t ?_ (by as_aux_lemma => kernel_rfl)
  refine Facts.and_t ?_ (by as_aux_lemma => kernel_rfl)
  refine Facts.and_t ?_ (by as_aux_lemma => kernel_rfl)
  refine Facts.and_t ?_ (by as_aux_lemma => kernel_rfl)
  refine Facts.and_t ?_ (by as_aux_lemma => kernel_rfl)
  refine Facts.and_t ?_ (by as_aux_lemma => kernel_rfl)
  refine Facts.and_t ?_ (by as_aux_lemma => kernel_rfl)
  refine Facts.and_t ?_ (by as_aux_lemma => kernel_rfl)
  refine Facts.and_t ?_ (by as_aux_lemma => kernel_rfl)
  refine Facts.and_t ?_ (by as_aux_lemma => kernel_rfl)
  refine Facts.and_t ?_ (by as_aux_lemma => kernel_rfl)
  refine Facts.and_t ?_ (by as_aux_lemma => kernel_rfl)
  refine Facts.and_t ?_ (by as_aux_lemma => kernel_rfl)
  refine Facts.and_t ?_ (by as_aux_lemma => kernel_rfl)
  refine Facts.and_t ?_ (by as_aux_lemma => kernel_rfl)
  refine Facts.and_t ?_ (Facts.rowed)
  refine Facts.and_t ?_ (Facts.laidOut)
  kernel_rfl

theorem over : Rows.fnRunNewRow.holds Tryz.pinned (OpenSpec.ofChange Rows.fnRunNewSpec) :=
  OpenClaim.holds_of_wide 17 Tryz.f17 rfl rfl rfl rfl rfl rfl rfl ⟨rfl, rfl, rfl, rfl, rfl⟩ rfl rfl rfl rfl rfl (by kernel_rfl) Tryz.func17 facts
    (of_decide_eq_true (by kernel_rfl)) (by unfold Func.isWrapper; first | (rw [if_pos (by decide +kernel)]; kernel_rfl) | (rw [if_neg (by decide +kernel)]; exact ⟨rfl, rfl⟩))
    (fun os started H enc _ => (lifted os started H enc))

end Go.Proofs.YtbiokmojjneleaaGreat.RunNew
namespace Go.Proofs.YtbiokmojjneleaaGreat
theorem fnRunNew_holds : Rows.FnRunNewSaid := RunNew.over
end Go.Proofs.YtbiokmojjneleaaGreat
