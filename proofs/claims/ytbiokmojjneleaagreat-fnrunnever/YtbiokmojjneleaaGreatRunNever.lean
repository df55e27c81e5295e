/-
  Nothing that was put is lost, wherever it falls: so nothing is in a drawn play. The given statement, with no condition.
-/
import Derived.Test.YtbiokmojjneleaaGreatRcQ
import Derived.Test.YtbiokmojjneleaaGreatRbS
import Derived.Test.YtbiokmojjneleaaGreatHaT
import Derived.Test.YtbiokmojjneleaaGreatFacts
import Derived.Lib.SmallJoins
namespace Go.Proofs.YtbiokmojjneleaaGreat.RunNever
open Go.ChangeShapes Go.WideShapes Go.ChangeAt Go.RowKit Go.Shelf Go.Joins OkA Big Fl ImplB ImplF ImplS ImplT ImplU SpecA SpecB SpecC SpecD SpecW SpecX SpecF SpecG SpecH FindP FindN FindO FindD ImplW ImplX Pick Draw ClA DrB PlB AlX DpX Pl FindL StA StB StC StD StE StF StG SpS SpT Sv LqI LqF Px NwA Sn9 ImplL Kp DoA RmA WrA FlA PlA SpU ToA QuE LawT MkN Ct Cu Ps Py Pz PaA EvL EvS PrA Nf Nr Rw PyE StD
open FlB (FsN)
open StN (SN)
open Facts (own laidOut)
set_option linter.unusedVariables false
set_option linter.unusedSimpArgs false
attribute [local go_sem ↓] Go.wp_at_zero Go.wp_at_succ

theorem can_take (a : Int) (L : List Ev) (j : Nat) (hj : j < L.length) : canL a (L.take (j + 1)) = canS a (canL a (L.take j)) L[j] := by
  rw [List.take_succ_eq_append_getElem hj, canL_push]
theorem can_len (a : Int) : ∀ (L : List Ev) (c : List Int), (L.foldl (canS a) c).length ≤ c.length + L.length
  | [], c => Nat.le_refl _
  | x :: r, c => by
    rw [List.foldl_cons]
    have h1 := can_len a r (canS a c x)
    have h2 : (canS a c x).length ≤ c.length + 1 := by
      unfold canS
      split
      · omega
      · split <;> simp
    rw [List.length_cons]; omega
theorem canS_no {a : Int} {c : List Int} {x : Ev} (h : x.k ≠ 1 ∨ x.a ≠ a ∨ x.c < 0) : canS a c x = c := by unfold canS; rw [if_pos h]
theorem canS_lo {a : Int} {c : List Int} {x : Ev} (h1 : x.k = 1) (h2 : x.a = a) (h3 : ¬ x.c < 0) (h4 : ¬ 6 ≤ x.c) : canS a c x = c ++ [x.b] := by
  unfold canS; rw [if_neg (by rintro (q | q | q); exact q h1; exact q h2; exact h3 q), if_neg h4]
theorem canS_hi {a : Int} {c : List Int} {x : Ev} (h1 : x.k = 1) (h2 : x.a = a) (h3 : ¬ x.c < 0) (h4 : 6 ≤ x.c) : canS a c x = [x.b] := by
  unfold canS; rw [if_neg (by rintro (q | q | q); exact q h1; exact q h2; exact h3 q), if_pos h4]; rfl
def anyI (v : Int) (C : List Int) : Bool := C.any (· == v)
theorem anyI_take (v : Int) (C : List Int) (j : Nat) (hj : j < C.length) : anyI v (C.take (j + 1)) = (anyI v (C.take j) || C[j] == v) := by
  unfold anyI; rw [List.take_succ_eq_append_getElem hj, List.any_append]; simp
theorem anyI_mem {v : Int} {C : List Int} (h : v ∈ C) : anyI v C = true := by unfold anyI; rw [List.any_eq_true]; exact ⟨v, h, by simp⟩
theorem rw_one {w : World} {lo : Nat} (x : Int) (hl : lo ≤ w.heap.size) : StD.Rw (w.alloc (.cells #[.int .i64 x] 3)) lo (.slice (some ⟨w.heap.size, 0, none⟩) 1 1) [x] :=
  ⟨World.ownsRow_lit w #[.int .i64 x] 1 hl (by simp [maxLen]) rfl, fun g hg => by simp [Value.ownBlock] at hg; subst hg; exact ⟨hl, by simp⟩⟩
theorem all_can (L : List Ev) (hl : L.length ≤ 90) (hA : ∀ x ∈ L, Nr.EvA x) (q : Nat) (hq : q < 6) : (alS (runP L).1 (runP L).2).getD q 0 ∈ canL ((q : Int) + 1) L := by
  have hst := runP_st L
  have e : (alS (runP L).1 (runP L).2).getD q 0 = readI (runP L).1 (runP L).2 ((q : Int) + 1) := by
    rw [Sv.al_at hst q hq]
    unfold rdS
    rw [hst, show inB ((q : Int) + 1) 1 6 = true by simp [inB]; omega]; rfl
  rw [e]
  exact run_can L hl hA _ (by omega) (by omega)

set_option maxRecDepth 100000 in
set_option maxHeartbeats 8000000 in
theorem walk (a0 : Option Addr) (len0 cap0 : Nat) (z0 : List Int) (w : World) (h0 : IsRow .u8 w a0 len0 cap0 z0) :
    Calls Tryz.prog 8 #[.slice a0 len0 cap0] w fun e w' => e = .returned (.bool true) ∧ Below w.heap.size w w' := by
  have HD := hide (drawRun_any w a0 len0 cap0 z0 h0)
  clear h0
  go_enter Tryz.func8, Tryz.ntmps8
  by_cases hbig0 : 1048576 < (len0 : Int)
  · go_wp2
    go_ret
    exact ⟨rfl, Below.refl _ _⟩
  go_wp2_with fail
  refine (unhide HD).mono ?_
  rintro e w1 ⟨ea, ec, L, rfl, hE, hl, hin, hac, B⟩
  clear HD
  have HIN := hide hin
  have HEV := hide (fun x hx => (hin x hx).ok)
  have HLC := hide hl
  have HAC := hide hac
  clear hin hl hac
  by_cases h60 : 60 < L.length
  · have hl61 : L.length ≤ 61 := by have := unhide HLC; omega
    have HI := hide (fun (w' : World) (h : EsAt w' ea L) => iRunN (cap := ec) L w' h (unhide HEV) (by omega) h60)
    have HS := hide (fun (w' : World) (h : EsAt w' ea L) => sRunN (cap := ec) L w' h (by omega) h60)
    clear HIN HEV HLC HAC h60 hl61
    go_wp2_with fail
    refine (unhide HI _ hE).mono ?_
    rintro e u1 ⟨rfl, b⟩
    replace hE := hE.below b
    replace B := B.trans (b.mono B.size)
    clear b
    have b : Below u1.heap.size u1 (u1.alloc (.cells #[.slice none 0 0, .slice none 0 0] 26)) := (Below.refl _ _).alloc (Nat.le_refl _) _
    have bs := Bx.new u1 (.slice none 0 0) (.slice none 0 0) 26
    replace hE := hE.below b
    replace B := B.trans (b.mono B.size)
    clear b
    have bs0 := bs.c0
    have bs1 := bs.c1
    go_wp2_with fail
    generalize u1.alloc (.cells #[.slice none 0 0, .slice none 0 0] 26) = v2 at *
    generalize u1.heap.size = bsb at *
    refine (unhide HS _ hE).mono ?_
    rintro e u3 ⟨rfl, b⟩
    replace hE := hE.below b
    replace bs := bs.below b
    clear bs0 bs1
    have bs0 := bs.c0
    have bs1 := bs.c1
    replace B := B.trans (b.mono B.size)
    clear b
    have b : Below u3.heap.size u3 (u3.alloc (.cells #[.slice none 0 0, .slice none 0 0] 26)) := (Below.refl _ _).alloc (Nat.le_refl _) _
    have bw := Bx.new u3 (.slice none 0 0) (.slice none 0 0) 26
    replace hE := hE.below b
    replace bs := bs.below b
    clear bs0 bs1
    have bs0 := bs.c0
    have bs1 := bs.c1
    replace B := B.trans (b.mono B.size)
    clear b
    have bw0 := bw.c0
    have bw1 := bw.c1
    go_wp2_with fail
    generalize u3.alloc (.cells #[.slice none 0 0, .slice none 0 0] 26) = v4 at *
    generalize u3.heap.size = bwb at *
    refine (lqNil _).mono ?_
    rintro e u5 ⟨rfl, b⟩
    replace hE := hE.below b
    replace bs := bs.below b
    clear bs0 bs1
    have bs0 := bs.c0
    have bs1 := bs.c1
    replace bw := bw.below b
    clear bw0 bw1
    have bw0 := bw.c0
    have bw1 := bw.c1
    replace B := B.trans (b.mono B.size)
    clear b
    go_wp2_with fail
    refine (lqNil _).mono ?_
    rintro e u6 ⟨rfl, b⟩
    replace hE := hE.below b
    replace bs := bs.below b
    clear bs0 bs1
    have bs0 := bs.c0
    have bs1 := bs.c1
    replace bw := bw.below b
    clear bw0 bw1
    have bw0 := bw.c0
    have bw1 := bw.c1
    replace B := B.trans (b.mono B.size)
    clear b
    go_wp2
    go_ret
    exact ⟨rfl, B⟩
  have hl60 : L.length ≤ 60 := by omega
  clear h60
  have HI := hide (fun (w' : World) (h : EsAt w' ea L) => iRunI (cap := ec) L w' h (unhide HEV) hl60)
  have HS := hide (fun (w' : World) (h : EsAt w' ea L) => sRun (cap := ec) L w' h hl60)
  have HST := hide (runP_st L)
  have hA : ∀ x ∈ L, Nr.EvA x := fun x hx _ => by have := unhide HIN x hx; unfold EvIn at this; omega
  have HCN := hide (all_can L (by omega) hA)
  clear hA
  generalize runP L = P at *
  obtain ⟨BB, KK⟩ := P
  go_wp2_with fail
  refine (unhide HI _ hE).mono ?_
  rintro e u1 ⟨fa, c1, da, c2, rfl, hI, b⟩
  replace hE := hE.below b
  replace B := B.trans (b.mono B.size)
  clear b
  have hs : SO _ fa da BB KK := so_of hI (unhide HST)
  obtain ⟨loI, hiI, hJ, hlI⟩ : ∃ lo hi, InT u1 lo hi (.slice fa 4 c1) (.slice da 6 c2) true BB KK ∧ hi ≤ u1.heap.size := ⟨_, _, hI, Nat.le_refl _⟩
  clear hI
  have b : Below u1.heap.size u1 (u1.alloc (.cells #[.slice fa 4 c1, .slice da 6 c2] 26)) := (Below.refl _ _).alloc (Nat.le_refl _) _
  have bs := Bx.new u1 (.slice fa 4 c1) (.slice da 6 c2) 26
  replace hE := hE.below b
  replace hs := hs.below b
  replace hJ := hJ.below b
  replace hlI := Nat.le_trans hlI b.size
  replace B := B.trans (b.mono B.size)
  clear b
  have bs0 := bs.c0
  have bs1 := bs.c1
  go_wp2_with fail
  generalize u1.alloc (.cells #[.slice fa 4 c1, .slice da 6 c2] 26) = v2 at *
  generalize u1.heap.size = bsb at *
  refine (unhide HS _ hE).mono ?_
  rintro e u3 ⟨fw, c3, dw, c4, rfl, hw, b⟩
  replace hE := hE.below b
  replace hs := hs.below b
  replace hJ := hJ.below b
  replace bs := bs.below b
  clear bs0 bs1
  have bs0 := bs.c0
  have bs1 := bs.c1
  replace hlI := Nat.le_trans hlI b.size
  replace B := B.trans (b.mono B.size)
  clear b
  have b : Below u3.heap.size u3 (u3.alloc (.cells #[.slice fw 4 c3, .slice dw 6 c4] 26)) := (Below.refl _ _).alloc (Nat.le_refl _) _
  have bw := Bx.new u3 (.slice fw 4 c3) (.slice dw 6 c4) 26
  replace hE := hE.below b
  replace hs := hs.below b
  replace hJ := hJ.below b
  replace hw := hw.below b
  replace bs := bs.below b
  clear bs0 bs1
  have bs0 := bs.c0
  have bs1 := bs.c1
  replace hlI := Nat.le_trans hlI b.size
  replace B := B.trans (b.mono B.size)
  clear b
  have bw0 := bw.c0
  have bw1 := bw.c1
  go_wp2_with fail
  generalize u3.alloc (.cells #[.slice fw 4 c3, .slice dw 6 c4] 26) = v4 at *
  generalize u3.heap.size = bwb at *
  refine (lqEq _ hs hw).mono ?_
  rintro e u5 ⟨rfl, b⟩
  replace hE := hE.below b
  replace hs := hs.below b
  replace hJ := hJ.below b
  replace hw := hw.below b
  replace bs := bs.below b
  clear bs0 bs1
  have bs0 := bs.c0
  have bs1 := bs.c1
  replace bw := bw.below b
  clear bw0 bw1
  have bw0 := bw.c0
  have bw1 := bw.c1
  replace hlI := Nat.le_trans hlI b.size
  replace B := B.trans (b.mono B.size)
  clear b
  clear bw bw0 bw1
  clear hw
  clear HI HS
  clear hlI
  clear hJ
  have HCN9 : Hid (∀ q : Nat, q < 6 → (alS BB KK).getD q 0 ∈ canL ((q : Int) + 1) L) := HCN
  have HAL := hide (Sv.al_len (unhide HST))
  have HA1 := hide (fun (w' : World) (h : SO w' fa da BB KK) => iAllO (c1 := c1) (c2 := c2) w' h)
  have HSE := hide (show (Tryz.prog.info? 42).map (·.size) = some 5 by kernel_rfl)
  clear HCN HIN HEV HAC HST
  obtain ⟨iI, hiI, hzI, hsI, hbI⟩ := infoI
  have HII := hide hiI
  clear hiI
  go_wp2_with fail
  refine (unhide HA1 _ hs).mono ?_
  rintro e u6 ⟨p1, q1, rfl, hd1, b⟩
  replace hE := hE.below b
  replace hs := hs.below b
  replace bs := bs.below b
  clear bs0 bs1
  have bs0 := bs.c0
  have bs1 := bs.c1
  replace B := B.trans (b.mono B.size)
  clear b
  clear HA1
  generalize alS BB KK = LM at *
  go_wp2
  go_loopw [9] (fun a w' => ∃ q : Nat, q ≤ 6 ∧ a = .int .i64 ((q : Int) + 1) ∧ Below u6.heap.size u6 w') (fun a _ => 7 - (intOf a).toNat)
  case atStart => exact ⟨0, by omega, rfl, Below.refl _ _⟩
  case round =>
    obtain ⟨q, hq, rfl, bw⟩ := hrel
    have b := bw
    replace hE := hE.below b
    replace hs := hs.below b
    replace hd1 := hd1.below b
    replace bs := bs.below b
    clear bs0 bs1
    have bs0 := bs.c0
    have bs1 := bs.c1
    replace B := B.trans (b.mono B.size)
    clear b
    have bq := bw
    clear bw
    by_cases h6 : q = 6
    · subst h6
      go_wp2_with fail
      refine (iOkO _ hs).mono ?_
      rintro e u7 ⟨rfl, b⟩
      replace hE := hE.below b
      replace hs := hs.below b
      replace hd1 := hd1.below b
      replace bs := bs.below b
      clear bs0 bs1
      have bs0 := bs.c0
      have bs1 := bs.c1
      replace B := B.trans (b.mono B.size)
      clear b
      go_wp2
      go_ret
      exact ⟨rfl, B⟩
    · have hq5 : q < 6 := by omega
      have hwq0 : IntKind.i64.wrap (q : Int) = (q : Int) := by rw [IntKind.wrap_i64] <;> omega
      have hqi : (q : Int) + 1 ≤ 6 := by omega
      have hwq : IntKind.i64.wrap ((q : Int) + 1 + 1) = (q : Int) + 1 + 1 := by rw [IntKind.wrap_i64] <;> omega
      have hwm : IntKind.i64.wrap ((q : Int) + 1 - 1) = (q : Int) := by rw [IntKind.wrap_i64] <;> omega
      have hq0 : (0 : Int) ≤ (q : Int) := by omega
      have hq6 : (q : Int) < 6 := by omega
      have hqe : (q : Int) + 1 - 1 = (q : Int) := by omega
      have HV := hide (unhide HCN9 q hq5)
      obtain ⟨mb, mo, rfl, hm9⟩ := hd1.lies (by rw [unhide HAL]; omega)
      have X2 := hm9 q (by rw [unhide HAL]; omega)
      have lt2 := Fl.cell_lt X2
      have mb9 : mb < wr.heap.size := by simpa using lt2
      generalize LM.getD q 0 = v at *
      have HX2 := hide X2
      clear HCN9 HAL hm9 lt2 X2 hd1 hs bs bs0 bs1
      have hll := unhide HLC
      generalize wr = w0 at *
      have bc : Below w0.heap.size w0 (w0.alloc (.cells #[.int .i64 0] 3)) := (Below.refl _ _).alloc (Nat.le_refl _) _
      have hR0 := rw_one (w := w0) 0 (Nat.le_refl w0.heap.size)
      go_wp2
      go_loopw [10, 11] (fun v i w' => ∃ j : Nat, j ≤ L.length ∧ i = .int .i64 j ∧ StD.Rw w' w0.heap.size v (canL ((q : Int) + 1) (L.take j)) ∧ w0.heap.size ≤ w'.heap.size ∧ Below w0.heap.size w0 w') (fun _ i _ => L.length - (intOf i).toNat)
      case atStart => exact ⟨0, by omega, rfl, hR0, bc.size, bc⟩
      case round =>
        obtain ⟨j, hj, rfl, hR, hsz, bw⟩ := hrel
        clear bc hR0
        by_cases h0 : j = L.length
        · subst h0
          rw [List.take_of_length_le (Nat.le_refl _)] at hR
          obtain ⟨ca, cc, rfl, hC⟩ := hR.form
          have hAN := hide (anyI_mem (unhide HV))
          have hCl := can_len ((q : Int) + 1) L [0]
          have HCL : Hid ((canL ((q : Int) + 1) L).length ≤ 61) := by show _ ≤ _; unfold canL; simp at hCl; omega
          have X3 := (bw.cell (p := ⟨mb, mo + q, none⟩) mb9).trans (unhide HX2)
          have mb3 : mb < wr.heap.size := by omega
          replace bq := bq.trans (bw.mono bq.size)
          clear bw hR hsz hE HV HX2 mb9 hCl
          generalize canL ((q : Int) + 1) L = C at *
          have hcl := unhide HCL
          have HX3 := hide X3
          clear X3
          generalize wr = w3 at *
          have HC3 := hide hC
          clear hC
          go_wp2
          go_loopw [13, 14] (fun f i w' => ∃ j : Nat, j ≤ C.length ∧ f = .bool (anyI v (C.take j)) ∧ i = .int .i64 j ∧ Below w3.heap.size w3 w') (fun _ i _ => C.length - (intOf i).toNat)
          case atStart => exact ⟨0, by omega, rfl, rfl, Below.refl _ _⟩
          case round =>
            obtain ⟨j, hj, rfl, rfl, bw⟩ := hrel
            by_cases h1 : j = C.length
            · subst h1
              rw [List.take_of_length_le (Nat.le_refl _), unhide hAN]
              replace bq := bq.trans (bw.mono bq.size)
              clear bw HC3 HX3
              go_wp2
              go_roundw
              case rel => exact ⟨q + 1, by omega, by first | rfl | (rw [show ((q + 1 : Nat) : Int) = (q : Int) + 1 by omega]; first | rfl | go_num), bq⟩
              case measure => simp [intOf]; omega
            have hjl : j < C.length := by omega
            have hji : (j : Int) < (C.length : Int) := by omega
            have hj0 : (0 : Int) ≤ (j : Int) := by omega
            have hwj : IntKind.i64.wrap ((j : Int) + 1) = (j : Int) + 1 := by rw [IntKind.wrap_i64] <;> omega
            obtain ⟨cb, co, rfl, hc9⟩ := (unhide HC3).lies (by omega)
            have Y2 := hc9 j hjl
            have ltc := Fl.cell_lt Y2
            have cb9 : cb < w3.heap.size := by simpa using ltc
            have Y3 := (bw.cell (p := ⟨cb, co + j, none⟩) cb9).trans Y2
            have X3 := (bw.cell (p := ⟨mb, mo + q, none⟩) mb3).trans (unhide HX3)
            have cb8 := Nat.lt_of_lt_of_le cb9 bw.size
            have mb8 := Nat.lt_of_lt_of_le mb3 bw.size
            have HT := hide (anyI_take v C j hjl)
            have eC : C.getD j 0 = C[j] := by rw [List.getD_eq_getElem?_getD, List.getElem?_eq_getElem hjl]; rfl
            rw [eC] at Y3
            clear hc9 Y2 ltc HC3 HX3 hAN HCL eC
            generalize C[j] = cj at *
            generalize anyI v (C.take j) = p at *
            cases p
            · by_cases hcv : cj = v
              · have HT2 : Hid (anyI v (C.take (j + 1)) = true) := by show _ = _; rw [unhide HT]; simp [hcv]
                subst hcv
                have hvv : (cj == cj) = true := by simp
                clear HT
                go_upto_region 25 with fail
                refine wp_region_noPanic ?_
                refine wp_region_held_drew (S := fun w' => Kept [] wr w') (by kernel_rfl) (Kept.refl _ _).drew (fun hHeld => ?_)
                generalize wr.drew = y0 at *
                have z0 := hHeld.size
                refine takeL 0 (.bool false) rfl (by kernel_rfl) (by kernel_rfl) (by kernel_rfl) (fun _ _ _ h => h) (Or.inl ⟨rfl, fun _ _ => rfl⟩) hHeld ?_
                try simp only [Act.put, List.setIfInBounds_toArray, List.set_cons_zero, List.set_cons_succ]
                refine takeL 1 (.bool false) rfl (by kernel_rfl) (by kernel_rfl) (by kernel_rfl) (fun _ _ _ h => h) (Or.inl ⟨rfl, fun _ _ => rfl⟩) hHeld ?_
                try simp only [Act.put, List.setIfInBounds_toArray, List.set_cons_zero, List.set_cons_succ]
                refine takeL 2 (.slice (some ⟨cb, co, none⟩) C.length cc) rfl (by kernel_rfl) (by kernel_rfl) (by kernel_rfl) (fun _ _ _ h => h) (Or.inl ⟨rfl, fun _ _ => rfl⟩) hHeld ?_
                try simp only [Act.put, List.setIfInBounds_toArray, List.set_cons_zero, List.set_cons_succ]
                refine takeL 3 (.int .i64 (j : Int)) rfl (by kernel_rfl) (by kernel_rfl) (by kernel_rfl) (fun _ _ _ h => h) (Or.inl ⟨rfl, fun _ _ => rfl⟩) hHeld ?_
                try simp only [Act.put, List.setIfInBounds_toArray, List.set_cons_zero, List.set_cons_succ]
                refine takeL 4 (.pointer (some ⟨cb, co + j, none⟩)) rfl (by kernel_rfl) (by kernel_rfl) (by kernel_rfl) (fun _ _ _ h => h) (Or.inl ⟨rfl, fun w9 hSw => by go_simp⟩) hHeld ?_
                try simp only [Act.put, List.setIfInBounds_toArray, List.set_cons_zero, List.set_cons_succ]
                refine takeL 5 (.int .i64 cj) rfl (by kernel_rfl) (by kernel_rfl) (by kernel_rfl) (fun _ _ _ h => h) (Or.inl ⟨rfl, fun w9 hSw => by have hc := (hSw.cell (b := cb) (co + j) (by omega) (by simp)).trans Y3; go_simp⟩) hHeld ?_
                try simp only [Act.put, List.setIfInBounds_toArray, List.set_cons_zero, List.set_cons_succ]
                refine takeL 6 (.slice (some ⟨mb, mo, none⟩) 6 q1) rfl (by kernel_rfl) (by kernel_rfl) (by kernel_rfl) (fun _ _ _ h => h) (Or.inl ⟨rfl, fun _ _ => rfl⟩) hHeld ?_
                try simp only [Act.put, List.setIfInBounds_toArray, List.set_cons_zero, List.set_cons_succ]
                refine takeL 7 (.int .i64 ((q : Int) + 1)) rfl (by kernel_rfl) (by kernel_rfl) (by kernel_rfl) (fun _ _ _ h => h) (Or.inl ⟨rfl, fun _ _ => rfl⟩) hHeld ?_
                try simp only [Act.put, List.setIfInBounds_toArray, List.set_cons_zero, List.set_cons_succ]
                refine takeL 8 (.int .i64 (q : Int)) rfl (by kernel_rfl) (by kernel_rfl) (by kernel_rfl) (fun _ _ _ h => h) (Or.inl ⟨rfl, fun w9 hSw => by go_simp⟩) hHeld ?_
                try simp only [Act.put, List.setIfInBounds_toArray, List.set_cons_zero, List.set_cons_succ]
                refine takeL 9 (.pointer (some ⟨mb, mo + q, none⟩)) rfl (by kernel_rfl) (by kernel_rfl) (by kernel_rfl) (fun _ _ _ h => h) (Or.inl ⟨rfl, fun w9 hSw => by go_simp⟩) hHeld ?_
                try simp only [Act.put, List.setIfInBounds_toArray, List.set_cons_zero, List.set_cons_succ]
                refine takeL 10 (.int .i64 cj) rfl (by kernel_rfl) (by kernel_rfl) (by kernel_rfl) (fun _ _ _ h => h) (Or.inl ⟨rfl, fun w9 hSw => by have hc := (hSw.cell (b := mb) (mo + q) (by omega) (by simp)).trans X3; go_simp⟩) hHeld ?_
                try simp only [Act.put, List.setIfInBounds_toArray, List.set_cons_zero, List.set_cons_succ]
                refine takeL 11 (.bool true) rfl (by kernel_rfl) (by kernel_rfl) (by kernel_rfl) (fun _ _ _ h => h) (Or.inl ⟨rfl, fun w9 hSw => by go_simp⟩) hHeld ?_
                try simp only [Act.put, List.setIfInBounds_toArray, List.set_cons_zero, List.set_cons_succ]
                refine takeL 12 (.bool true) rfl (by kernel_rfl) (by kernel_rfl) (by kernel_rfl) (fun _ _ _ h => h) (Or.inl ⟨rfl, fun w9 hSw => by go_simp⟩) hHeld ?_
                try simp only [Act.put, List.setIfInBounds_toArray, List.set_cons_zero, List.set_cons_succ]
                refine takeL 13 (.bool true) rfl (by kernel_rfl) (by kernel_rfl) (by kernel_rfl) (fun _ _ _ h => h) (Or.inl ⟨rfl, fun _ _ => rfl⟩) hHeld ?_
                try simp only [Act.put, List.setIfInBounds_toArray, List.set_cons_zero, List.set_cons_succ]
                refine wpAnyH_done (by kernel_rfl) ?_ _
                refine NoPanic.normal ?_
                have K2 := bw.trans ((Kept.all hHeld (by simp)).mono bw.size)
                clear hHeld
                go_wp2
                go_roundw
                case rel => exact ⟨j + 1, by omega, by rw [unhide HT2], by first | rfl | go_num, K2⟩
                case measure => simp [intOf]; omega
              · have HT2 : Hid (anyI v (C.take (j + 1)) = false) := by show _ = _; rw [unhide HT]; simp [hcv]
                have hvv : (cj == v) = false := by simpa using hcv
                clear HT hcv
                go_upto_region 25 with fail
                refine wp_region_noPanic ?_
                refine wp_region_held_drew (S := fun w' => Kept [] wr w') (by kernel_rfl) (Kept.refl _ _).drew (fun hHeld => ?_)
                generalize wr.drew = y0 at *
                have z0 := hHeld.size
                refine takeL 0 (.bool false) rfl (by kernel_rfl) (by kernel_rfl) (by kernel_rfl) (fun _ _ _ h => h) (Or.inl ⟨rfl, fun _ _ => rfl⟩) hHeld ?_
                try simp only [Act.put, List.setIfInBounds_toArray, List.set_cons_zero, List.set_cons_succ]
                refine takeL 1 (.bool false) rfl (by kernel_rfl) (by kernel_rfl) (by kernel_rfl) (fun _ _ _ h => h) (Or.inl ⟨rfl, fun _ _ => rfl⟩) hHeld ?_
                try simp only [Act.put, List.setIfInBounds_toArray, List.set_cons_zero, List.set_cons_succ]
                refine takeL 2 (.slice (some ⟨cb, co, none⟩) C.length cc) rfl (by kernel_rfl) (by kernel_rfl) (by kernel_rfl) (fun _ _ _ h => h) (Or.inl ⟨rfl, fun _ _ => rfl⟩) hHeld ?_
                try simp only [Act.put, List.setIfInBounds_toArray, List.set_cons_zero, List.set_cons_succ]
                refine takeL 3 (.int .i64 (j : Int)) rfl (by kernel_rfl) (by kernel_rfl) (by kernel_rfl) (fun _ _ _ h => h) (Or.inl ⟨rfl, fun _ _ => rfl⟩) hHeld ?_
                try simp only [Act.put, List.setIfInBounds_toArray, List.set_cons_zero, List.set_cons_succ]
                refine takeL 4 (.pointer (some ⟨cb, co + j, none⟩)) rfl (by kernel_rfl) (by kernel_rfl) (by kernel_rfl) (fun _ _ _ h => h) (Or.inl ⟨rfl, fun w9 hSw => by go_simp⟩) hHeld ?_
                try simp only [Act.put, List.setIfInBounds_toArray, List.set_cons_zero, List.set_cons_succ]
                refine takeL 5 (.int .i64 cj) rfl (by kernel_rfl) (by kernel_rfl) (by kernel_rfl) (fun _ _ _ h => h) (Or.inl ⟨rfl, fun w9 hSw => by have hc := (hSw.cell (b := cb) (co + j) (by omega) (by simp)).trans Y3; go_simp⟩) hHeld ?_
                try simp only [Act.put, List.setIfInBounds_toArray, List.set_cons_zero, List.set_cons_succ]
                refine takeL 6 (.slice (some ⟨mb, mo, none⟩) 6 q1) rfl (by kernel_rfl) (by kernel_rfl) (by kernel_rfl) (fun _ _ _ h => h) (Or.inl ⟨rfl, fun _ _ => rfl⟩) hHeld ?_
                try simp only [Act.put, List.setIfInBounds_toArray, List.set_cons_zero, List.set_cons_succ]
                refine takeL 7 (.int .i64 ((q : Int) + 1)) rfl (by kernel_rfl) (by kernel_rfl) (by kernel_rfl) (fun _ _ _ h => h) (Or.inl ⟨rfl, fun _ _ => rfl⟩) hHeld ?_
                try simp only [Act.put, List.setIfInBounds_toArray, List.set_cons_zero, List.set_cons_succ]
                refine takeL 8 (.int .i64 (q : Int)) rfl (by kernel_rfl) (by kernel_rfl) (by kernel_rfl) (fun _ _ _ h => h) (Or.inl ⟨rfl, fun w9 hSw => by go_simp⟩) hHeld ?_
                try simp only [Act.put, List.setIfInBounds_toArray, List.set_cons_zero, List.set_cons_succ]
                refine takeL 9 (.pointer (some ⟨mb, mo + q, none⟩)) rfl (by kernel_rfl) (by kernel_rfl) (by kernel_rfl) (fun _ _ _ h => h) (Or.inl ⟨rfl, fun w9 hSw => by go_simp⟩) hHeld ?_
                try simp only [Act.put, List.setIfInBounds_toArray, List.set_cons_zero, List.set_cons_succ]
                refine takeL 10 (.int .i64 v) rfl (by kernel_rfl) (by kernel_rfl) (by kernel_rfl) (fun _ _ _ h => h) (Or.inl ⟨rfl, fun w9 hSw => by have hc := (hSw.cell (b := mb) (mo + q) (by omega) (by simp)).trans X3; go_simp⟩) hHeld ?_
                try simp only [Act.put, List.setIfInBounds_toArray, List.set_cons_zero, List.set_cons_succ]
                refine takeL 11 (.bool false) rfl (by kernel_rfl) (by kernel_rfl) (by kernel_rfl) (fun _ _ _ h => h) (Or.inl ⟨rfl, fun w9 hSw => by go_simp⟩) hHeld ?_
                try simp only [Act.put, List.setIfInBounds_toArray, List.set_cons_zero, List.set_cons_succ]
                refine takeL 12 (.bool false) rfl (by kernel_rfl) (by kernel_rfl) (by kernel_rfl) (fun _ _ _ h => h) (Or.inl ⟨rfl, fun w9 hSw => by go_simp⟩) hHeld ?_
                try simp only [Act.put, List.setIfInBounds_toArray, List.set_cons_zero, List.set_cons_succ]
                refine takeL 13 (.bool false) rfl (by kernel_rfl) (by kernel_rfl) (by kernel_rfl) (fun _ _ _ h => h) (Or.inl ⟨rfl, fun _ _ => rfl⟩) hHeld ?_
                try simp only [Act.put, List.setIfInBounds_toArray, List.set_cons_zero, List.set_cons_succ]
                refine wpAnyH_done (by kernel_rfl) ?_ _
                refine NoPanic.normal ?_
                have K2 := bw.trans ((Kept.all hHeld (by simp)).mono bw.size)
                clear hHeld
                go_wp2
                go_roundw
                case rel => exact ⟨j + 1, by omega, by rw [unhide HT2], by first | rfl | go_num, K2⟩
                case measure => simp [intOf]; omega
            · have HT2 : Hid (anyI v (C.take (j + 1)) = true) := by show _ = _; rw [unhide HT]; simp
              clear HT
              go_upto_region 25 with fail
              refine wp_region_noPanic ?_
              refine wp_region_held_drew (S := fun w' => Kept [] wr w') (by kernel_rfl) (Kept.refl _ _).drew (fun hHeld => ?_)
              generalize wr.drew = y0 at *
              have z0 := hHeld.size
              refine takeL 0 (.bool true) rfl (by kernel_rfl) (by kernel_rfl) (by kernel_rfl) (fun _ _ _ h => h) (Or.inl ⟨rfl, fun _ _ => rfl⟩) hHeld ?_
              try simp only [Act.put, List.setIfInBounds_toArray, List.set_cons_zero, List.set_cons_succ]
              refine takeL 1 (.bool true) rfl (by kernel_rfl) (by kernel_rfl) (by kernel_rfl) (fun _ _ _ h => h) (Or.inl ⟨rfl, fun _ _ => rfl⟩) hHeld ?_
              try simp only [Act.put, List.setIfInBounds_toArray, List.set_cons_zero, List.set_cons_succ]
              refine takeL 2 (undef) rfl (by kernel_rfl) (by kernel_rfl) (by kernel_rfl) (fun _ _ _ h => h) (Or.inr ⟨rfl, rfl⟩) hHeld ?_
              try simp only [Act.put, List.setIfInBounds_toArray, List.set_cons_zero, List.set_cons_succ]
              refine takeL 3 (undef) rfl (by kernel_rfl) (by kernel_rfl) (by kernel_rfl) (fun _ _ _ h => h) (Or.inr ⟨rfl, rfl⟩) hHeld ?_
              try simp only [Act.put, List.setIfInBounds_toArray, List.set_cons_zero, List.set_cons_succ]
              refine takeL 4 (undef) rfl (by kernel_rfl) (by kernel_rfl) (by kernel_rfl) (fun _ _ _ h => h) (Or.inr ⟨rfl, rfl⟩) hHeld ?_
              try simp only [Act.put, List.setIfInBounds_toArray, List.set_cons_zero, List.set_cons_succ]
              refine takeL 5 (undef) rfl (by kernel_rfl) (by kernel_rfl) (by kernel_rfl) (fun _ _ _ h => h) (Or.inr ⟨rfl, rfl⟩) hHeld ?_
              try simp only [Act.put, List.setIfInBounds_toArray, List.set_cons_zero, List.set_cons_succ]
              refine takeL 6 (undef) rfl (by kernel_rfl) (by kernel_rfl) (by kernel_rfl) (fun _ _ _ h => h) (Or.inr ⟨rfl, rfl⟩) hHeld ?_
              try simp only [Act.put, List.setIfInBounds_toArray, List.set_cons_zero, List.set_cons_succ]
              refine takeL 7 (undef) rfl (by kernel_rfl) (by kernel_rfl) (by kernel_rfl) (fun _ _ _ h => h) (Or.inr ⟨rfl, rfl⟩) hHeld ?_
              try simp only [Act.put, List.setIfInBounds_toArray, List.set_cons_zero, List.set_cons_succ]
              refine takeL 8 (undef) rfl (by kernel_rfl) (by kernel_rfl) (by kernel_rfl) (fun _ _ _ h => h) (Or.inr ⟨rfl, rfl⟩) hHeld ?_
              try simp only [Act.put, List.setIfInBounds_toArray, List.set_cons_zero, List.set_cons_succ]
              refine takeL 9 (undef) rfl (by kernel_rfl) (by kernel_rfl) (by kernel_rfl) (fun _ _ _ h => h) (Or.inr ⟨rfl, rfl⟩) hHeld ?_
              try simp only [Act.put, List.setIfInBounds_toArray, List.set_cons_zero, List.set_cons_succ]
              refine takeL 10 (undef) rfl (by kernel_rfl) (by kernel_rfl) (by kernel_rfl) (fun _ _ _ h => h) (Or.inr ⟨rfl, rfl⟩) hHeld ?_
              try simp only [Act.put, List.setIfInBounds_toArray, List.set_cons_zero, List.set_cons_succ]
              refine takeL 11 (undef) rfl (by kernel_rfl) (by kernel_rfl) (by kernel_rfl) (fun _ _ _ h => h) (Or.inr ⟨rfl, rfl⟩) hHeld ?_
              try simp only [Act.put, List.setIfInBounds_toArray, List.set_cons_zero, List.set_cons_succ]
              refine takeL 12 (.bool true) rfl (by kernel_rfl) (by kernel_rfl) (by kernel_rfl) (fun _ _ _ h => h) (Or.inl ⟨rfl, fun w9 hSw => by go_simp⟩) hHeld ?_
              try simp only [Act.put, List.setIfInBounds_toArray, List.set_cons_zero, List.set_cons_succ]
              refine takeL 13 (.bool true) rfl (by kernel_rfl) (by kernel_rfl) (by kernel_rfl) (fun _ _ _ h => h) (Or.inl ⟨rfl, fun _ _ => rfl⟩) hHeld ?_
              try simp only [Act.put, List.setIfInBounds_toArray, List.set_cons_zero, List.set_cons_succ]
              refine wpAnyH_done (by kernel_rfl) ?_ _
              refine NoPanic.normal ?_
              have K2 := bw.trans ((Kept.all hHeld (by simp)).mono bw.size)
              clear hHeld
              go_wp2
              go_roundw
              case rel => exact ⟨j + 1, by omega, by rw [unhide HT2], by first | rfl | go_num, K2⟩
              case measure => simp [intOf]; omega
        have hjl : j < L.length := by omega
        have hji : (j : Int) < (L.length : Int) := by omega
        have hj0 : (0 : Int) ≤ (j : Int) := by omega
        have hwj : IntKind.i64.wrap ((j : Int) + 1) = (j : Int) + 1 := by rw [IntKind.wrap_i64] <;> omega
        have hE2 := hE.below bw
        obtain ⟨eb, eo, rfl, rX, lX⟩ := hE2.at j hjl
        have HT := hide (can_take ((q : Int) + 1) L j hjl)
        have hCl := can_len ((q : Int) + 1) (L.take j) [0]
        have HCL : Hid ((canL ((q : Int) + 1) (L.take j)).length ≤ 61) := by show _ ≤ _; unfold canL; rw [List.length_take] at hCl; simp at hCl; omega
        clear hE hE2 HV HX2 mb9 hCl lX bq
        generalize canL ((q : Int) + 1) (L.take j) = C at *
        generalize hC2 : canL ((q : Int) + 1) (L.take (j + 1)) = C2 at *
        have HC2 := hide hC2
        clear hC2
        generalize L[j] = x at *
        have hcl := unhide HCL
        have bE : Below wr.heap.size wr (wr.alloc (.cells #[.int .i64 x.k, .int .i64 x.a, .int .i64 x.b, .int .i64 x.c, .bool x.t] 42)) := (Below.refl _ _).alloc (Nat.le_refl _) _
        have cE := CsAt.new wr [.int .i64 x.k, .int .i64 x.a, .int .i64 x.b, .int .i64 x.c, .bool x.t] 42
        replace hR := hR.below bE (Nat.le_refl _)
        replace bw := bw.trans (bE.mono hsz)
        replace hsz := Nat.le_trans hsz bE.size
        clear bE
        have e0 := cE.cell 0 _ rfl
        have e1 := cE.cell 1 _ rfl
        have e2 := cE.cell 2 _ rfl
        have e3 := cE.cell 3 _ rfl
        by_cases h1 : x.k = 1
        · by_cases h2 : x.a = (q : Int) + 1
          · by_cases h3 : x.c < 0
            · have hk1 : (x.k != 1) = false := by simp [h1]
              have hk2 : (x.a != (q : Int) + 1) = false := by simp [h2]
              have HE : Hid (C2 = C) := (unhide HT).trans (canS_no (.inr (.inr h3)))
              clear HT h1 h2
              go_upto_region 17 with (refine wpList_load_mid rfl 42 _ rfl eb (eo + j * 5) rfl [.int .i64 x.k, .int .i64 x.a, .int .i64 x.b, .int .i64 x.c, .bool x.t] _ rX Tryz.underlying42 rfl (unhide HSE) ?_)
              generalize wr.alloc (.cells #[.int .i64 x.k, .int .i64 x.a, .int .i64 x.b, .int .i64 x.c, .bool x.t] 42) = wE at *
              generalize wr.heap.size = eb9 at *
              clear rX
              have HR := hide hR
              have HB := hide bw
              clear hR bw cE
              go_wp2
              go_roundw
              case rel => exact ⟨j + 1, by omega, by first | rfl | go_num, by rw [unhide HC2, unhide HE]; exact unhide HR, hsz, unhide HB⟩
              case measure => simp [intOf]; omega
            · by_cases h4 : 6 ≤ x.c
              · have HE : Hid (C2 = [x.b]) := (unhide HT).trans (canS_hi h1 h2 h3 h4)
                clear HT
                have hge := h4
                have hk1 : (x.k != 1) = false := by simp [h1]
                have hk2 : (x.a != (q : Int) + 1) = false := by simp [h2]
                clear h1 h2
                go_upto_region 17 with (refine wpList_load_mid rfl 42 _ rfl eb (eo + j * 5) rfl [.int .i64 x.k, .int .i64 x.a, .int .i64 x.b, .int .i64 x.c, .bool x.t] _ rX Tryz.underlying42 rfl (unhide HSE) ?_)
                generalize wr.alloc (.cells #[.int .i64 x.k, .int .i64 x.a, .int .i64 x.b, .int .i64 x.c, .bool x.t] 42) = wE at *
                generalize wr.heap.size = eb9 at *
                clear rX
                have hR2 := StD.Rw.nil' wE w0.heap.size hsz
                have bN : Below wE.heap.size wE (wE.alloc (.cells #[] 3)) := (Below.refl _ _).alloc (Nat.le_refl _) _
                have cE2 := cE.below bN (CsAt.lt cE (by simp))
                have bw2 := bw.trans (bN.mono hsz)
                have hsz2 := Nat.le_trans hsz bN.size
                have e2N := cE2.cell 2 _ rfl
                clear bN hR bw cE
                go_upto_region 20 with fail
                generalize wE.alloc (.cells #[] 3) = wN at *
                generalize wE.heap.size = eN at *
                clear e0 e1 e2 e3 hsz
                have e2 := e2N
                clear e2N
                have hR := hR2
                have bw := bw2
                have hsz := hsz2
                have cE := cE2
                clear hR2 bw2 hsz2 cE2
                have bA : Below wN.heap.size wN (wN.alloc (.cells #[.int .i64 x.b] 3)) := (Below.refl _ _).alloc (Nat.le_refl _) _
                have hnw : ∀ j u, [Value.int .i64 x.b][j]? = some u → (wN.alloc (.cells #[.int .i64 x.b] 3)).cell? ((⟨wN.heap.size, 0, none⟩ : Addr).add j) = some u := src_mid (rangeAt_new wN [.int .i64 x.b] 3)
                have hR3 := hR.below bA (Nat.le_refl _)
                have bw3 := bw.trans (bA.mono hsz)
                have hsz3 := Nat.le_trans hsz bA.size
                have hrow := hR3.row
                have hone : ∀ u ∈ [Value.int .i64 x.b], u.oneCell' = true := fun u hu => by simp at hu; subst hu; rfl
                clear hR bw hsz cE bA
                go_upto_region 15 with (refine wpList_append_own _ rfl _ _ 24 rfl w0.heap.size 3 iI (.int .i64 0) 1 8 Tryz.underlying24 (unhide HII) hzI hsI hbI rfl (by omega) _ 0 (isC ([] : List Int)) rfl hrow ⟨wN.heap.size, 0, none⟩ 1 1 [.int .i64 x.b] rfl rfl hnw hone (by have := unhide HCL; simp [maxLen]; try omega) (by have := unhide HCL; first | omega | (simp; done)) (by omega) ?_; intro v' w7 ho7 hg7 _)
                obtain ⟨hR7, b7⟩ := hR3.push (x := x.b) (by omega) ho7 hg7
                have bw7 := bw3.trans b7
                have hsz7 := Nat.le_trans hsz3 b7.size
                rw [List.nil_append, ← unhide HE] at hR7
                clear hR3 bw3 hsz3 ho7 hg7 b7 hrow hnw
                generalize wN.alloc (.cells #[.int .i64 x.b] 3) = wA at *
                go_wp2
                go_roundw
                case rel => exact ⟨j + 1, by omega, by first | rfl | go_num, by rw [unhide HC2]; exact hR7, hsz7, bw7⟩
                case measure => simp [intOf]; omega
              · have HE : Hid (C2 = C ++ [x.b]) := (unhide HT).trans (canS_lo h1 h2 h3 h4)
                clear HT
                have hge : x.c < 6 := by omega
                have hk1 : (x.k != 1) = false := by simp [h1]
                have hk2 : (x.a != (q : Int) + 1) = false := by simp [h2]
                clear h1 h2
                go_upto_region 17 with (refine wpList_load_mid rfl 42 _ rfl eb (eo + j * 5) rfl [.int .i64 x.k, .int .i64 x.a, .int .i64 x.b, .int .i64 x.c, .bool x.t] _ rX Tryz.underlying42 rfl (unhide HSE) ?_)
                generalize wr.alloc (.cells #[.int .i64 x.k, .int .i64 x.a, .int .i64 x.b, .int .i64 x.c, .bool x.t] 42) = wE at *
                generalize wr.heap.size = eb9 at *
                clear rX
                have bA : Below wE.heap.size wE (wE.alloc (.cells #[.int .i64 x.b] 3)) := (Below.refl _ _).alloc (Nat.le_refl _) _
                have hnw : ∀ j u, [Value.int .i64 x.b][j]? = some u → (wE.alloc (.cells #[.int .i64 x.b] 3)).cell? ((⟨wE.heap.size, 0, none⟩ : Addr).add j) = some u := src_mid (rangeAt_new wE [.int .i64 x.b] 3)
                have hR3 := hR.below bA (Nat.le_refl _)
                have bw3 := bw.trans (bA.mono hsz)
                have hsz3 := Nat.le_trans hsz bA.size
                have hrow := hR3.row
                have hone : ∀ u ∈ [Value.int .i64 x.b], u.oneCell' = true := fun u hu => by simp at hu; subst hu; rfl
                clear hR bw hsz cE bA
                go_upto_region 15 with (refine wpList_append_own _ rfl _ _ 24 rfl w0.heap.size 3 iI (.int .i64 0) 1 8 Tryz.underlying24 (unhide HII) hzI hsI hbI rfl (by omega) _ C.length (isC C) rfl hrow ⟨wE.heap.size, 0, none⟩ 1 1 [.int .i64 x.b] rfl rfl hnw hone (by have := unhide HCL; simp [maxLen]; try omega) (by have := unhide HCL; first | omega | (simp; done)) (by omega) ?_; intro v' w7 ho7 hg7 _)
                obtain ⟨hR7, b7⟩ := hR3.push (x := x.b) (by omega) ho7 hg7
                have bw7 := bw3.trans b7
                have hsz7 := Nat.le_trans hsz3 b7.size
                rw [← unhide HE] at hR7
                clear hR3 bw3 hsz3 ho7 hg7 b7 hrow hnw
                generalize wE.alloc (.cells #[.int .i64 x.b] 3) = wA at *
                go_wp2
                go_roundw
                case rel => exact ⟨j + 1, by omega, by first | rfl | go_num, by rw [unhide HC2]; exact hR7, hsz7, bw7⟩
                case measure => simp [intOf]; omega
          · have hk1 : (x.k != 1) = false := by simp [h1]
            have hk2 : (x.a != (q : Int) + 1) = true := by simpa using h2
            have HE : Hid (C2 = C) := (unhide HT).trans (canS_no (.inr (.inl h2)))
            clear HT h1 h2
            go_upto_region 17 with (refine wpList_load_mid rfl 42 _ rfl eb (eo + j * 5) rfl [.int .i64 x.k, .int .i64 x.a, .int .i64 x.b, .int .i64 x.c, .bool x.t] _ rX Tryz.underlying42 rfl (unhide HSE) ?_)
            generalize wr.alloc (.cells #[.int .i64 x.k, .int .i64 x.a, .int .i64 x.b, .int .i64 x.c, .bool x.t] 42) = wE at *
            generalize wr.heap.size = eb9 at *
            clear rX
            have HR := hide hR
            have HB := hide bw
            clear hR bw cE
            go_wp2
            go_roundw
            case rel => exact ⟨j + 1, by omega, by first | rfl | go_num, by rw [unhide HC2, unhide HE]; exact unhide HR, hsz, unhide HB⟩
            case measure => simp [intOf]; omega
        · have hk1 : (x.k != 1) = true := by simpa using h1
          have HE : Hid (C2 = C) := (unhide HT).trans (canS_no (.inl h1))
          clear HT
          go_upto_region 17 with (refine wpList_load_mid rfl 42 _ rfl eb (eo + j * 5) rfl [.int .i64 x.k, .int .i64 x.a, .int .i64 x.b, .int .i64 x.c, .bool x.t] _ rX Tryz.underlying42 rfl (unhide HSE) ?_)
          generalize wr.alloc (.cells #[.int .i64 x.k, .int .i64 x.a, .int .i64 x.b, .int .i64 x.c, .bool x.t] 42) = wE at *
          generalize wr.heap.size = eb9 at *
          clear rX
          have HR := hide hR
          have HB := hide bw
          clear hR bw cE
          go_wp2
          go_roundw
          case rel => exact ⟨j + 1, by omega, by first | rfl | go_num, by rw [unhide HC2, unhide HE]; exact unhide HR, hsz, unhide HB⟩
          case measure => simp [intOf]; omega


set_option maxRecDepth 100000 in
theorem lifted (os : Os) (started : os.Started) (H : Type) (enc : TypeId × Value → H) :
    ReturnsInHanded {} Tryz.checked os 8 .any (Rows.fnRunNeverSpec.pre6 enc Tryz.prog Tryz.f8 Rows.fnRunNeverRow.domain false) (Rows.fnRunNeverSpec.post enc Tryz.prog Tryz.f8 false true false false) := by
  refine returnsInHanded_of_change (C := Tryz.checked) own started (by kernel_rfl) Tryz.func8
    (ChangeSpec.witness6 (enc := enc) (C := Tryz.checked) false ⟨#[], #[.slice none 0 0], []⟩ 8 (by kernel_rfl) (by kernel_rfl) (by kernel_rfl) (by kernel_rfl)) ?_
  intro W base args ds gs before hval0 hW hcnd _
  have hval : ∀ (j : Nat) t v, Tryz.f8.params[j]? = some t → args[j]? = some v → Value.okWide Tryz.prog W .any base t v := hval0
  have hW' := hW
  obtain ⟨p, q, hA0, hV, rfl, hfz, hnd⟩ := hW
  have hA : DataW.TrodAll enc Tryz.prog W 0 (fun _ => true) true Tryz.f8.params.toList args.toList ds p := hA0
  rw [Tryz.params8] at hA hval
  obtain ⟨v0, vs0, d0, ds0, p0, q0, hargs, rfl, rfl, h0, r0⟩ := trodAll_cons hA
  obtain ⟨rfl, rfl, rfl⟩ := trodAll_nil r0
  obtain rfl : args = #[v0] := by cases args; simp_all
  obtain ⟨rfl, rfl⟩ := trodVars_none hV
  have kk0 := h0
  have lt0 : ∀ x ∈ p0, x.block < W.heap.size := by obtain ⟨m, hm⟩ := kk0; exact DataW.trod_lt m _ _ _ hm
  obtain ⟨a0, len0, cap0, rfl⟩ := okWide_slice Tryz.underlying22 (hval 0 22 v0 rfl rfl)
  obtain ⟨z0, w0⟩ : ∃ zs, IsRow .u8 W a0 len0 cap0 zs := by
    obtain ⟨fuel, hf⟩ := h0
    rcases open_ints Tryz.underlying22 Tryz.underlying5 (by kernel_rfl) hf with ⟨hcs, _⟩ | ⟨x, l, c, zs, hcs, _, hl, hm, hz, _, hcell, hwz⟩
    · simp [Value.cells] at hcs
      obtain ⟨rfl, rfl, rfl⟩ := hcs
      exact ⟨[], .inl ⟨rfl, rfl, rfl, rfl⟩⟩
    · simp [Value.cells] at hcs
      obtain ⟨rfl, rfl, rfl⟩ := hcs
      exact ⟨zs, .inr ⟨_, rfl, hl, hm, by simpa using hz, hcell, hwz⟩⟩
  clear hA0
  refine (walk a0 len0 cap0 z0 W w0).mono fun e W' ⟨he, bel⟩ => ?_
  subst he
  exact ⟨_, rfl, _, _, _, [], _, [], hW', trodAll_mk1 (shut_bool Tryz.underlying4 _), (trodAll_cons_mk (Below.trod laidOut (by kernel_rfl) (of_decide_eq_true (by kernel_rfl)) kk0 bel lt0) trodAll_mk0), rfl, bel.frame _, fun h => by cases h⟩

set_option maxRecDepth 100000 in
theorem facts : joinedFacts Tryz.prog 8 Tryz.f8 Rows.fnRunNeverSpec Rows.fnRunNeverRow = true := by
  unfold joinedFacts
  refine Facts.and_t ?_ (by as_aux_lemma => kernel_rfl)
  refine Facts.and_t ?_ (by as_aux_lemma => kernel_rfl)
  refine Facts.and_t ?_ (by as_aux_lemma => kernel_rfl)
  refine Facts.and_t ?_ (by as_aux_lemma => kernel_rfl)
  refine Facts.and_t ?_ (by show (Tryz.prog.make == some Make.cut) = true; rw [Facts.made]; rfl)
  refine Facts.and_t ?_ (by show (false == Tryz.prog.liftsFinal) = true; rw [Facts.lifts]; rfl)
  refine Facts.and_t ?_ (Facts.enters)
  refine Facts.and_t ?_ (Facts.heard)
  refine Facts.and_t ?_ (rfl)
  refine Facts.and_t ?_ (by show (true == Tryz.prog.plainKeys) = true; rw [Facts.keys]; rfl)
  refine Facts.and_t ?_ (by as_aux_lemma => kernel_rfl)
  refine Facts.and_t ?_ (by as_aux_lemma => kernel_rfl)
  refine Facts.and_t ?_ (by as_aux_lemma => kernel_rfl)
  refine Facts.and_t ?_ (by as_aux_lemma => kernel_rfl)
  refine Facts.and_t ?_ (by as_aux_lemma => kernel_rfl)
  refine Facts.and_t ?_ (by as_aux_lemma => kernel_rfl)
  refine Facts.and_t ?_ (by as_aux_lemma => kernel_rfl)
  refine Facts.and_t ?_ (by as_aux_lemma => kernel_rfl)
  refine Facts.and_t ?_ (by as_aux_lemma => kernel_rfl)
  refine Facts.and_t ?_ (by as_aux_lemma => kernel_rfl)
  refine Facts.and_t ?_ (by as_aux_lemma => kernel_rfl)
  refine Facts.and_t ?_ (by as_aux_lemma => kernel_rfl)
  refine Facts.and_t ?_ (by as_aux_lemma => kernel_rfl)
  refine Facts.and_t ?_ (by as_aux_lemma => kernel_rfl)
  refine Facts.and_t ?_ (by as_aux_lemma => kernel_rfl)
  refine Facts.and_t ?_ (by as_aux_lemma => kernel_rfl)
  refine Facts.and_t ?_ (by as_aux_lemma => kernel_rfl)
  refine Facts.and_t ?_ (by as_aux_lemma => kernel_rfl)
  refine Facts.and_t ?_ (by as_aux_lemma => kernel_rfl)
  refine Facts.and_t ?_ (Facts.rowed)
  refine Facts.and_t ?_ (Facts.laidOut)
  kernel_rfl

theorem over : Rows.fnRunNeverRow.holds Tryz.pinned (OpenSpec.ofChange Rows.fnRunNeverSpec) :=
  OpenClaim.holds_of_wide 8 Tryz.f8 rfl rfl rfl rfl rfl rfl rfl ⟨rfl, rfl, rfl, rfl, rfl⟩ rfl rfl rfl rfl rfl (by kernel_rfl) Tryz.func8 facts
    (of_decide_eq_true (by kernel_rfl)) (by unfold Func.isWrapper; first | (rw [if_pos (by decide +kernel)]; kernel_rfl) | (rw [if_neg (by decide +kernel)]; exact ⟨rfl, rfl⟩))
    (fun os started H enc _ => (lifted os started H enc))

end Go.Proofs.YtbiokmojjneleaaGreat.RunNever
namespace Go.Proofs.YtbiokmojjneleaaGreat
theorem fnRunNever_holds : Rows.FnRunNeverSaid := RunNever.over
end Go.Proofs.YtbiokmojjneleaaGreat
