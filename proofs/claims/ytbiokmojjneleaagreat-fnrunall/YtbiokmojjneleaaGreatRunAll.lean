/-
  Told all, the slow disk has all: so it has behind a drawn play. The given statement, with no condition.
-/
import Derived.Test.YtbiokmojjneleaaGreatRcQ
import Derived.Test.YtbiokmojjneleaaGreatRbS
import Derived.Test.YtbiokmojjneleaaGreatHaT
import Derived.Test.YtbiokmojjneleaaGreatFacts
import Derived.Lib.SmallJoins
namespace Go.Proofs.YtbiokmojjneleaaGreat.RunAll
open Go.ChangeShapes Go.WideShapes Go.ChangeAt Go.RowKit Go.Shelf Go.Joins OkA Big Fl ImplB ImplF ImplS ImplT ImplU SpecA SpecB SpecC SpecD SpecW SpecX SpecF SpecG SpecH FindP FindN FindO FindD ImplW ImplX Pick Draw ClA DrB PlB AlX DpX Pl FindL StA StB StC StD StE StF StG SpS SpT Sv LqI LqF Px NwA Sn9 ImplL Kp DoA RmA WrA FlA PlA SpU ToA QuE LawT MkN Ct Cu Ps Py Pz PaA EvL EvS PrA Nf Nr Rw PyE 
open FlB (FsN)
open StN (SN)
open Facts (own laidOut)
set_option linter.unusedVariables false
set_option linter.unusedSimpArgs false
attribute [local go_sem ↓] Go.wp_at_zero Go.wp_at_succ

set_option maxRecDepth 100000 in
set_option maxHeartbeats 8000000 in
theorem walk (a0 : Option Addr) (len0 cap0 : Nat) (z0 : List Int) (w : World) (h0 : IsRow .u8 w a0 len0 cap0 z0) :
    Calls Tryz.prog 10 #[.slice a0 len0 cap0] w fun e w' => e = .returned (.bool true) ∧ Below w.heap.size w w' := by
  have HD := hide (drawRun_any w a0 len0 cap0 z0 h0)
  clear h0
  go_enter Tryz.func10, Tryz.ntmps10
  by_cases hbig0 : 1048576 < (len0 : Int)
  · go_wp2
    go_ret
    exact ⟨rfl, Below.refl _ _⟩
  go_wp2_with fail
  refine (unhide HD).mono ?_
  rintro e w1 ⟨ea, ec, L, rfl, hE, hl, hin, hac, B⟩
  clear HD
  have HIN := hide hin
  have HEV := hide (fun x hx => (hin x hx).ok)
  have HLC := hide hl
  have HAC := hide hac
  clear hin hl hac
  by_cases h60 : 60 < L.length
  · have hl61 : L.length ≤ 61 := by have := unhide HLC; omega
    have HI := hide (fun (w' : World) (h : EsAt w' ea L) => iRunN (cap := ec) L w' h (unhide HEV) (by omega) h60)
    have HS := hide (fun (w' : World) (h : EsAt w' ea L) => sRunN (cap := ec) L w' h (by omega) h60)
    clear HIN HEV HLC HAC h60 hl61
    go_wp2_with fail
    refine (unhide HI _ hE).mono ?_
    rintro e u1 ⟨rfl, b⟩
    replace hE := hE.below b
    replace B := B.trans (b.mono B.size)
    clear b
    have b : Below u1.heap.size u1 (u1.alloc (.cells #[.slice none 0 0, .slice none 0 0] 26)) := (Below.refl _ _).alloc (Nat.le_refl _) _
    have bs := Bx.new u1 (.slice none 0 0) (.slice none 0 0) 26
    replace hE := hE.below b
    replace B := B.trans (b.mono B.size)
    clear b
    have bs0 := bs.c0
    have bs1 := bs.c1
    go_wp2_with fail
    generalize u1.alloc (.cells #[.slice none 0 0, .slice none 0 0] 26) = v2 at *
    generalize u1.heap.size = bsb at *
    refine (unhide HS _ hE).mono ?_
    rintro e u3 ⟨rfl, b⟩
    replace hE := hE.below b
    replace bs := bs.below b
    clear bs0 bs1
    have bs0 := bs.c0
    have bs1 := bs.c1
    replace B := B.trans (b.mono B.size)
    clear b
    have b : Below u3.heap.size u3 (u3.alloc (.cells #[.slice none 0 0, .slice none 0 0] 26)) := (Below.refl _ _).alloc (Nat.le_refl _) _
    have bw := Bx.new u3 (.slice none 0 0) (.slice none 0 0) 26
    replace hE := hE.below b
    replace bs := bs.below b
    clear bs0 bs1
    have bs0 := bs.c0
    have bs1 := bs.c1
    replace B := B.trans (b.mono B.size)
    clear b
    have bw0 := bw.c0
    have bw1 := bw.c1
    go_wp2_with fail
    generalize u3.alloc (.cells #[.slice none 0 0, .slice none 0 0] 26) = v4 at *
    generalize u3.heap.size = bwb at *
    refine (lqNil _).mono ?_
    rintro e u5 ⟨rfl, b⟩
    replace hE := hE.below b
    replace bs := bs.below b
    clear bs0 bs1
    have bs0 := bs.c0
    have bs1 := bs.c1
    replace bw := bw.below b
    clear bw0 bw1
    have bw0 := bw.c0
    have bw1 := bw.c1
    replace B := B.trans (b.mono B.size)
    clear b
    go_wp2_with fail
    refine (lqNil _).mono ?_
    rintro e u6 ⟨rfl, b⟩
    replace hE := hE.below b
    replace bs := bs.below b
    clear bs0 bs1
    have bs0 := bs.c0
    have bs1 := bs.c1
    replace bw := bw.below b
    clear bw0 bw1
    have bw0 := bw.c0
    have bw1 := bw.c1
    replace B := B.trans (b.mono B.size)
    clear b
    go_wp2
    go_ret
    exact ⟨rfl, B⟩
  have hl60 : L.length ≤ 60 := by omega
  clear h60
  have HI := hide (fun (w' : World) (h : EsAt w' ea L) => iRunI (cap := ec) L w' h (unhide HEV) hl60)
  have HS := hide (fun (w' : World) (h : EsAt w' ea L) => sRun (cap := ec) L w' h hl60)
  have HST := hide (runP_st L)
  have HALL := hide (run_all L hl60)
  generalize runP L = P at *
  obtain ⟨BB, KK⟩ := P
  go_wp2_with fail
  refine (unhide HI _ hE).mono ?_
  rintro e u1 ⟨fa, c1, da, c2, rfl, hI, b⟩
  replace hE := hE.below b
  replace B := B.trans (b.mono B.size)
  clear b
  have hs : SO _ fa da BB KK := so_of hI (unhide HST)
  obtain ⟨loI, hiI, hJ, hlI⟩ : ∃ lo hi, InT u1 lo hi (.slice fa 4 c1) (.slice da 6 c2) true BB KK ∧ hi ≤ u1.heap.size := ⟨_, _, hI, Nat.le_refl _⟩
  clear hI
  have b : Below u1.heap.size u1 (u1.alloc (.cells #[.slice fa 4 c1, .slice da 6 c2] 26)) := (Below.refl _ _).alloc (Nat.le_refl _) _
  have bs := Bx.new u1 (.slice fa 4 c1) (.slice da 6 c2) 26
  replace hE := hE.below b
  replace hs := hs.below b
  replace hJ := hJ.below b
  replace hlI := Nat.le_trans hlI b.size
  replace B := B.trans (b.mono B.size)
  clear b
  have bs0 := bs.c0
  have bs1 := bs.c1
  go_wp2_with fail
  generalize u1.alloc (.cells #[.slice fa 4 c1, .slice da 6 c2] 26) = v2 at *
  generalize u1.heap.size = bsb at *
  refine (unhide HS _ hE).mono ?_
  rintro e u3 ⟨fw, c3, dw, c4, rfl, hw, b⟩
  replace hE := hE.below b
  replace hs := hs.below b
  replace hJ := hJ.below b
  replace bs := bs.below b
  clear bs0 bs1
  have bs0 := bs.c0
  have bs1 := bs.c1
  replace hlI := Nat.le_trans hlI b.size
  replace B := B.trans (b.mono B.size)
  clear b
  have b : Below u3.heap.size u3 (u3.alloc (.cells #[.slice fw 4 c3, .slice dw 6 c4] 26)) := (Below.refl _ _).alloc (Nat.le_refl _) _
  have bw := Bx.new u3 (.slice fw 4 c3) (.slice dw 6 c4) 26
  replace hE := hE.below b
  replace hs := hs.below b
  replace hJ := hJ.below b
  replace hw := hw.below b
  replace bs := bs.below b
  clear bs0 bs1
  have bs0 := bs.c0
  have bs1 := bs.c1
  replace hlI := Nat.le_trans hlI b.size
  replace B := B.trans (b.mono B.size)
  clear b
  have bw0 := bw.c0
  have bw1 := bw.c1
  go_wp2_with fail
  generalize u3.alloc (.cells #[.slice fw 4 c3, .slice dw 6 c4] 26) = v4 at *
  generalize u3.heap.size = bwb at *
  refine (lqEq _ hs hw).mono ?_
  rintro e u5 ⟨rfl, b⟩
  replace hE := hE.below b
  replace hs := hs.below b
  replace hJ := hJ.below b
  replace hw := hw.below b
  replace bs := bs.below b
  clear bs0 bs1
  have bs0 := bs.c0
  have bs1 := bs.c1
  replace bw := bw.below b
  clear bw0 bw1
  have bw0 := bw.c0
  have bw1 := bw.c1
  replace hlI := Nat.le_trans hlI b.size
  replace B := B.trans (b.mono B.size)
  clear b
  clear bw bw0 bw1
  clear hw
  clear HI HS
  clear hE
  clear hJ
  clear hlI
  clear HIN HLC HAC HEV HST
  have HSS := hide (show (Tryz.prog.info? 26).map (·.size) = some 2 by kernel_rfl)
  have HSE := hide (show (Tryz.prog.info? 42).map (·.size) = some 5 by kernel_rfl)
  have HBE := hide (show Tryz.prog.built 42 [(0, .int .i64 4)] = some #[.int .i64 4, .int .i64 0, .int .i64 0, .int .i64 0, .bool false] by kernel_rfl)
  obtain ⟨hq1, hq2, hq3, hq4⟩ := unhide HALL
  clear HALL
  have HDO := hide (fun (w' : World) (h : SO w' fa da BB KK) => iDo (c1 := c1) (c2 := c2) eAll (by unfold EvOk; decide) w' h)
  have HCL := hide hq1
  obtain ⟨Q, hQ⟩ : ∃ Q, doP BB KK eAll = Q := ⟨_, rfl⟩
  rw [hQ] at HDO hq1 hq2 hq3 hq4 HCL
  clear hQ
  obtain ⟨BX, KX⟩ := Q
  have HAX := hide (fun (ga ha : Option Addr) (m1 m2 : Nat) (w' : World) (h : SO w' ga ha BX KX) => (by have := iAllO (c1 := m1) (c2 := m2) w' h; rw [show alS BX KX = KX from hq2] at this; exact this : Calls Tryz.prog 30 #[.agg #[.slice ga 4 m1, .slice ha 6 m2]] w' fun e w'' => ∃ p q, e = .returned (.slice p 6 q) ∧ DkAt w'' p KX ∧ Below w'.heap.size w' w''))
  have HAS := hide (fun (w' : World) (h : SO w' fa da BB KK) => (by have := iAllO (c1 := c1) (c2 := c2) w' h; rw [show alS BB KK = KX from hq3] at this; exact this : Calls Tryz.prog 30 #[.agg #[.slice fa 4 c1, .slice da 6 c2]] w' fun e w'' => ∃ p q, e = .returned (.slice p 6 q) ∧ DkAt w'' p KX ∧ Below w'.heap.size w' w''))
  have HSM := hide (fun (ga ha : Option Addr) (m1 m2 : Nat) (w' : World) (h : SO w' ga ha BX KX) => iSame (c1 := m1) (c2 := m2) eAll (by unfold EvOk; decide) hq4 w' h)
  clear hq1 hq2 hq3 hq4
  go_wp2_with fail
  refine (unhide HDO _ hs).mono ?_
  rintro e u6 ⟨fx, m1, dx, m2, rfl, hx, b⟩
  replace hs := hs.below b
  replace bs := bs.below b
  clear bs0 bs1
  have bs0 := bs.c0
  have bs1 := bs.c1
  replace B := B.trans (b.mono B.size)
  clear b
  have HK6 := hide hx.l6
  clear HDO
  have b : Below u6.heap.size u6 (u6.alloc (.cells #[.slice fx 4 m1, .slice dx 6 m2] 26)) := (Below.refl _ _).alloc (Nat.le_refl _) _
  have bx := Bx.new u6 (.slice fx 4 m1) (.slice dx 6 m2) 26
  replace hs := hs.below b
  replace hx := hx.below b
  replace bs := bs.below b
  clear bs0 bs1
  have bs0 := bs.c0
  have bs1 := bs.c1
  replace B := B.trans (b.mono B.size)
  clear b
  have bx0 := bx.c0
  have bx1 := bx.c1
  go_upto_region 9 with fail
  generalize u6.alloc (.cells #[.slice fx 4 m1, .slice dx 6 m2] 26) = v7 at *
  generalize u6.heap.size = bxb at *
  refine wp_region_noPanic ?_
  refine wp_region_held_drew (S := fun w' => Kept [] v7 w') (by kernel_rfl) (Kept.refl _ _).drew (fun hHeld => ?_)
  generalize v7.drew = y0 at *
  have z0 := hHeld.size
  refine takeL 0 (.agg #[.slice fx 4 m1, .slice dx 6 m2]) rfl (by kernel_rfl) (by kernel_rfl) (by kernel_rfl) (fun _ _ _ h => h) (yieldsIf_load_mid rfl 26 _ rfl bxb 0 rfl [.slice fx 4 m1, .slice dx 6 m2] _ (fun _ h => rng2 (bx.below (Kept.all h (by simp)))) Tryz.underlying26 rfl (unhide HSS)) hHeld ?_
  try simp only [Act.put, List.setIfInBounds_toArray, List.set_cons_zero, List.set_cons_succ]
  refine oneL 1 rfl (by kernel_rfl) rfl (fun K hK => ?_)
  go_simp
  refine (iDyO (c1 := m1) (c2 := m2) _ (hx.below (Kept.all hHeld (by simp))) (unhide HCL)).mono ?_
  rintro e y1 ⟨p0, q0, rfl, b⟩
  go_wp2_with fail
  refine hK.out _ _ (hHeld.trans (Kept.of b)) (fun hHeld => ?_)
  clear hK K
  try simp only [Act.put, List.setIfInBounds_toArray, List.set_cons_zero, List.set_cons_succ]
  have z1 := b.size
  clear b
  refine takeL 2 (.int .i64 0) rfl (by kernel_rfl) (by kernel_rfl) (by kernel_rfl) (fun _ _ _ h => h) (Or.inl ⟨rfl, fun w9 hSw => by go_simp⟩) hHeld ?_
  try simp only [Act.put, List.setIfInBounds_toArray, List.set_cons_zero, List.set_cons_succ]
  refine takeL 3 (.bool true) rfl (by kernel_rfl) (by kernel_rfl) (by kernel_rfl) (fun _ _ _ h => h) (Or.inl ⟨rfl, fun w9 hSw => by go_simp⟩) hHeld ?_
  try simp only [Act.put, List.setIfInBounds_toArray, List.set_cons_zero, List.set_cons_succ]
  refine takeL 4 (.bool true) rfl (by kernel_rfl) (by kernel_rfl) (by kernel_rfl) (fun _ _ _ h => h) (Or.inl ⟨rfl, fun _ _ => rfl⟩) hHeld ?_
  try simp only [Act.put, List.setIfInBounds_toArray, List.set_cons_zero, List.set_cons_succ]
  refine takeL 5 (.pointer (some ⟨bxb, 1, none⟩)) rfl (by kernel_rfl) (by kernel_rfl) (by kernel_rfl) (fun _ _ _ h => h) (Or.inl ⟨rfl, fun w9 hSw => by go_simp⟩) hHeld ?_
  try simp only [Act.put, List.setIfInBounds_toArray, List.set_cons_zero, List.set_cons_succ]
  refine takeL 6 (.slice dx 6 m2) rfl (by kernel_rfl) (by kernel_rfl) (by kernel_rfl) (fun _ _ _ h => h) (Or.inl ⟨rfl, fun w9 hSw => by have hc := (bx.below (Kept.all hSw (by simp))).c1; go_simp⟩) hHeld ?_
  try simp only [Act.put, List.setIfInBounds_toArray, List.set_cons_zero, List.set_cons_succ]
  refine takeL 7 (.agg #[.slice fx 4 m1, .slice dx 6 m2]) rfl (by kernel_rfl) (by kernel_rfl) (by kernel_rfl) (fun _ _ _ h => h) (yieldsIf_load_mid rfl 26 _ rfl bxb 0 rfl [.slice fx 4 m1, .slice dx 6 m2] _ (fun _ h => rng2 (bx.below (Kept.all h (by simp)))) Tryz.underlying26 rfl (unhide HSS)) hHeld ?_
  try simp only [Act.put, List.setIfInBounds_toArray, List.set_cons_zero, List.set_cons_succ]
  refine oneL 8 rfl (by kernel_rfl) rfl (fun K hK => ?_)
  go_simp
  refine (unhide HAX _ _ m1 m2 _ (hx.below (Kept.all hHeld (by simp)))).mono ?_
  rintro e y2 ⟨p1, q1, rfl, hd1, b⟩
  go_wp2_with fail
  refine hK.out _ _ (hHeld.trans (Kept.of b)) (fun hHeld => ?_)
  clear hK K
  try simp only [Act.put, List.setIfInBounds_toArray, List.set_cons_zero, List.set_cons_succ]
  have z2 := b.size
  clear b
  refine oneL 9 rfl (by kernel_rfl) rfl (fun K hK => ?_)
  go_simp
  refine (lqIn _ _ _ _ KX (unhide HK6) _ (hx.below (Kept.all hHeld (by simp))).sat.ds hd1).mono ?_
  rintro e y3 ⟨rfl, b⟩
  go_wp2_with fail
  replace hd1 := hd1.below b
  refine hK.out _ _ (hHeld.trans (Kept.of b)) (fun hHeld => ?_)
  clear hK K
  try simp only [Act.put, List.setIfInBounds_toArray, List.set_cons_zero, List.set_cons_succ]
  have z3 := b.size
  clear b
  refine takeL 10 (.bool true) rfl (by kernel_rfl) (by kernel_rfl) (by kernel_rfl) (fun _ _ _ h => h) (Or.inl ⟨rfl, fun w9 hSw => by go_simp⟩) hHeld ?_
  try simp only [Act.put, List.setIfInBounds_toArray, List.set_cons_zero, List.set_cons_succ]
  refine takeL 11 (.bool true) rfl (by kernel_rfl) (by kernel_rfl) (by kernel_rfl) (fun _ _ _ h => h) (Or.inl ⟨rfl, fun _ _ => rfl⟩) hHeld ?_
  try simp only [Act.put, List.setIfInBounds_toArray, List.set_cons_zero, List.set_cons_succ]
  refine takeL 12 (.agg #[.slice fx 4 m1, .slice dx 6 m2]) rfl (by kernel_rfl) (by kernel_rfl) (by kernel_rfl) (fun _ _ _ h => h) (yieldsIf_load_mid rfl 26 _ rfl bxb 0 rfl [.slice fx 4 m1, .slice dx 6 m2] _ (fun _ h => rng2 (bx.below (Kept.all h (by simp)))) Tryz.underlying26 rfl (unhide HSS)) hHeld ?_
  try simp only [Act.put, List.setIfInBounds_toArray, List.set_cons_zero, List.set_cons_succ]
  refine takeL 14 (.agg #[.slice fa 4 c1, .slice da 6 c2]) rfl (by kernel_rfl) (by kernel_rfl) (by kernel_rfl) (fun _ _ _ h => h) (yieldsIf_load_mid rfl 26 _ rfl bsb 0 rfl [.slice fa 4 c1, .slice da 6 c2] _ (fun _ h => rng2 (bs.below (Kept.all h (by simp)))) Tryz.underlying26 rfl (unhide HSS)) hHeld ?_
  try simp only [Act.put, List.setIfInBounds_toArray, List.set_cons_zero, List.set_cons_succ]
  refine oneL 13 rfl (by kernel_rfl) rfl (fun K hK => ?_)
  go_simp
  refine (unhide HAX _ _ m1 m2 _ (hx.below (Kept.all hHeld (by simp)))).mono ?_
  rintro e y4 ⟨p2, q2, rfl, hd2, b⟩
  go_wp2_with fail
  replace hd1 := hd1.below b
  refine hK.out _ _ (hHeld.trans (Kept.of b)) (fun hHeld => ?_)
  clear hK K
  try simp only [Act.put, List.setIfInBounds_toArray, List.set_cons_zero, List.set_cons_succ]
  have z4 := b.size
  clear b
  refine oneL 15 rfl (by kernel_rfl) rfl (fun K hK => ?_)
  go_simp
  refine (unhide HAS _ (hs.below (Kept.all hHeld (by simp)))).mono ?_
  rintro e y5 ⟨p3, q3, rfl, hd3, b⟩
  go_wp2_with fail
  replace hd1 := hd1.below b
  replace hd2 := hd2.below b
  refine hK.out _ _ (hHeld.trans (Kept.of b)) (fun hHeld => ?_)
  clear hK K
  try simp only [Act.put, List.setIfInBounds_toArray, List.set_cons_zero, List.set_cons_succ]
  have z5 := b.size
  clear b
  refine oneL 16 rfl (by kernel_rfl) rfl (fun K hK => ?_)
  go_simp
  refine (lqIn _ _ _ _ KX (unhide HK6) _ hd2 hd3).mono ?_
  rintro e y6 ⟨rfl, b⟩
  go_wp2_with fail
  replace hd1 := hd1.below b
  replace hd2 := hd2.below b
  replace hd3 := hd3.below b
  refine hK.out _ _ (hHeld.trans (Kept.of b)) (fun hHeld => ?_)
  clear hK K
  try simp only [Act.put, List.setIfInBounds_toArray, List.set_cons_zero, List.set_cons_succ]
  have z6 := b.size
  clear b
  refine takeL 17 (.bool true) rfl (by kernel_rfl) (by kernel_rfl) (by kernel_rfl) (fun _ _ _ h => h) (Or.inl ⟨rfl, fun w9 hSw => by go_simp⟩) hHeld ?_
  try simp only [Act.put, List.setIfInBounds_toArray, List.set_cons_zero, List.set_cons_succ]
  refine takeL 18 (.bool true) rfl (by kernel_rfl) (by kernel_rfl) (by kernel_rfl) (fun _ _ _ h => h) (Or.inl ⟨rfl, fun _ _ => rfl⟩) hHeld ?_
  try simp only [Act.put, List.setIfInBounds_toArray, List.set_cons_zero, List.set_cons_succ]
  refine takeL 19 (.agg #[.slice fx 4 m1, .slice dx 6 m2]) rfl (by kernel_rfl) (by kernel_rfl) (by kernel_rfl) (fun _ _ _ h => h) (yieldsIf_load_mid rfl 26 _ rfl bxb 0 rfl [.slice fx 4 m1, .slice dx 6 m2] _ (fun _ h => rng2 (bx.below (Kept.all h (by simp)))) Tryz.underlying26 rfl (unhide HSS)) hHeld ?_
  try simp only [Act.put, List.setIfInBounds_toArray, List.set_cons_zero, List.set_cons_succ]
  refine takeL 20 (.agg #[.int .i64 4, .int .i64 0, .int .i64 0, .int .i64 0, .bool false]) rfl (by kernel_rfl) (by kernel_rfl) (by kernel_rfl) (fun _ _ _ h => h) (Or.inl ⟨rfl, fun w9 hSw => by have hb := unhide HBE; go_simp⟩) hHeld ?_
  try simp only [Act.put, List.setIfInBounds_toArray, List.set_cons_zero, List.set_cons_succ]
  refine takeL 22 (.agg #[.slice fx 4 m1, .slice dx 6 m2]) rfl (by kernel_rfl) (by kernel_rfl) (by kernel_rfl) (fun _ _ _ h => h) (yieldsIf_load_mid rfl 26 _ rfl bxb 0 rfl [.slice fx 4 m1, .slice dx 6 m2] _ (fun _ h => rng2 (bx.below (Kept.all h (by simp)))) Tryz.underlying26 rfl (unhide HSS)) hHeld ?_
  try simp only [Act.put, List.setIfInBounds_toArray, List.set_cons_zero, List.set_cons_succ]
  refine oneL 21 rfl (by kernel_rfl) rfl (fun K hK => ?_)
  go_simp
  refine (unhide HSM _ _ m1 m2 _ (hx.below (Kept.all hHeld (by simp)))).mono ?_
  rintro e y7 ⟨fz, m3, dz, m4, rfl, hz, b⟩
  go_wp2_with fail
  replace hd1 := hd1.below b
  replace hd2 := hd2.below b
  replace hd3 := hd3.below b
  refine hK.out _ _ (hHeld.trans (Kept.of b)) (fun hHeld => ?_)
  clear hK K
  try simp only [Act.put, List.setIfInBounds_toArray, List.set_cons_zero, List.set_cons_succ]
  have z7 := b.size
  clear b
  refine oneL 23 rfl (by kernel_rfl) rfl (fun K hK => ?_)
  go_simp
  refine (lqEq _ hz (hx.below (Kept.all hHeld (by simp)))).mono ?_
  rintro e y8 ⟨rfl, b⟩
  go_wp2_with fail
  replace hd1 := hd1.below b
  replace hd2 := hd2.below b
  replace hd3 := hd3.below b
  replace hz := hz.below b
  refine hK.out _ _ (hHeld.trans (Kept.of b)) (fun hHeld => ?_)
  clear hK K
  try simp only [Act.put, List.setIfInBounds_toArray, List.set_cons_zero, List.set_cons_succ]
  have z8 := b.size
  clear b
  refine takeL 24 (.bool true) rfl (by kernel_rfl) (by kernel_rfl) (by kernel_rfl) (fun _ _ _ h => h) (Or.inl ⟨rfl, fun w9 hSw => by go_simp⟩) hHeld ?_
  try simp only [Act.put, List.setIfInBounds_toArray, List.set_cons_zero, List.set_cons_succ]
  refine takeL 25 (.bool true) rfl (by kernel_rfl) (by kernel_rfl) (by kernel_rfl) (fun _ _ _ h => h) (Or.inl ⟨rfl, fun _ _ => rfl⟩) hHeld ?_
  try simp only [Act.put, List.setIfInBounds_toArray, List.set_cons_zero, List.set_cons_succ]
  refine wpAnyH_done (by kernel_rfl) ?_ _
  refine NoPanic.normal ?_
  have B2 := B.trans ((Kept.all hHeld (by simp)).mono B.size)
  clear hHeld
  go_wp2
  go_ret
  exact ⟨rfl, B2⟩


set_option maxRecDepth 100000 in
theorem lifted (os : Os) (started : os.Started) (H : Type) (enc : TypeId × Value → H) :
    ReturnsInHanded {} Tryz.checked os 10 .any (Rows.fnRunAllSpec.pre6 enc Tryz.prog Tryz.f10 Rows.fnRunAllRow.domain false) (Rows.fnRunAllSpec.post enc Tryz.prog Tryz.f10 false true false false) := by
  refine returnsInHanded_of_change (C := Tryz.checked) own started (by kernel_rfl) Tryz.func10
    (ChangeSpec.witness6 (enc := enc) (C := Tryz.checked) false ⟨#[], #[.slice none 0 0], []⟩ 8 (by kernel_rfl) (by kernel_rfl) (by kernel_rfl) (by kernel_rfl)) ?_
  intro W base args ds gs before hval0 hW hcnd _
  have hval : ∀ (j : Nat) t v, Tryz.f10.params[j]? = some t → args[j]? = some v → Value.okWide Tryz.prog W .any base t v := hval0
  have hW' := hW
  obtain ⟨p, q, hA0, hV, rfl, hfz, hnd⟩ := hW
  have hA : DataW.TrodAll enc Tryz.prog W 0 (fun _ => true) true Tryz.f10.params.toList args.toList ds p := hA0
  rw [Tryz.params10] at hA hval
  obtain ⟨v0, vs0, d0, ds0, p0, q0, hargs, rfl, rfl, h0, r0⟩ := trodAll_cons hA
  obtain ⟨rfl, rfl, rfl⟩ := trodAll_nil r0
  obtain rfl : args = #[v0] := by cases args; simp_all
  obtain ⟨rfl, rfl⟩ := trodVars_none hV
  have kk0 := h0
  have lt0 : ∀ x ∈ p0, x.block < W.heap.size := by obtain ⟨m, hm⟩ := kk0; exact DataW.trod_lt m _ _ _ hm
  obtain ⟨a0, len0, cap0, rfl⟩ := okWide_slice Tryz.underlying22 (hval 0 22 v0 rfl rfl)
  obtain ⟨z0, w0⟩ : ∃ zs, IsRow .u8 W a0 len0 cap0 zs := by
    obtain ⟨fuel, hf⟩ := h0
    rcases open_ints Tryz.underlying22 Tryz.underlying5 (by kernel_rfl) hf with ⟨hcs, _⟩ | ⟨x, l, c, zs, hcs, _, hl, hm, hz, _, hcell, hwz⟩
    · simp [Value.cells] at hcs
      obtain ⟨rfl, rfl, rfl⟩ := hcs
      exact ⟨[], .inl ⟨rfl, rfl, rfl, rfl⟩⟩
    · simp [Value.cells] at hcs
      obtain ⟨rfl, rfl, rfl⟩ := hcs
      exact ⟨zs, .inr ⟨_, rfl, hl, hm, by simpa using hz, hcell, hwz⟩⟩
  clear hA0
  refine (walk a0 len0 cap0 z0 W w0).mono fun e W' ⟨he, bel⟩ => ?_
  subst he
  exact ⟨_, rfl, _, _, _, [], _, [], hW', trodAll_mk1 (shut_bool Tryz.underlying4 _), (trodAll_cons_mk (Below.trod laidOut (by kernel_rfl) (of_decide_eq_true (by kernel_rfl)) kk0 bel lt0) trodAll_mk0), rfl, bel.frame _, fun h => by cases h⟩

set_option maxRecDepth 100000 in
theorem facts : joinedFacts Tryz.prog 10 Tryz.f10 Rows.fnRunAllSpec Rows.fnRunAllRow = true := by
  unfold joinedFacts
  refine Facts.and_t ?_ (by as_aux_lemma => kernel_rfl)
  refine Facts.and_t ?_ (by as_aux_lemma => kernel_rfl)
  refine Facts.and_t ?_ (by as_aux_lemma => kernel_rfl)
  refine Facts.and_t ?_ (by as_aux_lemma => kernel_rfl)
  refine Facts.and_t ?_ (by show (Tryz.prog.make == some Make.cut) = true; rw [Facts.made]; rfl)
  refine Facts.and_t ?_ (by show (false == Tryz.prog.liftsFinal) = true; rw [Facts.lifts]; rfl)
  refine Facts.and_t ?_ (Facts.enters)
  refine Facts.and_t ?_ (Facts.heard)
  refine Facts.and_t ?_ (rfl)
  refine Facts.and_t ?_ (by show (true == Tryz.prog.plainKeys) = true; rw [Facts.keys]; rfl)
  refine Facts.and_t ?_ (by as_aux_lemma => kernel_rfl)
  refine Facts.and_t ?_ (by as_aux_lemma => kernel_rfl)
  refine Facts.and_t ?_ (by as_aux_lemma => kernel_rfl)
  refine Facts.and_t ?_ (by as_aux_lemma => kernel_rfl)
  refine Facts.and_t ?_ (by as_aux_lemma => kernel_rfl)
  refine Facts.and_t ?_ (by as_aux_lemma => kernel_rfl)
  refine Facts.and_t ?_ (by as_aux_lemma => kernel_rfl)
  refine Facts.and_t ?_ (by as_aux_lemma => kernel_rfl)
  refine Facts.and_t ?_ (by as_aux_lemma => kernel_rfl)
  refine Facts.and_t ?_ (by as_aux_lemma => kernel_rfl)
  refine Facts.and_t ?_ (by as_aux_lemma => kernel_rfl)
  refine Facts.and_t ?_ (by as_aux_lemma => kernel_rfl)
  refine Facts.and_t ?_ (by as_aux_lemma => kernel_rfl)
  refine Facts.and_t ?_ (by as_aux_lemma => kernel_rfl)
  refine Facts.and_t ?_ (by as_aux_lemma => kernel_rfl)
  refine Facts.and_t ?_ (by as_aux_lemma => kernel_rfl)
  refine Facts.and_t ?_ (by as_aux_lemma => kernel_rfl)
  refine Facts.and_t ?_ (by as_aux_lemma => kernel_rfl)
  refine Facts.and_t ?_ (by as_aux_lemma => kernel_rfl)
  refine Facts.and_t ?_ (Facts.rowed)
  refine Facts.and_t ?_ (Facts.laidOut)
  kernel_rfl

theorem over : Rows.fnRunAllRow.holds Tryz.pinned (OpenSpec.ofChange Rows.fnRunAllSpec) :=
  OpenClaim.holds_of_wide 10 Tryz.f10 rfl rfl rfl rfl rfl rfl rfl ⟨rfl, rfl, rfl, rfl, rfl⟩ rfl rfl rfl rfl rfl (by kernel_rfl) Tryz.func10 facts
    (of_decide_eq_true (by kernel_rfl)) (by unfold Func.isWrapper; first | (rw [if_pos (by decide +kernel)]; kernel_rfl) | (rw [if_neg (by decide +kernel)]; exact ⟨rfl, rfl⟩))
    (fun os started H enc _ => (lifted os started H enc))

end Go.Proofs.YtbiokmojjneleaaGreat.RunAll
namespace Go.Proofs.YtbiokmojjneleaaGreat
theorem fnRunAll_holds : Rows.FnRunAllSaid := RunAll.over
end Go.Proofs.YtbiokmojjneleaaGreat
