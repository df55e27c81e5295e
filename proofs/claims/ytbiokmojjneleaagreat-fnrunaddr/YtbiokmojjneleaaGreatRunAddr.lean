/-
  Addresses do not mind each other: so they do not in a drawn play. The given statement, with no condition.
-/
import Derived.Test.YtbiokmojjneleaaGreatRl
import Derived.Test.YtbiokmojjneleaaGreatRcQ
import Derived.Test.YtbiokmojjneleaaGreatRbS
import Derived.Test.YtbiokmojjneleaaGreatHaT
import Derived.Test.YtbiokmojjneleaaGreatFacts
import Derived.Lib.SmallJoins
namespace Go.Proofs.YtbiokmojjneleaaGreat.RunAddr
open Go.ChangeShapes Go.WideShapes Go.ChangeAt Go.RowKit Go.Shelf Go.Joins OkA Big Fl ImplB ImplF ImplS ImplT ImplU SpecA SpecB SpecC SpecD SpecW SpecX SpecF SpecG SpecH FindP FindN FindO FindD ImplW ImplX Pick Draw ClA DrB PlB AlX DpX Pl FindL StA StB StC StD StE StF StG SpS SpT Sv LqI LqF Px NwA Sn9 ImplL Kp DoA RmA WrA FlA PlA SpU ToA QuE LawT MkN Ct Cu Ps Py Pz PaA EvL EvS PrA Nf Nr Rw PyE Rl PyA
open FlB (FsN)
open StN (SN)
open Facts (own laidOut)
set_option linter.unusedVariables false
set_option linter.unusedSimpArgs false
attribute [local go_sem ↓] Go.wp_at_zero Go.wp_at_succ

set_option maxRecDepth 100000 in
set_option maxHeartbeats 8000000 in
theorem walk (a0 : Option Addr) (len0 cap0 : Nat) (z0 : List Int) (a1 : Option Addr) (len1 cap1 : Nat) (z1 : List Int) (w : World) (h0 : IsRow .u8 w a0 len0 cap0 z0) (h1 : IsRow .u8 w a1 len1 cap1 z1) :
    Calls Tryz.prog 14 #[.slice a0 len0 cap0, .slice a1 len1 cap1] w fun e w' => e = .returned (.bool true) ∧ Below w.heap.size w w' := by
  have HD := hide (drawRun_any w a0 len0 cap0 z0 h0)
  clear h0
  clear h1
  go_enter Tryz.func14, Tryz.ntmps14
  by_cases hbig0 : 1048576 < (len0 : Int)
  · go_wp2
    go_ret
    exact ⟨rfl, Below.refl _ _⟩
  by_cases hbig1 : 1048576 < (len1 : Int)
  · go_wp2
    go_ret
    exact ⟨rfl, Below.refl _ _⟩
  go_wp2_with fail
  refine (unhide HD).mono ?_
  rintro e w1 ⟨ea, ec, L, rfl, hE, hl, hin, hac, B⟩
  clear HD
  have HIN := hide hin
  have HEV := hide (fun x hx => (hin x hx).ok)
  have HLC := hide hl
  have HAC := hide hac
  clear hin hl hac
  by_cases h60 : 60 < L.length
  · have hl61 : L.length ≤ 61 := by have := unhide HLC; omega
    have HI := hide (fun (w' : World) (h : EsAt w' ea L) => iRunN (cap := ec) L w' h (unhide HEV) (by omega) h60)
    have HS := hide (fun (w' : World) (h : EsAt w' ea L) => sRunN (cap := ec) L w' h (by omega) h60)
    clear HIN HEV HLC HAC h60 hl61
    go_wp2_with fail
    refine (unhide HI _ hE).mono ?_
    rintro e u1 ⟨rfl, b⟩
    replace hE := hE.below b
    replace B := B.trans (b.mono B.size)
    clear b
    have b : Below u1.heap.size u1 (u1.alloc (.cells #[.slice none 0 0, .slice none 0 0] 26)) := (Below.refl _ _).alloc (Nat.le_refl _) _
    have bs := Bx.new u1 (.slice none 0 0) (.slice none 0 0) 26
    replace hE := hE.below b
    replace B := B.trans (b.mono B.size)
    clear b
    have bs0 := bs.c0
    have bs1 := bs.c1
    go_wp2_with fail
    generalize u1.alloc (.cells #[.slice none 0 0, .slice none 0 0] 26) = v2 at *
    generalize u1.heap.size = bsb at *
    refine (unhide HS _ hE).mono ?_
    rintro e u3 ⟨rfl, b⟩
    replace hE := hE.below b
    replace bs := bs.below b
    clear bs0 bs1
    have bs0 := bs.c0
    have bs1 := bs.c1
    replace B := B.trans (b.mono B.size)
    clear b
    have b : Below u3.heap.size u3 (u3.alloc (.cells #[.slice none 0 0, .slice none 0 0] 26)) := (Below.refl _ _).alloc (Nat.le_refl _) _
    have bw := Bx.new u3 (.slice none 0 0) (.slice none 0 0) 26
    replace hE := hE.below b
    replace bs := bs.below b
    clear bs0 bs1
    have bs0 := bs.c0
    have bs1 := bs.c1
    replace B := B.trans (b.mono B.size)
    clear b
    have bw0 := bw.c0
    have bw1 := bw.c1
    go_wp2_with fail
    generalize u3.alloc (.cells #[.slice none 0 0, .slice none 0 0] 26) = v4 at *
    generalize u3.heap.size = bwb at *
    refine (lqNil _).mono ?_
    rintro e u5 ⟨rfl, b⟩
    replace hE := hE.below b
    replace bs := bs.below b
    clear bs0 bs1
    have bs0 := bs.c0
    have bs1 := bs.c1
    replace bw := bw.below b
    clear bw0 bw1
    have bw0 := bw.c0
    have bw1 := bw.c1
    replace B := B.trans (b.mono B.size)
    clear b
    go_wp2_with fail
    refine (lqNil _).mono ?_
    rintro e u6 ⟨rfl, b⟩
    replace hE := hE.below b
    replace bs := bs.below b
    clear bs0 bs1
    have bs0 := bs.c0
    have bs1 := bs.c1
    replace bw := bw.below b
    clear bw0 bw1
    have bw0 := bw.c0
    have bw1 := bw.c1
    replace B := B.trans (b.mono B.size)
    clear b
    go_wp2
    go_ret
    exact ⟨rfl, B⟩
  have hl60 : L.length ≤ 60 := by omega
  clear h60
  have HI := hide (fun (w' : World) (h : EsAt w' ea L) => iRunI (cap := ec) L w' h (unhide HEV) hl60)
  have HS := hide (fun (w' : World) (h : EsAt w' ea L) => sRun (cap := ec) L w' h hl60)
  have HST := hide (runP_st L)
  generalize runP L = P at *
  obtain ⟨BB, KK⟩ := P
  go_wp2_with fail
  refine (unhide HI _ hE).mono ?_
  rintro e u1 ⟨fa, c1, da, c2, rfl, hI, b⟩
  replace hE := hE.below b
  replace B := B.trans (b.mono B.size)
  clear b
  have hs : SO _ fa da BB KK := so_of hI (unhide HST)
  obtain ⟨loI, hiI, hJ, hlI⟩ : ∃ lo hi, InT u1 lo hi (.slice fa 4 c1) (.slice da 6 c2) true BB KK ∧ hi ≤ u1.heap.size := ⟨_, _, hI, Nat.le_refl _⟩
  clear hI
  have b : Below u1.heap.size u1 (u1.alloc (.cells #[.slice fa 4 c1, .slice da 6 c2] 26)) := (Below.refl _ _).alloc (Nat.le_refl _) _
  have bs := Bx.new u1 (.slice fa 4 c1) (.slice da 6 c2) 26
  replace hE := hE.below b
  replace hs := hs.below b
  replace hJ := hJ.below b
  replace hlI := Nat.le_trans hlI b.size
  replace B := B.trans (b.mono B.size)
  clear b
  have bs0 := bs.c0
  have bs1 := bs.c1
  go_wp2_with fail
  generalize u1.alloc (.cells #[.slice fa 4 c1, .slice da 6 c2] 26) = v2 at *
  generalize u1.heap.size = bsb at *
  refine (unhide HS _ hE).mono ?_
  rintro e u3 ⟨fw, c3, dw, c4, rfl, hw, b⟩
  replace hE := hE.below b
  replace hs := hs.below b
  replace hJ := hJ.below b
  replace bs := bs.below b
  clear bs0 bs1
  have bs0 := bs.c0
  have bs1 := bs.c1
  replace hlI := Nat.le_trans hlI b.size
  replace B := B.trans (b.mono B.size)
  clear b
  have b : Below u3.heap.size u3 (u3.alloc (.cells #[.slice fw 4 c3, .slice dw 6 c4] 26)) := (Below.refl _ _).alloc (Nat.le_refl _) _
  have bw := Bx.new u3 (.slice fw 4 c3) (.slice dw 6 c4) 26
  replace hE := hE.below b
  replace hs := hs.below b
  replace hJ := hJ.below b
  replace hw := hw.below b
  replace bs := bs.below b
  clear bs0 bs1
  have bs0 := bs.c0
  have bs1 := bs.c1
  replace hlI := Nat.le_trans hlI b.size
  replace B := B.trans (b.mono B.size)
  clear b
  have bw0 := bw.c0
  have bw1 := bw.c1
  go_wp2_with fail
  generalize u3.alloc (.cells #[.slice fw 4 c3, .slice dw 6 c4] 26) = v4 at *
  generalize u3.heap.size = bwb at *
  refine (lqEq _ hs hw).mono ?_
  rintro e u5 ⟨rfl, b⟩
  replace hE := hE.below b
  replace hs := hs.below b
  replace hJ := hJ.below b
  replace hw := hw.below b
  replace bs := bs.below b
  clear bs0 bs1
  have bs0 := bs.c0
  have bs1 := bs.c1
  replace bw := bw.below b
  clear bw0 bw1
  have bw0 := bw.c0
  have bw1 := bw.c1
  replace hlI := Nat.le_trans hlI b.size
  replace B := B.trans (b.mono B.size)
  clear b
  clear bw bw0 bw1
  clear hw
  clear HI HS
  clear hJ
  clear hlI
  clear hs
  clear bs bs0 bs1
  clear HEV HLC HST
  have HSS := hide (show (Tryz.prog.info? 26).map (·.size) = some 2 by kernel_rfl)
  have HSE := hide (show (Tryz.prog.info? 42).map (·.size) = some 5 by kernel_rfl)
  obtain ⟨A, hA, hA1, hA6⟩ : ∃ A : Int, 1 + (len1 : Int) % 6 = A ∧ 1 ≤ A ∧ A ≤ 6 := ⟨_, rfl, by omega, by omega⟩
  have hwA : IntKind.i64.wrap A = A := by rw [IntKind.wrap_i64] <;> omega
  have hwA2 : IntKind.i64.wrap (1 + (len1 : Int) % 6) = A := by rw [hA]; exact hwA
  obtain ⟨iE, hiE, hzE, hsE, hbE⟩ := infoE
  have hE0 := hide hE
  have b9 : Below u5.heap.size u5 (u5.alloc (.cells #[] 42)) := (Below.refl _ _).alloc (Nat.le_refl _) _
  have hEa := hE.below b9
  have V0 := Evs.nil u5
  have hR0 := V0.row
  have hsz0 := b9.size
  have hacE : (ea = none ∧ ec = 0 ∧ L.length = 0) ∨ ∃ g, ea = some ⟨g, 0, none⟩ := by rcases unhide HAC with h | ⟨g, h, _⟩; exact .inl h; exact .inr ⟨g, h⟩
  clear hE
  go_wp2_with (refine wpList_append_es rfl _ _ 49 rfl u5.heap.size 42 iE (.agg #[.int .i64 0, .int .i64 0, .int .i64 0, .int .i64 0, .bool false]) 5 40 Tryz.underlying49 hiE hzE hsE hbE rfl (by omega) rfl _ 0 [] rfl hR0 ea ec L hEa hacE rfl (by simp [maxLen]; omega) (by omega) (by omega) ?_; intro v1 w9 ho9 hg9)
  obtain ⟨V1, b1⟩ := V0.pushN (by omega) ho9 hg9
  replace b9 := b9.trans (b1.mono (Nat.le_refl _))
  have hq9 := b9.size
  rw [Nat.zero_add, List.nil_append] at V1
  clear V0 hR0 ho9 hg9 b1 hEa hsz0 hacE
  obtain ⟨wa, wc, rfl, hwa⟩ := Evs.sl V1
  have bR : Below w9.heap.size w9 (w9.alloc (.cells #[] 42)) := (Below.refl _ _).alloc (Nat.le_refl _) _
  have V2 := Evs.nil w9
  have V1r := Evs.below V1 bR
  have b9r := b9.trans (bR.mono b9.size)
  have hXr := bR.size
  have hM0 : (L.take 0).map fx ++ L.drop 0 = L := by simp
  rw [← hM0] at V1r
  clear V1 b9 bR hM0
  go_wp2
  generalize w9.alloc (.cells #[] 42) = w10 at *
  go_loopw [12, 13] (fun v i w' => ∃ (j m : Nat) (N : List Ev), j ≤ L.length ∧ m ≤ j ∧ i = .int .i64 j ∧ Evs w' u5.heap.size (.slice wa L.length wc) L.length (esC ((L.take j).map fx ++ L.drop j)) ∧ Evs w' w9.heap.size v m (esC N) ∧ Hid (N = ((L.take j).map fx).filter (fun x => x.a == A && x.k == 1) ∧ N.length = m) ∧ w9.heap.size ≤ w'.heap.size ∧ Below u5.heap.size u5 w') (fun _ i _ => L.length - (intOf i).toNat)
  case atStart => exact ⟨0, 0, [], by omega, by omega, rfl, V1r, V2, ⟨by simp, rfl⟩, hXr, b9r⟩
  case round =>
    clear V1r V2 hXr b9r
    obtain ⟨j, m, N, hj, hm, rfl, V1, V2, HN, hX, bw⟩ := hrel
    by_cases h0 : j = L.length
    · subst h0
      rw [List.take_of_length_le (Nat.le_refl _), List.drop_eq_nil_of_le (Nat.le_refl _), List.append_nil] at V1
      rw [List.take_of_length_le (Nat.le_refl _)] at HN
      obtain ⟨na, nc, rfl, _⟩ := Evs.sl V2
      have hml : (L.map fx).length = L.length := by rw [List.length_map]
      have hE1 := evs_es V1 hml
      have hE2 := evs_es V2 (unhide HN).2
      have hN := unhide HN
      have HR1 := hide (fun (w' : World) (h : EsAt w' wa (L.map fx)) => (by have := iRun (cap := wc) (L.map fx) w' h (fun x hx => by obtain ⟨y, hy, rfl⟩ := List.mem_map.1 hx; exact fx_ok (unhide HIN y hy)) (by omega); rw [hml] at this; exact this : Calls Tryz.prog 36 #[.slice wa L.length wc] w' fun e w'' => RunPost w' (runP (L.map fx)) e w''))
      have HR2 := hide (fun (w' : World) (h : EsAt w' na N) => (by have := iRun (cap := nc) N w' h (fun x hx => by rw [hN.1] at hx; obtain ⟨y, hy, rfl⟩ := List.mem_map.1 (List.mem_filter.1 hx).1; exact fx_ok (unhide HIN y hy)) (by omega); rw [hN.2] at this; exact this : Calls Tryz.prog 36 #[.slice na m nc] w' fun e w'' => RunPost w' (runP N) e w''))
      have HAL := hide (fxs_last (unhide HIN) hl60 (fun x => x.a == A && x.k == 1) hN.1 A hA1 hA6 (fun x h => fun q => by simp [q.1, q.2] at h))
      clear V1 V2 HN hN hml HIN
      generalize runP (L.map fx) = P1 at *
      obtain ⟨B1, K1⟩ := P1
      generalize runP N = P2 at *
      obtain ⟨B2, K2⟩ := P2
      have B := B.trans (bw.mono B.size)
      clear bw
      go_wp2_with fail
      refine (unhide HR1 _ hE1).mono ?_
      rintro e u61 ⟨fx1, m1, dx1, n1, rfl, hx1, b⟩
      replace hE1 := hE1.below b
      replace hE2 := hE2.below b
      replace B := B.trans (b.mono B.size)
      clear b
      clear hE1
      have b : Below u61.heap.size u61 (u61.alloc (.cells #[.slice fx1 4 m1, .slice dx1 6 n1] 26)) := (Below.refl _ _).alloc (Nat.le_refl _) _
      have bx := Bx.new u61 (.slice fx1 4 m1) (.slice dx1 6 n1) 26
      replace hE2 := hE2.below b
      replace hx1 := hx1.below b
      replace B := B.trans (b.mono B.size)
      clear b
      have bx0 := bx.c0
      have bx1 := bx.c1
      go_wp2_with fail
      generalize u61.alloc (.cells #[.slice fx1 4 m1, .slice dx1 6 n1] 26) = v62 at *
      generalize u61.heap.size = bxb at *
      refine (unhide HR2 _ hE2).mono ?_
      rintro e u63 ⟨fx2, m2, dx2, n2, rfl, hx2, b⟩
      replace hE2 := hE2.below b
      replace hx1 := hx1.below b
      replace bx := bx.below b
      clear bx0 bx1
      have bx0 := bx.c0
      have bx1 := bx.c1
      replace B := B.trans (b.mono B.size)
      clear b
      clear hE2
      have b : Below u63.heap.size u63 (u63.alloc (.cells #[.slice fx2 4 m2, .slice dx2 6 n2] 26)) := (Below.refl _ _).alloc (Nat.le_refl _) _
      have by9 := Bx.new u63 (.slice fx2 4 m2) (.slice dx2 6 n2) 26
      replace hx1 := hx1.below b
      replace hx2 := hx2.below b
      replace bx := bx.below b
      clear bx0 bx1
      have bx0 := bx.c0
      have bx1 := bx.c1
      replace B := B.trans (b.mono B.size)
      clear b
      have by90 := by9.c0
      have by91 := by9.c1
      have HA1 := hide (fun (w' : World) (h : SO w' fx1 dx1 B1 K1) => iRdO (c1 := m1) (c2 := n1) A hA1 hA6 w' h)
      have HA2 := hide (fun (w' : World) (h : SO w' fx2 dx2 B2 K2) => iRdO (c1 := m2) (c2 := n2) A hA1 hA6 w' h)
      rw [show readI B2 K2 A = readI B1 K1 A from unhide HAL] at HA2
      generalize readI B1 K1 A = rv at *
      clear HR1 HR2 HAL
      go_upto_region 20 with fail
      generalize u63.alloc (.cells #[.slice fx2 4 m2, .slice dx2 6 n2] 26) = v64 at *
      generalize u63.heap.size = by9b at *
      refine wp_region_noPanic ?_
      refine wp_region_held_drew (S := fun w' => Kept [] v64 w') (by kernel_rfl) (Kept.refl _ _).drew (fun hHeld => ?_)
      generalize v64.drew = y0 at *
      have z0 := hHeld.size
      refine takeL 0 (.bool true) rfl (by kernel_rfl) (by kernel_rfl) (by kernel_rfl) (fun _ _ _ h => h) (Or.inl ⟨rfl, fun _ _ => rfl⟩) hHeld ?_
      try simp only [Act.put, List.setIfInBounds_toArray, List.set_cons_zero, List.set_cons_succ]
      refine takeL 1 (.bool true) rfl (by kernel_rfl) (by kernel_rfl) (by kernel_rfl) (fun _ _ _ h => h) (Or.inl ⟨rfl, fun _ _ => rfl⟩) hHeld ?_
      try simp only [Act.put, List.setIfInBounds_toArray, List.set_cons_zero, List.set_cons_succ]
      refine takeL 2 (.bool true) rfl (by kernel_rfl) (by kernel_rfl) (by kernel_rfl) (fun _ _ _ h => h) (Or.inl ⟨rfl, fun _ _ => rfl⟩) hHeld ?_
      try simp only [Act.put, List.setIfInBounds_toArray, List.set_cons_zero, List.set_cons_succ]
      refine takeL 3 (.bool true) rfl (by kernel_rfl) (by kernel_rfl) (by kernel_rfl) (fun _ _ _ h => h) (Or.inl ⟨rfl, fun w9 hSw => by go_simp⟩) hHeld ?_
      try simp only [Act.put, List.setIfInBounds_toArray, List.set_cons_zero, List.set_cons_succ]
      refine takeL 4 (.bool true) rfl (by kernel_rfl) (by kernel_rfl) (by kernel_rfl) (fun _ _ _ h => h) (Or.inl ⟨rfl, fun _ _ => rfl⟩) hHeld ?_
      try simp only [Act.put, List.setIfInBounds_toArray, List.set_cons_zero, List.set_cons_succ]
      refine takeL 5 (.agg #[.slice fx1 4 m1, .slice dx1 6 n1]) rfl (by kernel_rfl) (by kernel_rfl) (by kernel_rfl) (fun _ _ _ h => h) (yieldsIf_load_mid rfl 26 _ rfl bxb 0 rfl [.slice fx1 4 m1, .slice dx1 6 n1] _ (fun _ h => rng2 (bx.below (Kept.all h (by simp)))) Tryz.underlying26 rfl (unhide HSS)) hHeld ?_
      try simp only [Act.put, List.setIfInBounds_toArray, List.set_cons_zero, List.set_cons_succ]
      refine takeL 6 (.int .i64 A) rfl (by kernel_rfl) (by kernel_rfl) (by kernel_rfl) (fun _ _ _ h => h) (Or.inl ⟨rfl, fun _ _ => rfl⟩) hHeld ?_
      try simp only [Act.put, List.setIfInBounds_toArray, List.set_cons_zero, List.set_cons_succ]
      refine takeL 8 (.agg #[.slice fx2 4 m2, .slice dx2 6 n2]) rfl (by kernel_rfl) (by kernel_rfl) (by kernel_rfl) (fun _ _ _ h => h) (yieldsIf_load_mid rfl 26 _ rfl by9b 0 rfl [.slice fx2 4 m2, .slice dx2 6 n2] _ (fun _ h => rng2 (by9.below (Kept.all h (by simp)))) Tryz.underlying26 rfl (unhide HSS)) hHeld ?_
      try simp only [Act.put, List.setIfInBounds_toArray, List.set_cons_zero, List.set_cons_succ]
      refine takeL 9 (.int .i64 A) rfl (by kernel_rfl) (by kernel_rfl) (by kernel_rfl) (fun _ _ _ h => h) (Or.inl ⟨rfl, fun _ _ => rfl⟩) hHeld ?_
      try simp only [Act.put, List.setIfInBounds_toArray, List.set_cons_zero, List.set_cons_succ]
      refine oneL 7 rfl (by kernel_rfl) rfl (fun K hK => ?_)
      go_simp
      refine (unhide HA1 _ (hx1.below (Kept.all hHeld (by simp)))).mono ?_
      rintro e y1 ⟨rfl, b⟩
      go_wp2_with fail
      refine hK.out _ _ (hHeld.trans (Kept.of b)) (fun hHeld => ?_)
      clear hK K
      try simp only [Act.put, List.setIfInBounds_toArray, List.set_cons_zero, List.set_cons_succ]
      have z1 := b.size
      clear b
      refine oneL 10 rfl (by kernel_rfl) rfl (fun K hK => ?_)
      go_simp
      refine (unhide HA2 _ (hx2.below (Kept.all hHeld (by simp)))).mono ?_
      rintro e y2 ⟨rfl, b⟩
      go_wp2_with fail
      refine hK.out _ _ (hHeld.trans (Kept.of b)) (fun hHeld => ?_)
      clear hK K
      try simp only [Act.put, List.setIfInBounds_toArray, List.set_cons_zero, List.set_cons_succ]
      have z2 := b.size
      clear b
      refine takeL 11 (.bool true) rfl (by kernel_rfl) (by kernel_rfl) (by kernel_rfl) (fun _ _ _ h => h) (Or.inl ⟨rfl, fun w9 hSw => by go_simp⟩) hHeld ?_
      try simp only [Act.put, List.setIfInBounds_toArray, List.set_cons_zero, List.set_cons_succ]
      refine takeL 12 (.bool true) rfl (by kernel_rfl) (by kernel_rfl) (by kernel_rfl) (fun _ _ _ h => h) (Or.inl ⟨rfl, fun w9 hSw => by go_simp⟩) hHeld ?_
      try simp only [Act.put, List.setIfInBounds_toArray, List.set_cons_zero, List.set_cons_succ]
      refine takeL 13 (.bool true) rfl (by kernel_rfl) (by kernel_rfl) (by kernel_rfl) (fun _ _ _ h => h) (Or.inl ⟨rfl, fun _ _ => rfl⟩) hHeld ?_
      try simp only [Act.put, List.setIfInBounds_toArray, List.set_cons_zero, List.set_cons_succ]
      refine wpAnyH_done (by kernel_rfl) ?_ _
      refine NoPanic.normal ?_
      have B2 := B.trans ((Kept.all hHeld (by simp)).mono B.size)
      clear hHeld
      go_wp2
      go_ret
      exact ⟨rfl, B2⟩
    · have hjl : j < L.length := by omega
      have hji : (j : Int) < (L.length : Int) := by omega
      have hj0 : (0 : Int) ≤ (j : Int) := by omega
      have hwj : IntKind.i64.wrap ((j : Int) + 1) = (j : Int) + 1 := by rw [IntKind.wrap_i64] <;> omega
      have hx := unhide HIN _ (List.getElem_mem hjl)
      have hD := drop_fx L j hjl
      have hT := hide (take_fx L j hjl)
      have hF := hide (take_filter L (fun x => x.a == A && x.k == 1) j hjl)
      rw [hD] at V1
      clear hD
      have hAl : ((L.take j).map fx).length = j := by rw [List.length_map, List.length_take]; omega
      generalize hxx : L[j] = x at *
      clear hxx
      generalize (L.take j).map fx = AL at *
      generalize hC : L.drop (j + 1) = CL at *
      have HC := hide hC
      clear hC
      obtain ⟨g, rfl, hg1, hg2⟩ : ∃ g, wa = some ⟨g, 0, none⟩ ∧ g < w9.heap.size ∧ u5.heap.size ≤ g := by rcases hwa with ⟨_, _, q⟩ | ⟨g, q, h1, h2, _⟩; exact absurd q (by omega); exact ⟨g, q, h2, h1⟩
      have hlt5 : ∀ i : Nat, i < 5 → j * 5 + i < L.length * 5 := fun i hi => by omega
      have c3 := (V1.row.cellAt (j * 5 + 3) (hlt5 3 (by omega))).trans (part_at AL CL x j hAl 3 (by omega))
      have c4 := (V1.row.cellAt (j * 5 + 4) (hlt5 4 (by omega))).trans (part_at AL CL x j hAl 4 (by omega))
      have f3 := V1.row.frozenAt (j * 5 + 3)
      have f4 := V1.row.frozenAt (j * 5 + 4)
      rw [show (evC x)[3]? = some (.int .i64 x.c) from rfl] at c3
      rw [show (evC x)[4]? = some (.bool x.t) from rfl] at c4
      obtain ⟨E1, k1⟩ := V1.stored (j * 5 + 3) (.int .i64 60)
      obtain ⟨E2, k2⟩ := E1.stored (j * 5 + 4) (.bool false)
      rw [fx_set AL CL x j hAl] at E2
      have kk := k1.trans k2
      have V2k := Evs.keptN V2 kk (fun g9 hg9 hm9 => by simp at hm9; subst hm9; have := (V2.lt _ hg9).1; omega)
      have bk := bw.trans (Kept.below kk (B := u5.heap.size) (fun z hz => by simp at hz; subst hz; exact hg2) (by have := bw.size; omega))
      have hXk := Nat.le_trans hX kk.size
      have c4b : (wr.setCell ⟨g, j * 5 + 3, none⟩ (.int .i64 60)).cell? ⟨g, j * 5 + 4, none⟩ = some (.bool x.t) := by rw [World.cell?_setCell_other _ _ _ _ (by intro q; injection q with q1 q2; omega)]; exact c4
      have f4b := E1.row.frozenAt (j * 5 + 4)
      clear V1 V2 E1 k1 k2 kk bw hX
      go_upto_region 16 with fail
      refine ImplX.wp_world (φ := fun w' => Evs w' u5.heap.size (.slice (some ⟨g, 0, none⟩) L.length wc) L.length (esC (AL ++ fx x :: CL)) ∧ Evs w' w9.heap.size u12 m (esC N) ∧ Below u5.heap.size u5 w' ∧ w9.heap.size ≤ w'.heap.size) ⟨E2, V2k, bk, hXk⟩ ?_
      clear E2 V2k bk hXk c3 c4 c4b f3 f4 f4b
      rintro w5 ⟨V1, V2, bw, hX⟩
      have d0 := (V1.row.cellAt (j * 5 + 0) (hlt5 0 (by omega))).trans (part_at AL CL (fx x) j hAl 0 (by omega))
      rw [show (evC (fx x))[0]? = some (.int .i64 x.k) from rfl, Nat.add_zero] at d0
      have d1 := (V1.row.cellAt (j * 5 + 1) (hlt5 1 (by omega))).trans (part_at AL CL (fx x) j hAl 1 (by omega))
      rw [show (evC (fx x))[1]? = some (.int .i64 x.a) from rfl] at d1
      have d2 := (V1.row.cellAt (j * 5 + 2) (hlt5 2 (by omega))).trans (part_at AL CL (fx x) j hAl 2 (by omega))
      rw [show (evC (fx x))[2]? = some (.int .i64 x.b) from rfl] at d2
      have d3 := (V1.row.cellAt (j * 5 + 3) (hlt5 3 (by omega))).trans (part_at AL CL (fx x) j hAl 3 (by omega))
      rw [show (evC (fx x))[3]? = some (.int .i64 60) from rfl] at d3
      have d4 := (V1.row.cellAt (j * 5 + 4) (hlt5 4 (by omega))).trans (part_at AL CL (fx x) j hAl 4 (by omega))
      rw [show (evC (fx x))[4]? = some (.bool false) from rfl] at d4
      by_cases h2 : x.a = A
      · by_cases h1 : x.k = 1
        · have hk1 : (x.k == 1) = true := by rw [h1]; rfl
          have hk2 : (x.a == A) = true := by rw [h2]; simp
          have HN2 : Hid (N ++ [fx x] = ((L.take (j + 1)).map fx).filter (fun x => x.a == A && x.k == 1) ∧ (N ++ [fx x]).length = m + 1) := ⟨by rw [unhide hF, show ((fx x).a == A && (fx x).k == 1) = true by show (x.a == A && x.k == 1) = true; rw [h1, h2]; simp, ← (unhide HN).1]; simp, by rw [List.length_append, (unhide HN).2]; rfl⟩
          clear h1 h2
          rw [← unhide hT, ← unhide HC] at V1
          have bB : Below w5.heap.size w5 (w5.alloc (.cells #[.int .i64 x.k, .int .i64 x.a, .int .i64 x.b, .int .i64 60, .bool false] 42)) := (Below.refl _ _).alloc (Nat.le_refl _) _
          have V1a := Evs.below V1 bB
          have V2a := Evs.below V2 bB
          have nw := CsAt.new w5 [.int .i64 x.k, .int .i64 x.a, .int .i64 x.b, .int .i64 60, .bool false] 42
          have hnw := src_mid nw.cells
          have hR := V2a.row
          have hone := EvS.one_evC (fx x)
          have ba := bw.trans (bB.mono (by have := bw.size; omega))
          have hXa := Nat.le_trans hX bB.size
          have hown : ∀ y ∈ (Value.ownBlock u12).toList, w9.heap.size ≤ y ∧ y < w5.heap.size := fun y hy => V2.lt y (by simpa using hy)
          have hsz5 := bB.size
          clear V1 V2 bB nw hX bw HN hT HC hF
          go_wp2_with (refine wpList_append_own _ rfl _ _ 49 rfl w9.heap.size 42 iE (.agg #[.int .i64 0, .int .i64 0, .int .i64 0, .int .i64 0, .bool false]) 5 40 Tryz.underlying49 hiE hzE hsE hbE rfl (by omega) _ m (esC N) rfl hR ⟨w5.heap.size, 0, none⟩ 1 1 [.int .i64 x.k, .int .i64 x.a, .int .i64 x.b, .int .i64 60, .bool false] rfl rfl hnw hone (by simp [maxLen]; omega) (by omega) (by omega) ?_; intro v2 w6 ho6 hg6 _)
          obtain ⟨V2b, b6⟩ := V2a.pushE (x := fx x) (by omega) ho6 hg6
          have kg : Kept (Value.ownBlock u12).toList (w5.alloc (.cells #[.int .i64 x.k, .int .i64 x.a, .int .i64 x.b, .int .i64 60, .bool false] 42)) w6 := (Kept.refl _ _).grown hg6 (fun k e => .inl (by simp; exact e))
          have V1b := Evs.keptN V1a kg (fun g9 hg9 hm9 => by simp [Value.ownBlock] at hg9; subst hg9; have := hown _ hm9; omega)
          have bz := ba.trans (b6.mono (by omega))
          have hXz := Nat.le_trans hXa b6.size
          clear V1a V2a hR hnw hone ho6 hg6 b6 kg ba hXa hown d0 d1 d2 d3 d4
          go_wp2
          go_roundw
          case rel => exact ⟨j + 1, m + 1, N ++ [fx x], by omega, by omega, by first | rfl | go_num, V1b, V2b, HN2, hXz, bz⟩
          case measure => simp [intOf]; omega
        · have hk1 : (x.k == 1) = false := by simpa using h1
          have hk2 : (x.a == A) = true := by rw [h2]; simp
          have HN2 : Hid (N = ((L.take (j + 1)).map fx).filter (fun x => x.a == A && x.k == 1) ∧ N.length = m) := ⟨by rw [unhide hF, show ((fx x).a == A && (fx x).k == 1) = false by show (x.a == A && x.k == 1) = false; simp [h1]]; simpa using (unhide HN).1, (unhide HN).2⟩
          rw [← unhide hT, ← unhide HC] at V1
          clear HN hT HC hF
          go_wp2
          go_roundw
          case rel => exact ⟨j + 1, m, N, by omega, by omega, by first | rfl | go_num, V1, V2, HN2, hX, bw⟩
          case measure => simp [intOf]; omega
      · have hk2 : (x.a == A) = false := by simpa using h2
        have HN2 : Hid (N = ((L.take (j + 1)).map fx).filter (fun x => x.a == A && x.k == 1) ∧ N.length = m) := ⟨by rw [unhide hF, show ((fx x).a == A && (fx x).k == 1) = false by show (x.a == A && x.k == 1) = false; simp [h2]]; simpa using (unhide HN).1, (unhide HN).2⟩
        rw [← unhide hT, ← unhide HC] at V1
        clear HN hT HC hF
        go_wp2
        go_roundw
        case rel => exact ⟨j + 1, m, N, by omega, by omega, by first | rfl | go_num, V1, V2, HN2, hX, bw⟩
        case measure => simp [intOf]; omega


set_option maxRecDepth 100000 in
theorem lifted (os : Os) (started : os.Started) (H : Type) (enc : TypeId × Value → H) :
    ReturnsInHanded {} Tryz.checked os 14 .any (Rows.fnRunAddrSpec.pre6 enc Tryz.prog Tryz.f14 Rows.fnRunAddrRow.domain false) (Rows.fnRunAddrSpec.post enc Tryz.prog Tryz.f14 false true false false) := by
  refine returnsInHanded_of_change (C := Tryz.checked) own started (by kernel_rfl) Tryz.func14
    (ChangeSpec.witness6 (enc := enc) (C := Tryz.checked) false ⟨#[], #[.slice none 0 0, .slice none 0 0], []⟩ 8 (by kernel_rfl) (by kernel_rfl) (by kernel_rfl) (by kernel_rfl)) ?_
  intro W base args ds gs before hval0 hW hcnd _
  have hval : ∀ (j : Nat) t v, Tryz.f14.params[j]? = some t → args[j]? = some v → Value.okWide Tryz.prog W .any base t v := hval0
  have hW' := hW
  obtain ⟨p, q, hA0, hV, rfl, hfz, hnd⟩ := hW
  have hA : DataW.TrodAll enc Tryz.prog W 0 (fun _ => true) true Tryz.f14.params.toList args.toList ds p := hA0
  rw [Tryz.params14] at hA hval
  obtain ⟨v0, vs0, d0, ds0, p0, q0, hargs, rfl, rfl, h0, r0⟩ := trodAll_cons hA
  obtain ⟨v1, vs1, d1, ds1, p1, q1, rfl, rfl, rfl, h1, r1⟩ := trodAll_cons r0
  obtain ⟨rfl, rfl, rfl⟩ := trodAll_nil r1
  obtain rfl : args = #[v0, v1] := by cases args; simp_all
  obtain ⟨rfl, rfl⟩ := trodVars_none hV
  have kk0 := h0
  have lt0 : ∀ x ∈ p0, x.block < W.heap.size := by obtain ⟨m, hm⟩ := kk0; exact DataW.trod_lt m _ _ _ hm
  obtain ⟨a0, len0, cap0, rfl⟩ := okWide_slice Tryz.underlying22 (hval 0 22 v0 rfl rfl)
  obtain ⟨z0, w0⟩ : ∃ zs, IsRow .u8 W a0 len0 cap0 zs := by
    obtain ⟨fuel, hf⟩ := h0
    rcases open_ints Tryz.underlying22 Tryz.underlying5 (by kernel_rfl) hf with ⟨hcs, _⟩ | ⟨x, l, c, zs, hcs, _, hl, hm, hz, _, hcell, hwz⟩
    · simp [Value.cells] at hcs
      obtain ⟨rfl, rfl, rfl⟩ := hcs
      exact ⟨[], .inl ⟨rfl, rfl, rfl, rfl⟩⟩
    · simp [Value.cells] at hcs
      obtain ⟨rfl, rfl, rfl⟩ := hcs
      exact ⟨zs, .inr ⟨_, rfl, hl, hm, by simpa using hz, hcell, hwz⟩⟩
  have kk1 := h1
  have lt1 : ∀ x ∈ p1, x.block < W.heap.size := by obtain ⟨m, hm⟩ := kk1; exact DataW.trod_lt m _ _ _ hm
  obtain ⟨a1, len1, cap1, rfl⟩ := okWide_slice Tryz.underlying22 (hval 1 22 v1 rfl rfl)
  obtain ⟨z1, w1⟩ : ∃ zs, IsRow .u8 W a1 len1 cap1 zs := by
    obtain ⟨fuel, hf⟩ := h1
    rcases open_ints Tryz.underlying22 Tryz.underlying5 (by kernel_rfl) hf with ⟨hcs, _⟩ | ⟨x, l, c, zs, hcs, _, hl, hm, hz, _, hcell, hwz⟩
    · simp [Value.cells] at hcs
      obtain ⟨rfl, rfl, rfl⟩ := hcs
      exact ⟨[], .inl ⟨rfl, rfl, rfl, rfl⟩⟩
    · simp [Value.cells] at hcs
      obtain ⟨rfl, rfl, rfl⟩ := hcs
      exact ⟨zs, .inr ⟨_, rfl, hl, hm, by simpa using hz, hcell, hwz⟩⟩
  clear hA0
  refine (walk a0 len0 cap0 z0 a1 len1 cap1 z1 W w0 w1).mono fun e W' ⟨he, bel⟩ => ?_
  subst he
  exact ⟨_, rfl, _, _, _, [], _, [], hW', trodAll_mk1 (shut_bool Tryz.underlying4 _), (trodAll_cons_mk (Below.trod laidOut (by kernel_rfl) (of_decide_eq_true (by kernel_rfl)) kk0 bel lt0) (trodAll_cons_mk (Below.trod laidOut (by kernel_rfl) (of_decide_eq_true (by kernel_rfl)) kk1 bel lt1) trodAll_mk0)), rfl, bel.frame _, fun h => by cases h⟩

set_option maxRecDepth 100000 in
theorem facts : joinedFacts Tryz.prog 14 Tryz.f14 Rows.fnRunAddrSpec Rows.fnRunAddrRow = true := by
  unfold joinedFacts
  refine Facts.and_t ?_ (by as_aux_lemma => kernel_rfl)
  refine Facts.and_t ?_ (by as_aux_lemma => kernel_rfl)
  refine Facts.and_t ?_ (by as_aux_lemma => kernel_rfl)
  refine Facts.and_t ?_ (by as_aux_lemma => kernel_rfl)
  refine Facts.and_t ?_ (by show (Tryz.prog.make == some Make.cut) = true; rw [Facts.made]; rfl)
  refine Facts.and_t ?_ (by show (false == Tryz.prog.liftsFinal) = true; rw [Facts.lifts]; rfl)
  refine Facts.and_t ?_ (Facts.enters)
  refine Facts.and_t ?_ (Facts.heard)
  refine Facts.and_t ?_ (rfl)
  refine Facts.and_t ?_ (by show (true == Tryz.prog.plainKeys) = true; rw [Facts.keys]; rfl)
  refine Facts.and_t ?_ (by as_aux_lemma => kernel_rfl)
  refine Facts.and_t ?_ (by as_aux_lemma => kernel_rfl)
  refine Facts.and_t ?_ (by as_aux_lemma => kernel_rfl)
  refine Facts.and_t ?_ (by as_aux_lemma => kernel_rfl)
  refine Facts.and_t ?_ (by as_aux_lemma => kernel_rfl)
  refine Facts.and_t ?_ (by as_aux_lemma => kernel_rfl)
  refine Facts.and_t ?_ (by as_aux_lemma => kernel_rfl)
  refine Facts.and_t ?_ (by as_aux_lemma => kernel_rfl)
  refine Facts.and_t ?_ (by as_aux_lemma => kernel_rfl)
  refine Facts.and_t ?_ (by as_aux_lemma => kernel_rfl)
  refine Facts.and_t ?_ (by as_aux_lemma => kernel_rfl)
  refine Facts.and_t ?_ (by as_aux_lemma => kernel_rfl)
  refine Facts.and_t ?_ (by as_aux_lemma => kernel_rfl)
  refine Facts.and_t ?_ (by as_aux_lemma => kernel_rfl)
  refine Facts.and_t ?_ (by as_aux_lemma => kernel_rfl)
  refine Facts.and_t ?_ (by as_aux_lemma => kernel_rfl)
  refine Facts.and_t ?_ (by as_aux_lemma => kernel_rfl)
  refine Facts.and_t ?_ (by as_aux_lemma => kernel_rfl)
  refine Facts.and_t ?_ (by as_aux_lemma => kernel_rfl)
  refine Facts.and_t ?_ (Facts.rowed)
  refine Facts.and_t ?_ (Facts.laidOut)
  kernel_rfl

theorem over : Rows.fnRunAddrRow.holds Tryz.pinned (OpenSpec.ofChange Rows.fnRunAddrSpec) :=
  OpenClaim.holds_of_wide 14 Tryz.f14 rfl rfl rfl rfl rfl rfl rfl ⟨rfl, rfl, rfl, rfl, rfl⟩ rfl rfl rfl rfl rfl (by kernel_rfl) Tryz.func14 facts
    (of_decide_eq_true (by kernel_rfl)) (by unfold Func.isWrapper; first | (rw [if_pos (by decide +kernel)]; kernel_rfl) | (rw [if_neg (by decide +kernel)]; exact ⟨rfl, rfl⟩))
    (fun os started H enc _ => (lifted os started H enc))

end Go.Proofs.YtbiokmojjneleaaGreat.RunAddr
namespace Go.Proofs.YtbiokmojjneleaaGreat
theorem fnRunAddr_holds : Rows.FnRunAddrSaid := RunAddr.over
end Go.Proofs.YtbiokmojjneleaaGreat
