/-
  A page that is torn is nothing to who reads: so it is not in a drawn play. The given statement, with no condition.
-/
import Derived.Test.YtbiokmojjneleaaGreatRl
import Derived.Test.YtbiokmojjneleaaGreatRcQ
import Derived.Test.YtbiokmojjneleaaGreatRbS
import Derived.Test.YtbiokmojjneleaaGreatHaT
import Derived.Test.YtbiokmojjneleaaGreatFacts
import Derived.Lib.SmallJoins
namespace Go.Proofs.YtbiokmojjneleaaGreat.RunTorn
open Go.ChangeShapes Go.WideShapes Go.ChangeAt Go.RowKit Go.Shelf Go.Joins OkA Big Fl ImplB ImplF ImplS ImplT ImplU SpecA SpecB SpecC SpecD SpecW SpecX SpecF SpecG SpecH FindP FindN FindO FindD ImplW ImplX Pick Draw ClA DrB PlB AlX DpX Pl FindL StA StB StC StD StE StF StG SpS SpT Sv LqI LqF Px NwA Sn9 ImplL Kp DoA RmA WrA FlA PlA SpU ToA QuE LawT MkN Ct Cu Ps Py Pz PaA EvL EvS PrA Nf Nr Rw PyE Rl PyA
open FlB (FsN)
open StN (SN)
open Facts (own laidOut)
set_option linter.unusedVariables false
set_option linter.unusedSimpArgs false
attribute [local go_sem ↓] Go.wp_at_zero Go.wp_at_succ

theorem torn_last {L N : List Ev} (hin : ∀ x ∈ L, EvIn x) (hl : L.length ≤ 60) (hN : N = L.filter (fun x => x.c != 0 || x.k == 4)) (hC : ∀ x ∈ N, ¬ (x.c < 6 ∧ x.k = 1)) : alS (runP L).1 (runP L).2 = alS (runP N).1 (runP N).2 := by
  have hA : ∀ x ∈ L, Nr.EvA x := fun x hx _ => by have := hin x hx; unfold EvIn at this; omega
  have hLC : ∀ x ∈ L, x.k = 1 → x.c = 0 ∨ 6 ≤ x.c := fun x hx hk => by
    by_cases h0 : x.c = 0
    · exact .inl h0
    · right
      have hm : x ∈ N := by rw [hN]; exact List.mem_filter.2 ⟨hx, by simp [h0]⟩
      have := hC x hm
      omega
  have hsub : ∀ x ∈ N, x ∈ L := fun x hx => by rw [hN] at hx; exact (List.mem_filter.1 hx).1
  have hln : N.length ≤ 90 := by rw [hN]; have := List.length_filter_le (fun x => x.c != 0 || x.k == 4) L; omega
  have hf : ∀ (p : Ev → Bool) (a : Int), (∀ v x, p x = false → Nr.pv a v x = v) → ∀ (M : List Ev) (v : Int), (M.filter p).foldl (Nr.pv a) v = M.foldl (Nr.pv a) v := fun p a hp M => by
    induction M with
    | nil => intro v; rfl
    | cons x r ih =>
      intro v
      rw [List.foldl_cons]
      cases h : p x
      · rw [List.filter_cons_of_neg (by rw [h]; simp), ih v, hp v x h]
      · rw [List.filter_cons_of_pos h, List.foldl_cons]; exact ih _
  have hpv : ∀ (a v : Int) (x : Ev), (x.c != 0 || x.k == 4) = false → Nr.pv a v x = v := fun a v x h => by
    unfold Nr.pv
    rw [if_neg]
    rintro ⟨_, _, h6⟩
    simp at h
    omega
  refine Ct.Sm.al ⟨runP_st L, fun a a1 a6 => ?_⟩ (runP_st N)
  rw [Nr.run_last L (by omega) hA hLC a a1 a6, Nr.run_last N hln (fun x hx => hA x (hsub x hx)) (fun x hx => hLC x (hsub x hx)) a a1 a6]
  unfold Nr.lastV
  rw [hN]
  exact (hf _ a (fun v x h => hpv a v x h) L 0).symm
theorem filter_take (L : List Ev) (p : Ev → Bool) (j : Nat) (hj : j < L.length) : (L.take (j + 1)).filter p = (L.take j).filter p ++ (if p L[j] then [L[j]] else []) := by
  rw [List.take_succ_eq_append_getElem hj, List.filter_append]
  simp [List.filter_cons]
theorem low_take {N : List Ev} {j : Nat} (hj : j < N.length) (h : ∀ x ∈ N.take j, ¬ (x.c < 6 ∧ x.k = 1)) (hx : ¬ (N[j].c < 6 ∧ N[j].k = 1)) : ∀ x ∈ N.take (j + 1), ¬ (x.c < 6 ∧ x.k = 1) := fun x hm => by
  rw [List.take_succ_eq_append_getElem hj] at hm
  rcases List.mem_append.1 hm with hm | hm
  · exact h x hm
  · simp at hm; subst hm; exact hx

set_option maxRecDepth 100000 in
set_option maxHeartbeats 8000000 in
theorem walk (a0 : Option Addr) (len0 cap0 : Nat) (z0 : List Int) (w : World) (h0 : IsRow .u8 w a0 len0 cap0 z0) :
    Calls Tryz.prog 16 #[.slice a0 len0 cap0] w fun e w' => e = .returned (.bool true) ∧ Below w.heap.size w w' := by
  have HD := hide (drawRun_any w a0 len0 cap0 z0 h0)
  clear h0
  go_enter Tryz.func16, Tryz.ntmps16
  by_cases hbig0 : 1048576 < (len0 : Int)
  · go_wp2
    go_ret
    exact ⟨rfl, Below.refl _ _⟩
  go_wp2_with fail
  refine (unhide HD).mono ?_
  rintro e w1 ⟨ea, ec, L, rfl, hE, hl, hin, hac, B⟩
  clear HD
  have HIN := hide hin
  have HEV := hide (fun x hx => (hin x hx).ok)
  have HLC := hide hl
  have HAC := hide hac
  clear hin hl hac
  by_cases h60 : 60 < L.length
  · have hl61 : L.length ≤ 61 := by have := unhide HLC; omega
    have HI := hide (fun (w' : World) (h : EsAt w' ea L) => iRunN (cap := ec) L w' h (unhide HEV) (by omega) h60)
    have HS := hide (fun (w' : World) (h : EsAt w' ea L) => sRunN (cap := ec) L w' h (by omega) h60)
    clear HIN HEV HLC HAC h60 hl61
    go_wp2_with fail
    refine (unhide HI _ hE).mono ?_
    rintro e u1 ⟨rfl, b⟩
    replace hE := hE.below b
    replace B := B.trans (b.mono B.size)
    clear b
    have b : Below u1.heap.size u1 (u1.alloc (.cells #[.slice none 0 0, .slice none 0 0] 26)) := (Below.refl _ _).alloc (Nat.le_refl _) _
    have bs := Bx.new u1 (.slice none 0 0) (.slice none 0 0) 26
    replace hE := hE.below b
    replace B := B.trans (b.mono B.size)
    clear b
    have bs0 := bs.c0
    have bs1 := bs.c1
    go_wp2_with fail
    generalize u1.alloc (.cells #[.slice none 0 0, .slice none 0 0] 26) = v2 at *
    generalize u1.heap.size = bsb at *
    refine (unhide HS _ hE).mono ?_
    rintro e u3 ⟨rfl, b⟩
    replace hE := hE.below b
    replace bs := bs.below b
    clear bs0 bs1
    have bs0 := bs.c0
    have bs1 := bs.c1
    replace B := B.trans (b.mono B.size)
    clear b
    have b : Below u3.heap.size u3 (u3.alloc (.cells #[.slice none 0 0, .slice none 0 0] 26)) := (Below.refl _ _).alloc (Nat.le_refl _) _
    have bw := Bx.new u3 (.slice none 0 0) (.slice none 0 0) 26
    replace hE := hE.below b
    replace bs := bs.below b
    clear bs0 bs1
    have bs0 := bs.c0
    have bs1 := bs.c1
    replace B := B.trans (b.mono B.size)
    clear b
    have bw0 := bw.c0
    have bw1 := bw.c1
    go_wp2_with fail
    generalize u3.alloc (.cells #[.slice none 0 0, .slice none 0 0] 26) = v4 at *
    generalize u3.heap.size = bwb at *
    refine (lqNil _).mono ?_
    rintro e u5 ⟨rfl, b⟩
    replace hE := hE.below b
    replace bs := bs.below b
    clear bs0 bs1
    have bs0 := bs.c0
    have bs1 := bs.c1
    replace bw := bw.below b
    clear bw0 bw1
    have bw0 := bw.c0
    have bw1 := bw.c1
    replace B := B.trans (b.mono B.size)
    clear b
    go_wp2_with fail
    refine (lqNil _).mono ?_
    rintro e u6 ⟨rfl, b⟩
    replace hE := hE.below b
    replace bs := bs.below b
    clear bs0 bs1
    have bs0 := bs.c0
    have bs1 := bs.c1
    replace bw := bw.below b
    clear bw0 bw1
    have bw0 := bw.c0
    have bw1 := bw.c1
    replace B := B.trans (b.mono B.size)
    clear b
    go_wp2
    go_ret
    exact ⟨rfl, B⟩
  have hl60 : L.length ≤ 60 := by omega
  clear h60
  have HI := hide (fun (w' : World) (h : EsAt w' ea L) => iRunI (cap := ec) L w' h (unhide HEV) hl60)
  have HS := hide (fun (w' : World) (h : EsAt w' ea L) => sRun (cap := ec) L w' h hl60)
  have HST := hide (runP_st L)
  have HTR := hide (fun (N : List Ev) (hN : N = L.filter (fun x => x.c != 0 || x.k == 4)) (hC : ∀ x ∈ N, ¬ (x.c < 6 ∧ x.k = 1)) => torn_last (unhide HIN) hl60 hN hC)
  generalize runP L = P at *
  obtain ⟨BB, KK⟩ := P
  go_wp2_with fail
  refine (unhide HI _ hE).mono ?_
  rintro e u1 ⟨fa, c1, da, c2, rfl, hI, b⟩
  replace hE := hE.below b
  replace B := B.trans (b.mono B.size)
  clear b
  have hs : SO _ fa da BB KK := so_of hI (unhide HST)
  obtain ⟨loI, hiI, hJ, hlI⟩ : ∃ lo hi, InT u1 lo hi (.slice fa 4 c1) (.slice da 6 c2) true BB KK ∧ hi ≤ u1.heap.size := ⟨_, _, hI, Nat.le_refl _⟩
  clear hI
  have b : Below u1.heap.size u1 (u1.alloc (.cells #[.slice fa 4 c1, .slice da 6 c2] 26)) := (Below.refl _ _).alloc (Nat.le_refl _) _
  have bs := Bx.new u1 (.slice fa 4 c1) (.slice da 6 c2) 26
  replace hE := hE.below b
  replace hs := hs.below b
  replace hJ := hJ.below b
  replace hlI := Nat.le_trans hlI b.size
  replace B := B.trans (b.mono B.size)
  clear b
  have bs0 := bs.c0
  have bs1 := bs.c1
  go_wp2_with fail
  generalize u1.alloc (.cells #[.slice fa 4 c1, .slice da 6 c2] 26) = v2 at *
  generalize u1.heap.size = bsb at *
  refine (unhide HS _ hE).mono ?_
  rintro e u3 ⟨fw, c3, dw, c4, rfl, hw, b⟩
  replace hE := hE.below b
  replace hs := hs.below b
  replace hJ := hJ.below b
  replace bs := bs.below b
  clear bs0 bs1
  have bs0 := bs.c0
  have bs1 := bs.c1
  replace hlI := Nat.le_trans hlI b.size
  replace B := B.trans (b.mono B.size)
  clear b
  have b : Below u3.heap.size u3 (u3.alloc (.cells #[.slice fw 4 c3, .slice dw 6 c4] 26)) := (Below.refl _ _).alloc (Nat.le_refl _) _
  have bw := Bx.new u3 (.slice fw 4 c3) (.slice dw 6 c4) 26
  replace hE := hE.below b
  replace hs := hs.below b
  replace hJ := hJ.below b
  replace hw := hw.below b
  replace bs := bs.below b
  clear bs0 bs1
  have bs0 := bs.c0
  have bs1 := bs.c1
  replace hlI := Nat.le_trans hlI b.size
  replace B := B.trans (b.mono B.size)
  clear b
  have bw0 := bw.c0
  have bw1 := bw.c1
  go_wp2_with fail
  generalize u3.alloc (.cells #[.slice fw 4 c3, .slice dw 6 c4] 26) = v4 at *
  generalize u3.heap.size = bwb at *
  refine (lqEq _ hs hw).mono ?_
  rintro e u5 ⟨rfl, b⟩
  replace hE := hE.below b
  replace hs := hs.below b
  replace hJ := hJ.below b
  replace hw := hw.below b
  replace bs := bs.below b
  clear bs0 bs1
  have bs0 := bs.c0
  have bs1 := bs.c1
  replace bw := bw.below b
  clear bw0 bw1
  have bw0 := bw.c0
  have bw1 := bw.c1
  replace hlI := Nat.le_trans hlI b.size
  replace B := B.trans (b.mono B.size)
  clear b
  clear bw bw0 bw1
  clear hw
  clear HI HS
  clear hJ
  clear hlI
  clear HEV HLC HAC
  have HSS := hide (show (Tryz.prog.info? 26).map (·.size) = some 2 by kernel_rfl)
  have HSE := hide (show (Tryz.prog.info? 42).map (·.size) = some 5 by kernel_rfl)
  have hE9 := hide hE
  have hs9 := hide hs
  have bs9 := hide bs
  have B9 := hide B
  obtain ⟨iE, hiE, hzE, hsE, hbE⟩ := infoE
  have b9 : Below u5.heap.size u5 (u5.alloc (.cells #[] 42)) := (Below.refl _ _).alloc (Nat.le_refl _) _
  have V0 := Evs.nil u5
  have hX0 := b9.size
  go_wp2
  generalize u5.alloc (.cells #[] 42) = w10 at *
  go_loopw [8, 9] (fun v i w' => ∃ (j m : Nat) (N : List Ev), j ≤ L.length ∧ m ≤ j ∧ i = .int .i64 j ∧ Evs w' u5.heap.size v m (esC N) ∧ Hid (N = (L.take j).filter (fun x => x.c != 0 || x.k == 4) ∧ N.length = m) ∧ u5.heap.size ≤ w'.heap.size ∧ Below u5.heap.size u5 w') (fun _ i _ => L.length - (intOf i).toNat)
  case atStart => exact ⟨0, 0, [], by omega, by omega, rfl, V0, ⟨rfl, rfl⟩, hX0, b9⟩
  case round =>
    clear V0 b9 hX0 hE hs bs bs0 bs1 B
    obtain ⟨j, m, N, hj, hm, rfl, V, HN, hX, bw⟩ := hrel
    by_cases h0 : j = L.length
    · subst h0
      rw [List.take_of_length_le (Nat.le_refl _)] at HN
      obtain ⟨na, nc, rfl, _⟩ := Evs.sl V
      have hN := unhide HN
      have hE := evs_es V hN.2
      have hs := (unhide hs9).below bw
      have bs := (unhide bs9).below bw
      have bs0 := bs.c0
      have bs1 := bs.c1
      have B := (unhide B9).trans (bw.mono (unhide B9).size)
      clear bw V hX
      have HR2 := hide (fun (w' : World) (h : EsAt w' na N) => (by have := iRun (cap := nc) N w' h (fun x hx => by rw [hN.1] at hx; exact (unhide HIN x (List.mem_filter.1 hx).1).ok) (by omega); rw [hN.2] at this; exact this : Calls Tryz.prog 36 #[.slice na m nc] w' fun e w'' => RunPost w' (runP N) e w''))
      have HAL := hide (fun (hC : ∀ x ∈ N, ¬ (x.c < 6 ∧ x.k = 1)) => unhide HTR N hN.1 hC)
      have HL6 := hide (al_len (unhide HST))
      have HN2 := hide hN.2
      clear hN HN HIN
      generalize runP N = P2 at *
      obtain ⟨B2, K2⟩ := P2
      go_wp2
      go_loopw [10] (fun i w' => ∃ j : Nat, j ≤ m ∧ i = .int .i64 j ∧ Hid (∀ x ∈ N.take j, ¬ (x.c < 6 ∧ x.k = 1)) ∧ Below wr.heap.size wr w') (fun i _ => m - (intOf i).toNat)
      case atStart => exact ⟨0, by omega, rfl, (fun x hx => by simp at hx), Below.refl _ _⟩
      case round =>
        obtain ⟨j, hj2, rfl, HLO, bw⟩ := hrel
        have b := bw
        replace hE := hE.below b
        replace hs := hs.below b
        replace bs := bs.below b
        clear bs0 bs1
        have bs0 := bs.c0
        have bs1 := bs.c1
        replace B := B.trans (b.mono B.size)
        clear b
        by_cases h0 : j = m
        · subst h0
          have HAM := hide (unhide HAL (fun x hx => unhide HLO x (by rw [List.take_of_length_le (by have := unhide HN2; omega)]; exact hx)))
          clear HLO HAL bw
          go_wp2_with fail
          refine (unhide HR2 _ hE).mono ?_
          rintro e u61 ⟨fx2, m2, dx2, n2, rfl, hx2, b⟩
          replace hE := hE.below b
          replace hs := hs.below b
          replace bs := bs.below b
          clear bs0 bs1
          have bs0 := bs.c0
          have bs1 := bs.c1
          replace B := B.trans (b.mono B.size)
          clear b
          clear hE
          have b : Below u61.heap.size u61 (u61.alloc (.cells #[.slice fx2 4 m2, .slice dx2 6 n2] 26)) := (Below.refl _ _).alloc (Nat.le_refl _) _
          have bx := Bx.new u61 (.slice fx2 4 m2) (.slice dx2 6 n2) 26
          replace hs := hs.below b
          replace hx2 := hx2.below b
          replace bs := bs.below b
          clear bs0 bs1
          have bs0 := bs.c0
          have bs1 := bs.c1
          replace B := B.trans (b.mono B.size)
          clear b
          have bx0 := bx.c0
          have bx1 := bx.c1
          have HA1 := hide (fun (w' : World) (h : SO w' fa da BB KK) => iAllO (c1 := c1) (c2 := c2) w' h)
          have HA2 := hide (fun (w' : World) (h : SO w' fx2 dx2 B2 K2) => iAllO (c1 := m2) (c2 := n2) w' h)
          rw [show alS B2 K2 = alS BB KK from (unhide HAM).symm] at HA2
          generalize alS BB KK = LL at *
          clear HR2 HAM
          go_upto_region 20 with fail
          generalize u61.alloc (.cells #[.slice fx2 4 m2, .slice dx2 6 n2] 26) = v62 at *
          generalize u61.heap.size = bxb at *
          refine wp_region_noPanic ?_
          refine wp_region_held_drew (S := fun w' => Kept [] v62 w') (by kernel_rfl) (Kept.refl _ _).drew (fun hHeld => ?_)
          generalize v62.drew = y0 at *
          have z0 := hHeld.size
          refine takeL 0 (.bool true) rfl (by kernel_rfl) (by kernel_rfl) (by kernel_rfl) (fun _ _ _ h => h) (Or.inl ⟨rfl, fun _ _ => rfl⟩) hHeld ?_
          try simp only [Act.put, List.setIfInBounds_toArray, List.set_cons_zero, List.set_cons_succ]
          refine takeL 1 (.bool true) rfl (by kernel_rfl) (by kernel_rfl) (by kernel_rfl) (fun _ _ _ h => h) (Or.inl ⟨rfl, fun _ _ => rfl⟩) hHeld ?_
          try simp only [Act.put, List.setIfInBounds_toArray, List.set_cons_zero, List.set_cons_succ]
          refine takeL 2 (.agg #[.slice fx2 4 m2, .slice dx2 6 n2]) rfl (by kernel_rfl) (by kernel_rfl) (by kernel_rfl) (fun _ _ _ h => h) (yieldsIf_load_mid rfl 26 _ rfl bxb 0 rfl [.slice fx2 4 m2, .slice dx2 6 n2] _ (fun _ h => rng2 (bx.below (Kept.all h (by simp)))) Tryz.underlying26 rfl (unhide HSS)) hHeld ?_
          try simp only [Act.put, List.setIfInBounds_toArray, List.set_cons_zero, List.set_cons_succ]
          refine takeL 4 (.agg #[.slice fa 4 c1, .slice da 6 c2]) rfl (by kernel_rfl) (by kernel_rfl) (by kernel_rfl) (fun _ _ _ h => h) (yieldsIf_load_mid rfl 26 _ rfl bsb 0 rfl [.slice fa 4 c1, .slice da 6 c2] _ (fun _ h => rng2 (bs.below (Kept.all h (by simp)))) Tryz.underlying26 rfl (unhide HSS)) hHeld ?_
          try simp only [Act.put, List.setIfInBounds_toArray, List.set_cons_zero, List.set_cons_succ]
          refine oneL 3 rfl (by kernel_rfl) rfl (fun K hK => ?_)
          go_simp
          refine (unhide HA2 _ (hx2.below (Kept.all hHeld (by simp)))).mono ?_
          rintro e y1 ⟨p1, q1, rfl, hd1, b⟩
          go_wp2_with fail
          refine hK.out _ _ (hHeld.trans (Kept.of b)) (fun hHeld => ?_)
          clear hK K
          try simp only [Act.put, List.setIfInBounds_toArray, List.set_cons_zero, List.set_cons_succ]
          have z1 := b.size
          clear b
          refine oneL 5 rfl (by kernel_rfl) rfl (fun K hK => ?_)
          go_simp
          refine (unhide HA1 _ (hs.below (Kept.all hHeld (by simp)))).mono ?_
          rintro e y2 ⟨p2, q2, rfl, hd2, b⟩
          go_wp2_with fail
          replace hd1 := hd1.below b
          refine hK.out _ _ (hHeld.trans (Kept.of b)) (fun hHeld => ?_)
          clear hK K
          try simp only [Act.put, List.setIfInBounds_toArray, List.set_cons_zero, List.set_cons_succ]
          have z2 := b.size
          clear b
          refine oneL 6 rfl (by kernel_rfl) rfl (fun K hK => ?_)
          go_simp
          refine (lqIn _ _ _ _ LL (unhide HL6) _ hd1 hd2).mono ?_
          rintro e y3 ⟨rfl, b⟩
          go_wp2_with fail
          replace hd1 := hd1.below b
          replace hd2 := hd2.below b
          refine hK.out _ _ (hHeld.trans (Kept.of b)) (fun hHeld => ?_)
          clear hK K
          try simp only [Act.put, List.setIfInBounds_toArray, List.set_cons_zero, List.set_cons_succ]
          have z3 := b.size
          clear b
          refine takeL 7 (.bool true) rfl (by kernel_rfl) (by kernel_rfl) (by kernel_rfl) (fun _ _ _ h => h) (Or.inl ⟨rfl, fun w9 hSw => by go_simp⟩) hHeld ?_
          try simp only [Act.put, List.setIfInBounds_toArray, List.set_cons_zero, List.set_cons_succ]
          refine takeL 8 (.bool true) rfl (by kernel_rfl) (by kernel_rfl) (by kernel_rfl) (fun _ _ _ h => h) (Or.inl ⟨rfl, fun _ _ => rfl⟩) hHeld ?_
          try simp only [Act.put, List.setIfInBounds_toArray, List.set_cons_zero, List.set_cons_succ]
          refine wpAnyH_done (by kernel_rfl) ?_ _
          refine NoPanic.normal ?_
          have B2 := B.trans ((Kept.all hHeld (by simp)).mono B.size)
          clear hHeld
          go_wp2
          go_ret
          exact ⟨rfl, B2⟩
        · have hjl : j < N.length := by have := unhide HN2; omega
          have hji : (j : Int) < (m : Int) := by omega
          have hj0 : (0 : Int) ≤ (j : Int) := by omega
          have hwj : IntKind.i64.wrap ((j : Int) + 1) = (j : Int) + 1 := by rw [IntKind.wrap_i64] <;> omega
          obtain ⟨eb, eo, rfl, rX, lX⟩ := hE.at j hjl
          obtain ⟨v0, v1, v2, v3, v4⟩ := evC_cells rX
          have HLT := hide (fun h => low_take hjl (unhide HLO) h)
          generalize N[j] = x at *
          clear rX HLO HAL hs bs bs0 bs1 HR2
          by_cases h1 : x.c < 6
          · by_cases h2 : x.k = 1
            · have hk2 : (x.k == 1) = true := by rw [h2]; rfl
              clear HLT
              go_wp2
              go_ret
              exact ⟨rfl, B⟩
            · have hk2 : (x.k == 1) = false := by simpa using h2
              have HLO2 := hide (unhide HLT (fun q => h2 q.2))
              clear HLT
              go_wp2
              go_roundw
              case rel => exact ⟨j + 1, by omega, by first | rfl | go_num, HLO2, bw⟩
              case measure => simp [intOf]; omega
          · have HLO2 := hide (unhide HLT (fun q => h1 q.1))
            clear HLT
            go_wp2
            go_roundw
            case rel => exact ⟨j + 1, by omega, by first | rfl | go_num, HLO2, bw⟩
            case measure => simp [intOf]; omega
    · have hjl : j < L.length := by omega
      have hji : (j : Int) < (L.length : Int) := by omega
      have hj0 : (0 : Int) ≤ (j : Int) := by omega
      have hwj : IntKind.i64.wrap ((j : Int) + 1) = (j : Int) + 1 := by rw [IntKind.wrap_i64] <;> omega
      obtain ⟨eb, eo, rfl, rX, lX⟩ := ((unhide hE9).below bw).at j hjl
      obtain ⟨v0, v1, v2, v3, v4⟩ := evC_cells rX
      have hF := hide (filter_take L (fun x => x.c != 0 || x.k == 4) j hjl)
      generalize L[j] = x at *
      clear rX
      by_cases h1 : x.c = 0
      · have hk1 : (x.c != 0) = false := by rw [h1]; rfl
        by_cases h2 : x.k = 4
        · have hk2 : (x.k == 4) = true := by rw [h2]; rfl
          have H1 := hide h1
          have H2 := hide h2
          clear h1 h2
          have HN2 : Hid (N ++ [x] = (L.take (j + 1)).filter (fun x => x.c != 0 || x.k == 4) ∧ (N ++ [x]).length = m + 1) := ⟨by rw [unhide hF, show (x.c != 0 || x.k == 4) = true by rw [hk1, hk2]; rfl, ← (unhide HN).1]; simp, by rw [List.length_append, (unhide HN).2]; rfl⟩
          have bB : Below wr.heap.size wr (wr.alloc (.cells #[.int .i64 x.k, .int .i64 x.a, .int .i64 x.b, .int .i64 x.c, .bool x.t] 42)) := (Below.refl _ _).alloc (Nat.le_refl _) _
          have Va := Evs.below V bB
          have nw := CsAt.new wr [.int .i64 x.k, .int .i64 x.a, .int .i64 x.b, .int .i64 x.c, .bool x.t] 42
          have hnw := src_mid nw.cells
          have hR := Va.row
          have hone := EvS.one_evC x
          have ba := bw.trans (bB.mono (by have := bw.size; omega))
          have hXa := Nat.le_trans hX bB.size
          clear V bB nw hX bw HN hF
          go_wp2_with (refine wpList_append_own _ rfl _ _ 49 rfl u5.heap.size 42 iE (.agg #[.int .i64 0, .int .i64 0, .int .i64 0, .int .i64 0, .bool false]) 5 40 Tryz.underlying49 hiE hzE hsE hbE rfl (by omega) _ m (esC N) rfl hR ⟨wr.heap.size, 0, none⟩ 1 1 [.int .i64 x.k, .int .i64 x.a, .int .i64 x.b, .int .i64 x.c, .bool x.t] rfl rfl hnw hone (by simp [maxLen]; omega) (by omega) (by omega) ?_; intro v9 w6 ho6 hg6 _)
          obtain ⟨Vb, b6⟩ := Va.pushE (x := x) (by omega) ho6 hg6
          have bz := ba.trans b6
          have hXz := Nat.le_trans hXa b6.size
          clear Va hR hnw hone ho6 hg6 b6 ba hXa v0 v1 v2 v3 v4
          go_wp2
          go_roundw
          case rel => exact ⟨j + 1, m + 1, N ++ [x], by omega, by omega, by first | rfl | go_num, Vb, HN2, hXz, bz⟩
          case measure => simp [intOf]; omega
        · have hk2 : (x.k == 4) = false := by simpa using h2
          have H1 := hide h1
          clear h1 h2
          have HN2 : Hid (N = (L.take (j + 1)).filter (fun x => x.c != 0 || x.k == 4) ∧ N.length = m) := ⟨by rw [unhide hF, show (x.c != 0 || x.k == 4) = false by rw [hk1, hk2]; rfl]; simpa using (unhide HN).1, (unhide HN).2⟩
          clear HN hF
          go_wp2
          go_roundw
          case rel => exact ⟨j + 1, m, N, by omega, by omega, by first | rfl | go_num, V, HN2, hX, bw⟩
          case measure => simp [intOf]; omega
      · have hk1 : (x.c != 0) = true := by simpa using h1
        clear h1
        have HN2 : Hid (N ++ [x] = (L.take (j + 1)).filter (fun x => x.c != 0 || x.k == 4) ∧ (N ++ [x]).length = m + 1) := ⟨by rw [unhide hF, show (x.c != 0 || x.k == 4) = true by rw [hk1]; rfl, ← (unhide HN).1]; simp, by rw [List.length_append, (unhide HN).2]; rfl⟩
        have bB : Below wr.heap.size wr (wr.alloc (.cells #[.int .i64 x.k, .int .i64 x.a, .int .i64 x.b, .int .i64 x.c, .bool x.t] 42)) := (Below.refl _ _).alloc (Nat.le_refl _) _
        have Va := Evs.below V bB
        have nw := CsAt.new wr [.int .i64 x.k, .int .i64 x.a, .int .i64 x.b, .int .i64 x.c, .bool x.t] 42
        have hnw := src_mid nw.cells
        have hR := Va.row
        have hone := EvS.one_evC x
        have ba := bw.trans (bB.mono (by have := bw.size; omega))
        have hXa := Nat.le_trans hX bB.size
        clear V bB nw hX bw HN hF
        go_wp2_with (refine wpList_append_own _ rfl _ _ 49 rfl u5.heap.size 42 iE (.agg #[.int .i64 0, .int .i64 0, .int .i64 0, .int .i64 0, .bool false]) 5 40 Tryz.underlying49 hiE hzE hsE hbE rfl (by omega) _ m (esC N) rfl hR ⟨wr.heap.size, 0, none⟩ 1 1 [.int .i64 x.k, .int .i64 x.a, .int .i64 x.b, .int .i64 x.c, .bool x.t] rfl rfl hnw hone (by simp [maxLen]; omega) (by omega) (by omega) ?_; intro v9 w6 ho6 hg6 _)
        obtain ⟨Vb, b6⟩ := Va.pushE (x := x) (by omega) ho6 hg6
        have bz := ba.trans b6
        have hXz := Nat.le_trans hXa b6.size
        clear Va hR hnw hone ho6 hg6 b6 ba hXa v0 v1 v2 v3 v4
        go_wp2
        go_roundw
        case rel => exact ⟨j + 1, m + 1, N ++ [x], by omega, by omega, by first | rfl | go_num, Vb, HN2, hXz, bz⟩
        case measure => simp [intOf]; omega


set_option maxRecDepth 100000 in
theorem lifted (os : Os) (started : os.Started) (H : Type) (enc : TypeId × Value → H) :
    ReturnsInHanded {} Tryz.checked os 16 .any (Rows.fnRunTornSpec.pre6 enc Tryz.prog Tryz.f16 Rows.fnRunTornRow.domain false) (Rows.fnRunTornSpec.post enc Tryz.prog Tryz.f16 false true false false) := by
  refine returnsInHanded_of_change (C := Tryz.checked) own started (by kernel_rfl) Tryz.func16
    (ChangeSpec.witness6 (enc := enc) (C := Tryz.checked) false ⟨#[], #[.slice none 0 0], []⟩ 8 (by kernel_rfl) (by kernel_rfl) (by kernel_rfl) (by kernel_rfl)) ?_
  intro W base args ds gs before hval0 hW hcnd _
  have hval : ∀ (j : Nat) t v, Tryz.f16.params[j]? = some t → args[j]? = some v → Value.okWide Tryz.prog W .any base t v := hval0
  have hW' := hW
  obtain ⟨p, q, hA0, hV, rfl, hfz, hnd⟩ := hW
  have hA : DataW.TrodAll enc Tryz.prog W 0 (fun _ => true) true Tryz.f16.params.toList args.toList ds p := hA0
  rw [Tryz.params16] at hA hval
  obtain ⟨v0, vs0, d0, ds0, p0, q0, hargs, rfl, rfl, h0, r0⟩ := trodAll_cons hA
  obtain ⟨rfl, rfl, rfl⟩ := trodAll_nil r0
  obtain rfl : args = #[v0] := by cases args; simp_all
  obtain ⟨rfl, rfl⟩ := trodVars_none hV
  have kk0 := h0
  have lt0 : ∀ x ∈ p0, x.block < W.heap.size := by obtain ⟨m, hm⟩ := kk0; exact DataW.trod_lt m _ _ _ hm
  obtain ⟨a0, len0, cap0, rfl⟩ := okWide_slice Tryz.underlying22 (hval 0 22 v0 rfl rfl)
  obtain ⟨z0, w0⟩ : ∃ zs, IsRow .u8 W a0 len0 cap0 zs := by
    obtain ⟨fuel, hf⟩ := h0
    rcases open_ints Tryz.underlying22 Tryz.underlying5 (by kernel_rfl) hf with ⟨hcs, _⟩ | ⟨x, l, c, zs, hcs, _, hl, hm, hz, _, hcell, hwz⟩
    · simp [Value.cells] at hcs
      obtain ⟨rfl, rfl, rfl⟩ := hcs
      exact ⟨[], .inl ⟨rfl, rfl, rfl, rfl⟩⟩
    · simp [Value.cells] at hcs
      obtain ⟨rfl, rfl, rfl⟩ := hcs
      exact ⟨zs, .inr ⟨_, rfl, hl, hm, by simpa using hz, hcell, hwz⟩⟩
  clear hA0
  refine (walk a0 len0 cap0 z0 W w0).mono fun e W' ⟨he, bel⟩ => ?_
  subst he
  exact ⟨_, rfl, _, _, _, [], _, [], hW', trodAll_mk1 (shut_bool Tryz.underlying4 _), (trodAll_cons_mk (Below.trod laidOut (by kernel_rfl) (of_decide_eq_true (by kernel_rfl)) kk0 bel lt0) trodAll_mk0), rfl, bel.frame _, fun h => by cases h⟩

set_option maxRecDepth 100000 in
theorem facts : joinedFacts Tryz.prog 16 Tryz.f16 Rows.fnRunTornSpec Rows.fnRunTornRow = true := by
  unfold joinedFacts
  refine Facts.and_t ?_ (by as_aux_lemma => kernel_rfl)
  refine Facts.and_t ?_ (by as_aux_lemma => kernel_rfl)
  refine Facts.and_t ?_ (by as_aux_lemma => kernel_rfl)
  refine Facts.and_t ?_ (by as_aux_lemma => kernel_rfl)
  refine Facts.and_t ?_ (by show (Tryz.prog.make == some Make.cut) = true; rw [Facts.made]; rfl)
  refine Facts.and_t ?_ (by show (false == Tryz.prog.liftsFinal) = true; rw [Facts.lifts]; rfl)
  refine Facts.and_t ?_ (Facts.enters)
  refine Facts.and_t ?_ (Facts.heard)
  refine Facts.and_t ?_ (rfl)
  refine Facts.and_t ?_ (by show (true == Tryz.prog.plainKeys) = true; rw [Facts.keys]; rfl)
  refine Facts.and_t ?_ (by as_aux_lemma => kernel_rfl)
  refine Facts.and_t ?_ (by as_aux_lemma => kernel_rfl)
  refine Facts.and_t ?_ (by as_aux_lemma => kernel_rfl)
  refine Facts.and_t ?_ (by as_aux_lemma => kernel_rfl)
  refine Facts.and_t ?_ (by as_aux_lemma => kernel_rfl)
  refine Facts.and_t ?_ (by as_aux_lemma => kernel_rfl)
  refine Facts.and_t ?_ (by as_aux_lemma => kernel_rfl)
  refine Facts.and_t ?_ (by as_aux_lemma => kernel_rfl)
  refine Facts.and_t ?_ (by as_aux_lemma => kernel_rfl)
  refine Facts.and_t ?_ (by as_aux_lemma => kernel_rfl)
  refine Facts.and_t ?_ (by as_aux_lemma => kernel_rfl)
  refine Facts.and_t ?_ (by as_aux_lemma => kernel_rfl)
  refine Facts.and_t ?_ (by as_aux_lemma => kernel_rfl)
  refine Facts.and_t ?_ (by as_aux_lemma => kernel_rfl)
  refine Facts.and_t ?_ (by as_aux_lemma => kernel_rfl)
  refine Facts.and_t ?_ (by as_aux_lemma => kernel_rfl)
  refine Facts.and_t ?_ (by as_aux_lemma => kernel_rfl)
  refine Facts.and_t ?_ (by as_aux_lemma => kernel_rfl)
  refine Facts.and_t ?_ (by as_aux_lemma => kernel_rfl)
  refine Facts.and_t ?_ (Facts.rowed)
  refine Facts.and_t ?_ (Facts.laidOut)
  kernel_rfl

theorem over : Rows.fnRunTornRow.holds Tryz.pinned (OpenSpec.ofChange Rows.fnRunTornSpec) :=
  OpenClaim.holds_of_wide 16 Tryz.f16 rfl rfl rfl rfl rfl rfl rfl ⟨rfl, rfl, rfl, rfl, rfl⟩ rfl rfl rfl rfl rfl (by kernel_rfl) Tryz.func16 facts
    (of_decide_eq_true (by kernel_rfl)) (by unfold Func.isWrapper; first | (rw [if_pos (by decide +kernel)]; kernel_rfl) | (rw [if_neg (by decide +kernel)]; exact ⟨rfl, rfl⟩))
    (fun os started H enc _ => (lifted os started H enc))

end Go.Proofs.YtbiokmojjneleaaGreat.RunTorn
namespace Go.Proofs.YtbiokmojjneleaaGreat
theorem fnRunTorn_holds : Rows.FnRunTornSaid := RunTorn.over
end Go.Proofs.YtbiokmojjneleaaGreat
