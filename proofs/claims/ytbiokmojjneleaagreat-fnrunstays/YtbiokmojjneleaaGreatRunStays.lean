/-
  What is read is read again: so it is behind a drawn play. The given statement, with no condition.
-/
import Derived.Test.YtbiokmojjneleaaGreatRcQ
import Derived.Test.YtbiokmojjneleaaGreatRbS
import Derived.Test.YtbiokmojjneleaaGreatHaT
import Derived.Test.YtbiokmojjneleaaGreatFacts
import Derived.Lib.SmallJoins
namespace Go.Proofs.YtbiokmojjneleaaGreat.RunStays
open Go.ChangeShapes Go.WideShapes Go.ChangeAt Go.RowKit Go.Shelf Go.Joins OkA Big Fl ImplB ImplF ImplS ImplT ImplU SpecA SpecB SpecC SpecD SpecW SpecX SpecF SpecG SpecH FindP FindN FindO FindD ImplW ImplX Pick Draw ClA DrB PlB AlX DpX Pl FindL StA StB StC StD StE StF StG SpS SpT Sv LqI LqF Px NwA Sn9 ImplL Kp DoA RmA WrA FlA PlA SpU ToA QuE LawT MkN Ct Cu Ps Py Pz PaA EvL EvS PrA Nf Nr Rw PyE MkN TwB SpV LawU
open FlB (FsN)
open StN (SN)
open Facts (own laidOut)
set_option linter.unusedVariables false
set_option linter.unusedSimpArgs false
attribute [local go_sem ↓] Go.wp_at_zero Go.wp_at_succ

set_option maxRecDepth 100000 in
set_option maxHeartbeats 8000000 in
theorem walk (a0 : Option Addr) (len0 cap0 : Nat) (z0 : List Int) (a1 : Option Addr) (len1 cap1 : Nat) (z1 : List Int) (w : World) (h0 : IsRow .u8 w a0 len0 cap0 z0) (h1 : IsRow .u8 w a1 len1 cap1 z1) :
    Calls Tryz.prog 9 #[.slice a0 len0 cap0, .slice a1 len1 cap1] w fun e w' => e = .returned (.bool true) ∧ Below w.heap.size w w' := by
  have HD := hide (drawRun_any w a0 len0 cap0 z0 h0)
  clear h0
  clear h1
  go_enter Tryz.func9, Tryz.ntmps9
  by_cases hbig0 : 1048576 < (len0 : Int)
  · go_wp2
    go_ret
    exact ⟨rfl, Below.refl _ _⟩
  by_cases hbig1 : 1048576 < (len1 : Int)
  · go_wp2
    go_ret
    exact ⟨rfl, Below.refl _ _⟩
  go_wp2_with fail
  refine (unhide HD).mono ?_
  rintro e w1 ⟨ea, ec, L, rfl, hE, hl, hin, hac, B⟩
  clear HD
  have HIN := hide hin
  have HEV := hide (fun x hx => (hin x hx).ok)
  have HLC := hide hl
  have HAC := hide hac
  clear hin hl hac
  by_cases h60 : 60 < L.length
  · have hl61 : L.length ≤ 61 := by have := unhide HLC; omega
    have HI := hide (fun (w' : World) (h : EsAt w' ea L) => iRunN (cap := ec) L w' h (unhide HEV) (by omega) h60)
    have HS := hide (fun (w' : World) (h : EsAt w' ea L) => sRunN (cap := ec) L w' h (by omega) h60)
    clear HIN HEV HLC HAC h60 hl61
    go_wp2_with fail
    refine (unhide HI _ hE).mono ?_
    rintro e u1 ⟨rfl, b⟩
    replace hE := hE.below b
    replace B := B.trans (b.mono B.size)
    clear b
    have b : Below u1.heap.size u1 (u1.alloc (.cells #[.slice none 0 0, .slice none 0 0] 26)) := (Below.refl _ _).alloc (Nat.le_refl _) _
    have bs := Bx.new u1 (.slice none 0 0) (.slice none 0 0) 26
    replace hE := hE.below b
    replace B := B.trans (b.mono B.size)
    clear b
    have bs0 := bs.c0
    have bs1 := bs.c1
    go_wp2_with fail
    generalize u1.alloc (.cells #[.slice none 0 0, .slice none 0 0] 26) = v2 at *
    generalize u1.heap.size = bsb at *
    refine (unhide HS _ hE).mono ?_
    rintro e u3 ⟨rfl, b⟩
    replace hE := hE.below b
    replace bs := bs.below b
    clear bs0 bs1
    have bs0 := bs.c0
    have bs1 := bs.c1
    replace B := B.trans (b.mono B.size)
    clear b
    have b : Below u3.heap.size u3 (u3.alloc (.cells #[.slice none 0 0, .slice none 0 0] 26)) := (Below.refl _ _).alloc (Nat.le_refl _) _
    have bw := Bx.new u3 (.slice none 0 0) (.slice none 0 0) 26
    replace hE := hE.below b
    replace bs := bs.below b
    clear bs0 bs1
    have bs0 := bs.c0
    have bs1 := bs.c1
    replace B := B.trans (b.mono B.size)
    clear b
    have bw0 := bw.c0
    have bw1 := bw.c1
    go_wp2_with fail
    generalize u3.alloc (.cells #[.slice none 0 0, .slice none 0 0] 26) = v4 at *
    generalize u3.heap.size = bwb at *
    refine (lqNil _).mono ?_
    rintro e u5 ⟨rfl, b⟩
    replace hE := hE.below b
    replace bs := bs.below b
    clear bs0 bs1
    have bs0 := bs.c0
    have bs1 := bs.c1
    replace bw := bw.below b
    clear bw0 bw1
    have bw0 := bw.c0
    have bw1 := bw.c1
    replace B := B.trans (b.mono B.size)
    clear b
    go_wp2_with fail
    refine (lqNil _).mono ?_
    rintro e u6 ⟨rfl, b⟩
    replace hE := hE.below b
    replace bs := bs.below b
    clear bs0 bs1
    have bs0 := bs.c0
    have bs1 := bs.c1
    replace bw := bw.below b
    clear bw0 bw1
    have bw0 := bw.c0
    have bw1 := bw.c1
    replace B := B.trans (b.mono B.size)
    clear b
    go_wp2
    go_ret
    exact ⟨rfl, B⟩
  have hl60 : L.length ≤ 60 := by omega
  clear h60
  have HI := hide (fun (w' : World) (h : EsAt w' ea L) => iRunI (cap := ec) L w' h (unhide HEV) hl60)
  have HS := hide (fun (w' : World) (h : EsAt w' ea L) => sRun (cap := ec) L w' h hl60)
  have HST := hide (runP_st L)
  generalize runP L = P at *
  obtain ⟨BB, KK⟩ := P
  go_wp2_with fail
  refine (unhide HI _ hE).mono ?_
  rintro e u1 ⟨fa, c1, da, c2, rfl, hI, b⟩
  replace hE := hE.below b
  replace B := B.trans (b.mono B.size)
  clear b
  have hs : SO _ fa da BB KK := so_of hI (unhide HST)
  obtain ⟨loI, hiI, hJ, hlI⟩ : ∃ lo hi, InT u1 lo hi (.slice fa 4 c1) (.slice da 6 c2) true BB KK ∧ hi ≤ u1.heap.size := ⟨_, _, hI, Nat.le_refl _⟩
  clear hI
  have b : Below u1.heap.size u1 (u1.alloc (.cells #[.slice fa 4 c1, .slice da 6 c2] 26)) := (Below.refl _ _).alloc (Nat.le_refl _) _
  have bs := Bx.new u1 (.slice fa 4 c1) (.slice da 6 c2) 26
  replace hE := hE.below b
  replace hs := hs.below b
  replace hJ := hJ.below b
  replace hlI := Nat.le_trans hlI b.size
  replace B := B.trans (b.mono B.size)
  clear b
  have bs0 := bs.c0
  have bs1 := bs.c1
  go_wp2_with fail
  generalize u1.alloc (.cells #[.slice fa 4 c1, .slice da 6 c2] 26) = v2 at *
  generalize u1.heap.size = bsb at *
  refine (unhide HS _ hE).mono ?_
  rintro e u3 ⟨fw, c3, dw, c4, rfl, hw, b⟩
  replace hE := hE.below b
  replace hs := hs.below b
  replace hJ := hJ.below b
  replace bs := bs.below b
  clear bs0 bs1
  have bs0 := bs.c0
  have bs1 := bs.c1
  replace hlI := Nat.le_trans hlI b.size
  replace B := B.trans (b.mono B.size)
  clear b
  have b : Below u3.heap.size u3 (u3.alloc (.cells #[.slice fw 4 c3, .slice dw 6 c4] 26)) := (Below.refl _ _).alloc (Nat.le_refl _) _
  have bw := Bx.new u3 (.slice fw 4 c3) (.slice dw 6 c4) 26
  replace hE := hE.below b
  replace hs := hs.below b
  replace hJ := hJ.below b
  replace hw := hw.below b
  replace bs := bs.below b
  clear bs0 bs1
  have bs0 := bs.c0
  have bs1 := bs.c1
  replace hlI := Nat.le_trans hlI b.size
  replace B := B.trans (b.mono B.size)
  clear b
  have bw0 := bw.c0
  have bw1 := bw.c1
  go_wp2_with fail
  generalize u3.alloc (.cells #[.slice fw 4 c3, .slice dw 6 c4] 26) = v4 at *
  generalize u3.heap.size = bwb at *
  refine (lqEq _ hs hw).mono ?_
  rintro e u5 ⟨rfl, b⟩
  replace hE := hE.below b
  replace hs := hs.below b
  replace hJ := hJ.below b
  replace hw := hw.below b
  replace bs := bs.below b
  clear bs0 bs1
  have bs0 := bs.c0
  have bs1 := bs.c1
  replace bw := bw.below b
  clear bw0 bw1
  have bw0 := bw.c0
  have bw1 := bw.c1
  replace hlI := Nat.le_trans hlI b.size
  replace B := B.trans (b.mono B.size)
  clear b
  clear bw bw0 bw1
  clear hw
  clear HI HS
  clear HIN HLC HAC
  have HSS := hide (show (Tryz.prog.info? 26).map (·.size) = some 2 by kernel_rfl)
  have HSE := hide (show (Tryz.prog.info? 42).map (·.size) = some 5 by kernel_rfl)
  obtain ⟨A, hA, hA1, hA6⟩ : ∃ A : Int, 1 + (len1 : Int) % 6 = A ∧ 1 ≤ A ∧ A ≤ 6 := ⟨_, rfl, by omega, by omega⟩
  have hwA : IntKind.i64.wrap A = A := by rw [IntKind.wrap_i64] <;> omega
  have hwA2 : IntKind.i64.wrap (1 + (len1 : Int) % 6) = A := by rw [hA]; exact hwA
  have hJ0 := hJ
  have hl0 := hlI
  clear hJ
  clear hlI
  have hE9 := hide hE
  have hs9 := hide hs
  have bs9 := hide bs
  have B9 := hide B
  have b : Below u5.heap.size u5 (u5.alloc (.cells #[.slice fa 4 c1, .slice da 6 c2] 26)) := (Below.refl _ _).alloc (Nat.le_refl _) _
  have bsu0 := bs0
  have bsu1 := bs1
  have cX := CsAt.new u5 [.slice fa 4 c1, .slice da 6 c2] 26
  have I0 := InT.below hJ0 b
  have b0 := b
  have hxs : u5.heap.size < (u5.alloc (.cells #[.slice fa 4 c1, .slice da 6 c2] 26)).heap.size := by simp
  clear hJ0
  replace hE := hE.below b
  replace hs := hs.below b
  replace bs := bs.below b
  clear bs0 bs1
  have bs0 := bs.c0
  have bs1 := bs.c1
  replace B := B.trans (b.mono B.size)
  clear b
  go_wp2
  generalize u5.alloc (.cells #[.slice fa 4 c1, .slice da 6 c2] 26) = v6 at *
  go_loopw [12] (fun i w' => ∃ j : Nat, j ≤ L.length ∧ i = .int .i64 j ∧ ∃ ga m1 da m2 lo hi BX KX, CsAt w' u5.heap.size [.slice ga 4 m1, .slice da 6 m2] ∧ InT w' lo hi (.slice ga 4 m1) (.slice da 6 m2) true BX KX ∧ Hid (stB BX KX = true ∧ readI BX KX A = readI BB KK A) ∧ ((u5.heap.size < lo ∨ hi ≤ u5.heap.size) ∧ u5.heap.size < w'.heap.size ∧ hi ≤ w'.heap.size) ∧ Below u5.heap.size u5 w') (fun i _ => L.length - (intOf i).toNat)
  case atStart => exact ⟨0, by omega, rfl, fa, c1, da, c2, _, _, _, _, cX, I0, hide ⟨unhide HST, rfl⟩, ⟨.inr hl0, hxs, Nat.le_trans hl0 (Nat.le_of_lt hxs)⟩, b0⟩
  case round =>
    clear cX I0 b0
    obtain ⟨j, hj, rfl, gx, m1, dx, m2, lo, hi, BX, KX, cX, I0, HX, hsep, bw⟩ := hrel
    clear hE
    have hE := (unhide hE9).below bw
    clear hs
    have hs := (unhide hs9).below bw
    clear bs0 bs1 bs bsu0 bsu1
    have bs := (unhide bs9).below bw
    have bs0 := bs.c0
    have bs1 := bs.c1
    clear B
    have B := (unhide B9).trans (bw.mono (unhide B9).size)
    have hso : SO _ gx dx BX KX := so_of I0 (unhide HX).1
    by_cases h0 : j = L.length
    · subst h0
      have hrd := (unhide HX).2
      have HR1 := hide (fun (w' : World) (h : SO w' gx dx BX KX) => iRdO (c1 := m1) (c2 := m2) A hA1 hA6 w' h)
      have HR2 := hide (fun (w' : World) (h : SO w' fa da BB KK) => iRdO (c1 := c1) (c2 := c2) A hA1 hA6 w' h)
      rw [hrd] at HR1
      clear hrd
      generalize readI BB KK A = rv at *
      go_upto_region 15 with fail
      refine wp_region_noPanic ?_
      refine wp_region_held_drew (S := fun w' => Kept [] wr w') (by kernel_rfl) (Kept.refl _ _).drew (fun hHeld => ?_)
      generalize wr.drew = y0 at *
      have z0 := hHeld.size
      refine takeL 0 (.agg #[.slice gx 4 m1, .slice dx 6 m2]) rfl (by kernel_rfl) (by kernel_rfl) (by kernel_rfl) (fun _ _ _ h => h) (yieldsIf_load_mid rfl 26 _ rfl u5.heap.size 0 rfl [.slice gx 4 m1, .slice dx 6 m2] _ (fun _ h => (cX.below (Kept.all h (by simp)) (CsAt.lt cX (by simp))).cells) Tryz.underlying26 rfl (unhide HSS)) hHeld ?_
      try simp only [Act.put, List.setIfInBounds_toArray, List.set_cons_zero, List.set_cons_succ]
      refine takeL 1 (.int .i64 A) rfl (by kernel_rfl) (by kernel_rfl) (by kernel_rfl) (fun _ _ _ h => h) (Or.inl ⟨rfl, fun _ _ => rfl⟩) hHeld ?_
      try simp only [Act.put, List.setIfInBounds_toArray, List.set_cons_zero, List.set_cons_succ]
      refine takeL 3 (.agg #[.slice fa 4 c1, .slice da 6 c2]) rfl (by kernel_rfl) (by kernel_rfl) (by kernel_rfl) (fun _ _ _ h => h) (yieldsIf_load_mid rfl 26 _ rfl bsb 0 rfl [.slice fa 4 c1, .slice da 6 c2] _ (fun _ h => rng2 (bs.below (Kept.all h (by simp)))) Tryz.underlying26 rfl (unhide HSS)) hHeld ?_
      try simp only [Act.put, List.setIfInBounds_toArray, List.set_cons_zero, List.set_cons_succ]
      refine takeL 4 (.int .i64 A) rfl (by kernel_rfl) (by kernel_rfl) (by kernel_rfl) (fun _ _ _ h => h) (Or.inl ⟨rfl, fun _ _ => rfl⟩) hHeld ?_
      try simp only [Act.put, List.setIfInBounds_toArray, List.set_cons_zero, List.set_cons_succ]
      refine oneL 2 rfl (by kernel_rfl) rfl (fun K hK => ?_)
      go_simp
      refine (unhide HR1 _ (hso.below (Kept.all hHeld (by simp)))).mono ?_
      rintro e y1 ⟨rfl, b⟩
      go_wp2_with fail
      refine hK.out _ _ (hHeld.trans (Kept.of b)) (fun hHeld => ?_)
      clear hK K
      try simp only [Act.put, List.setIfInBounds_toArray, List.set_cons_zero, List.set_cons_succ]
      have z1 := b.size
      clear b
      refine oneL 5 rfl (by kernel_rfl) rfl (fun K hK => ?_)
      go_simp
      refine (unhide HR2 _ (hs.below (Kept.all hHeld (by simp)))).mono ?_
      rintro e y2 ⟨rfl, b⟩
      go_wp2_with fail
      refine hK.out _ _ (hHeld.trans (Kept.of b)) (fun hHeld => ?_)
      clear hK K
      try simp only [Act.put, List.setIfInBounds_toArray, List.set_cons_zero, List.set_cons_succ]
      have z2 := b.size
      clear b
      refine takeL 6 (.bool true) rfl (by kernel_rfl) (by kernel_rfl) (by kernel_rfl) (fun _ _ _ h => h) (Or.inl ⟨rfl, fun w9 hSw => by go_simp⟩) hHeld ?_
      try simp only [Act.put, List.setIfInBounds_toArray, List.set_cons_zero, List.set_cons_succ]
      refine takeL 7 (.bool true) rfl (by kernel_rfl) (by kernel_rfl) (by kernel_rfl) (fun _ _ _ h => h) (Or.inl ⟨rfl, fun _ _ => rfl⟩) hHeld ?_
      try simp only [Act.put, List.setIfInBounds_toArray, List.set_cons_zero, List.set_cons_succ]
      refine wpAnyH_done (by kernel_rfl) ?_ _
      refine NoPanic.normal ?_
      have B2 := B.trans ((Kept.all hHeld (by simp)).mono B.size)
      clear hHeld
      go_wp2
      go_ret
      exact ⟨rfl, B2⟩
    · have hjl : j < L.length := by omega
      have hji : (j : Int) < (L.length : Int) := by omega
      have hj0 : (0 : Int) ≤ (j : Int) := by omega
      have hwj : IntKind.i64.wrap ((j : Int) + 1) = (j : Int) + 1 := by rw [IntKind.wrap_i64] <;> omega
      obtain ⟨eb, eo, rfl, rX0, lX0⟩ := (unhide hE9).at j hjl
      have rX := rangeAt_below rX0 bw lX0
      obtain ⟨v0, v1, v2, v3, v4⟩ := evC_cells rX
      have hx := unhide HEV _ (List.getElem_mem hjl)
      have lXw := Nat.lt_of_lt_of_le lX0 bw.size
      have lXx := lX0
      clear rX0
      have HTY := hide (fun (q : ¬ (L[j].k = 1 ∧ L[j].a = A)) => (show stB (doP BX KX L[j]).1 (doP BX KX L[j]).2 = true ∧ readI (doP BX KX L[j]).1 (doP BX KX L[j]).2 A = readI BB KK A from ⟨doP_st (unhide HX).1 _, by rw [Nr.stays (unhide HX).1 _ A hA1 hA6 q]; exact (unhide HX).2⟩))
      generalize L[j] = x at *
      by_cases h1 : x.k = 1
      · by_cases h2 : x.a = A
        · have hk1 : (x.k != 1) = false := by rw [h1]; rfl
          have hk2 : (x.a != A) = false := by rw [h2]; simp
          clear HTY rX v2 v3 v4 hs hE bs bs0 bs1 hso B
          go_wp2
          go_roundw
          case rel => exact ⟨j + 1, by omega, by first | rfl | go_num, gx, m1, dx, m2, lo, hi, BX, KX, cX, I0, HX, hsep, bw⟩
          case measure => simp [intOf]; omega
        · have hk1 : (x.k != 1) = false := by rw [h1]; rfl
          have hk2 : (x.a != A) = true := by simpa using h2
          have HX2 := hide (unhide HTY (fun q => h2 q.2))
          clear h1 HTY hs hE bs bs0 bs1 hso B
          go_upto_region 14 with fail
          refine wp_region_noPanic ?_
          refine wp_region_held_drew (S := fun w' => Kept [u5.heap.size] wr w') (by kernel_rfl) (Kept.refl _ _).drew (fun hHeld => ?_)
          replace cX := OrdL.ckept cX (L := []) (Kept.refl [] wr).drew (CsAt.lt cX (by first | (simp; done) | assumption)) (by simp)
          generalize wr.drew = y0 at *
          have z0 := hHeld.size
          refine takeL 1 (.slice (some ⟨eb, eo, none⟩) L.length ec) rfl (by kernel_rfl) (by kernel_rfl) (by kernel_rfl) (fun _ _ _ h => h) (Or.inl ⟨rfl, fun _ _ => rfl⟩) hHeld ?_
          try simp only [Act.put, List.setIfInBounds_toArray, List.set_cons_zero, List.set_cons_succ]
          refine takeL 2 (.int .i64 (j : Int)) rfl (by kernel_rfl) (by kernel_rfl) (by kernel_rfl) (fun _ _ _ h => h) (Or.inl ⟨rfl, fun _ _ => rfl⟩) hHeld ?_
          try simp only [Act.put, List.setIfInBounds_toArray, List.set_cons_zero, List.set_cons_succ]
          refine takeL 3 (.pointer (some ⟨eb, eo + j * 5, none⟩)) rfl (by kernel_rfl) (by kernel_rfl) (by kernel_rfl) (fun _ _ _ h => h) (Or.inl ⟨rfl, fun w9 hSw => by go_simp⟩) hHeld ?_
          try simp only [Act.put, List.setIfInBounds_toArray, List.set_cons_zero, List.set_cons_succ]
          refine takeL 4 (.agg #[.int .i64 x.k, .int .i64 x.a, .int .i64 x.b, .int .i64 x.c, .bool x.t]) rfl (by kernel_rfl) (by kernel_rfl) (by kernel_rfl) (fun _ _ _ h => h) (yieldsIf_load_mid rfl 42 _ rfl eb (eo + j * 5) rfl [.int .i64 x.k, .int .i64 x.a, .int .i64 x.b, .int .i64 x.c, .bool x.t] _ (fun _ h j9 v9 hv9 => (h.cell (b := eb) (eo + j * 5 + j9) (by omega) (by simp; omega)).trans (rX j9 v9 hv9)) Tryz.underlying42 rfl (unhide HSE)) hHeld ?_
          try simp only [Act.put, List.setIfInBounds_toArray, List.set_cons_zero, List.set_cons_succ]
          refine oneL 0 rfl (by kernel_rfl) rfl (fun K hK => ?_)
          have x0 := cX.cell 0 _ rfl
          have x1 := cX.cell 1 _ rfl
          go_simp
          refine hK.out _ _ hHeld (fun hHeld => ?_)
          clear hK K x0 x1
          try simp only [Act.put, List.setIfInBounds_toArray, List.set_cons_zero, List.set_cons_succ]
          refine oneL 5 rfl (by kernel_rfl) rfl (fun K hK => ?_)
          have I4 := InT.only I0 (OnlyG.kept hHeld) (fun z hz => by simp at hz; subst hz; exact hsep.1)
          go_simp
          refine (iDoI x hx _ (so_of I4 (unhide HX).1)).mono ?_
          rintro e y1 ⟨gy, n1, dy, n2, rfl, I5, b⟩
          go_wp2_with fail
          replace cX := cX.below b (CsAt.lt cX (by simp))
          refine hK.out _ _ (hHeld.trans (Kept.of b)) (fun hHeld => ?_)
          clear hK K I4
          try simp only [Act.put, List.setIfInBounds_toArray, List.set_cons_zero, List.set_cons_succ]
          have z1 := b.size
          clear b
          refine oneL 6 rfl (by kernel_rfl) rfl (fun K hK => ?_)
          have pcX := cX.put [.slice gy 4 n1, .slice dy 6 n2] rfl
          have kz := OrdL.kcells y1 u5.heap.size 0 [.slice gy 4 n1, .slice dy 6 n2]
          refine wp_store_mid 26 _ _ rfl u5.heap.size 0 [.slice gy 4 n1, .slice dy 6 n2].toArray rfl rfl cX.free (unhide HSS) (by kernel_rfl) ?_
          refine hK.out _ _ (hHeld.then kz (fun y hy => by simp at hy; subst hy; first | (left; simp; done) | (right; omega))) (fun hHeld => ?_)
          clear hK K
          try simp only [Act.put, List.setIfInBounds_toArray, List.set_cons_zero, List.set_cons_succ]
          have zk := kz.size
          replace I5 := InT.only I5 (OnlyG.kept kz) (fun z hz => .inl (by simp at hz; omega))
          clear cX kz
          generalize y1.setCells u5.heap.size 0 [.slice gy 4 n1, .slice dy 6 n2] = y2 at *
          have cX := pcX
          clear pcX
          refine wpAnyH_done (by kernel_rfl) ?_ _
          refine NoPanic.normal ?_
          have bw2 := bw.trans (Kept.below hHeld (B := u5.heap.size) (fun z hz => by simp at hz; subst hz; exact Nat.le_refl _) (by have := bw.size; omega))
          have hz9 := hHeld.size
          clear hHeld bw 
          go_wp2
          go_roundw
          case rel => exact ⟨j + 1, by omega, by first | rfl | go_num, gy, n1, dy, n2, _, _, _, _, cX, I5, HX2, ⟨by left; omega, by omega, by omega⟩, bw2⟩
          case measure => simp [intOf]; omega
      · have hk1 : (x.k != 1) = true := by simpa using h1
        have HX2 := hide (unhide HTY (fun q => h1 q.1))
        clear h1 HTY hs hE bs bs0 bs1 hso B
        go_upto_region 14 with fail
        refine wp_region_noPanic ?_
        refine wp_region_held_drew (S := fun w' => Kept [u5.heap.size] wr w') (by kernel_rfl) (Kept.refl _ _).drew (fun hHeld => ?_)
        replace cX := OrdL.ckept cX (L := []) (Kept.refl [] wr).drew (CsAt.lt cX (by first | (simp; done) | assumption)) (by simp)
        generalize wr.drew = y0 at *
        have z0 := hHeld.size
        refine takeL 1 (.slice (some ⟨eb, eo, none⟩) L.length ec) rfl (by kernel_rfl) (by kernel_rfl) (by kernel_rfl) (fun _ _ _ h => h) (Or.inl ⟨rfl, fun _ _ => rfl⟩) hHeld ?_
        try simp only [Act.put, List.setIfInBounds_toArray, List.set_cons_zero, List.set_cons_succ]
        refine takeL 2 (.int .i64 (j : Int)) rfl (by kernel_rfl) (by kernel_rfl) (by kernel_rfl) (fun _ _ _ h => h) (Or.inl ⟨rfl, fun _ _ => rfl⟩) hHeld ?_
        try simp only [Act.put, List.setIfInBounds_toArray, List.set_cons_zero, List.set_cons_succ]
        refine takeL 3 (.pointer (some ⟨eb, eo + j * 5, none⟩)) rfl (by kernel_rfl) (by kernel_rfl) (by kernel_rfl) (fun _ _ _ h => h) (Or.inl ⟨rfl, fun w9 hSw => by go_simp⟩) hHeld ?_
        try simp only [Act.put, List.setIfInBounds_toArray, List.set_cons_zero, List.set_cons_succ]
        refine takeL 4 (.agg #[.int .i64 x.k, .int .i64 x.a, .int .i64 x.b, .int .i64 x.c, .bool x.t]) rfl (by kernel_rfl) (by kernel_rfl) (by kernel_rfl) (fun _ _ _ h => h) (yieldsIf_load_mid rfl 42 _ rfl eb (eo + j * 5) rfl [.int .i64 x.k, .int .i64 x.a, .int .i64 x.b, .int .i64 x.c, .bool x.t] _ (fun _ h j9 v9 hv9 => (h.cell (b := eb) (eo + j * 5 + j9) (by omega) (by simp; omega)).trans (rX j9 v9 hv9)) Tryz.underlying42 rfl (unhide HSE)) hHeld ?_
        try simp only [Act.put, List.setIfInBounds_toArray, List.set_cons_zero, List.set_cons_succ]
        refine oneL 0 rfl (by kernel_rfl) rfl (fun K hK => ?_)
        have x0 := cX.cell 0 _ rfl
        have x1 := cX.cell 1 _ rfl
        go_simp
        refine hK.out _ _ hHeld (fun hHeld => ?_)
        clear hK K x0 x1
        try simp only [Act.put, List.setIfInBounds_toArray, List.set_cons_zero, List.set_cons_succ]
        refine oneL 5 rfl (by kernel_rfl) rfl (fun K hK => ?_)
        have I4 := InT.only I0 (OnlyG.kept hHeld) (fun z hz => by simp at hz; subst hz; exact hsep.1)
        go_simp
        refine (iDoI x hx _ (so_of I4 (unhide HX).1)).mono ?_
        rintro e y1 ⟨gy, n1, dy, n2, rfl, I5, b⟩
        go_wp2_with fail
        replace cX := cX.below b (CsAt.lt cX (by simp))
        refine hK.out _ _ (hHeld.trans (Kept.of b)) (fun hHeld => ?_)
        clear hK K I4
        try simp only [Act.put, List.setIfInBounds_toArray, List.set_cons_zero, List.set_cons_succ]
        have z1 := b.size
        clear b
        refine oneL 6 rfl (by kernel_rfl) rfl (fun K hK => ?_)
        have pcX := cX.put [.slice gy 4 n1, .slice dy 6 n2] rfl
        have kz := OrdL.kcells y1 u5.heap.size 0 [.slice gy 4 n1, .slice dy 6 n2]
        refine wp_store_mid 26 _ _ rfl u5.heap.size 0 [.slice gy 4 n1, .slice dy 6 n2].toArray rfl rfl cX.free (unhide HSS) (by kernel_rfl) ?_
        refine hK.out _ _ (hHeld.then kz (fun y hy => by simp at hy; subst hy; first | (left; simp; done) | (right; omega))) (fun hHeld => ?_)
        clear hK K
        try simp only [Act.put, List.setIfInBounds_toArray, List.set_cons_zero, List.set_cons_succ]
        have zk := kz.size
        replace I5 := InT.only I5 (OnlyG.kept kz) (fun z hz => .inl (by simp at hz; omega))
        clear cX kz
        generalize y1.setCells u5.heap.size 0 [.slice gy 4 n1, .slice dy 6 n2] = y2 at *
        have cX := pcX
        clear pcX
        refine wpAnyH_done (by kernel_rfl) ?_ _
        refine NoPanic.normal ?_
        have bw2 := bw.trans (Kept.below hHeld (B := u5.heap.size) (fun z hz => by simp at hz; subst hz; exact Nat.le_refl _) (by have := bw.size; omega))
        have hz9 := hHeld.size
        clear hHeld bw 
        go_wp2
        go_roundw
        case rel => exact ⟨j + 1, by omega, by first | rfl | go_num, gy, n1, dy, n2, _, _, _, _, cX, I5, HX2, ⟨by left; omega, by omega, by omega⟩, bw2⟩
        case measure => simp [intOf]; omega


set_option maxRecDepth 100000 in
theorem lifted (os : Os) (started : os.Started) (H : Type) (enc : TypeId × Value → H) :
    ReturnsInHanded {} Tryz.checked os 9 .any (Rows.fnRunStaysSpec.pre6 enc Tryz.prog Tryz.f9 Rows.fnRunStaysRow.domain false) (Rows.fnRunStaysSpec.post enc Tryz.prog Tryz.f9 false true false false) := by
  refine returnsInHanded_of_change (C := Tryz.checked) own started (by kernel_rfl) Tryz.func9
    (ChangeSpec.witness6 (enc := enc) (C := Tryz.checked) false ⟨#[], #[.slice none 0 0, .slice none 0 0], []⟩ 8 (by kernel_rfl) (by kernel_rfl) (by kernel_rfl) (by kernel_rfl)) ?_
  intro W base args ds gs before hval0 hW hcnd _
  have hval : ∀ (j : Nat) t v, Tryz.f9.params[j]? = some t → args[j]? = some v → Value.okWide Tryz.prog W .any base t v := hval0
  have hW' := hW
  obtain ⟨p, q, hA0, hV, rfl, hfz, hnd⟩ := hW
  have hA : DataW.TrodAll enc Tryz.prog W 0 (fun _ => true) true Tryz.f9.params.toList args.toList ds p := hA0
  rw [Tryz.params9] at hA hval
  obtain ⟨v0, vs0, d0, ds0, p0, q0, hargs, rfl, rfl, h0, r0⟩ := trodAll_cons hA
  obtain ⟨v1, vs1, d1, ds1, p1, q1, rfl, rfl, rfl, h1, r1⟩ := trodAll_cons r0
  obtain ⟨rfl, rfl, rfl⟩ := trodAll_nil r1
  obtain rfl : args = #[v0, v1] := by cases args; simp_all
  obtain ⟨rfl, rfl⟩ := trodVars_none hV
  have kk0 := h0
  have lt0 : ∀ x ∈ p0, x.block < W.heap.size := by obtain ⟨m, hm⟩ := kk0; exact DataW.trod_lt m _ _ _ hm
  obtain ⟨a0, len0, cap0, rfl⟩ := okWide_slice Tryz.underlying22 (hval 0 22 v0 rfl rfl)
  obtain ⟨z0, w0⟩ : ∃ zs, IsRow .u8 W a0 len0 cap0 zs := by
    obtain ⟨fuel, hf⟩ := h0
    rcases open_ints Tryz.underlying22 Tryz.underlying5 (by kernel_rfl) hf with ⟨hcs, _⟩ | ⟨x, l, c, zs, hcs, _, hl, hm, hz, _, hcell, hwz⟩
    · simp [Value.cells] at hcs
      obtain ⟨rfl, rfl, rfl⟩ := hcs
      exact ⟨[], .inl ⟨rfl, rfl, rfl, rfl⟩⟩
    · simp [Value.cells] at hcs
      obtain ⟨rfl, rfl, rfl⟩ := hcs
      exact ⟨zs, .inr ⟨_, rfl, hl, hm, by simpa using hz, hcell, hwz⟩⟩
  have kk1 := h1
  have lt1 : ∀ x ∈ p1, x.block < W.heap.size := by obtain ⟨m, hm⟩ := kk1; exact DataW.trod_lt m _ _ _ hm
  obtain ⟨a1, len1, cap1, rfl⟩ := okWide_slice Tryz.underlying22 (hval 1 22 v1 rfl rfl)
  obtain ⟨z1, w1⟩ : ∃ zs, IsRow .u8 W a1 len1 cap1 zs := by
    obtain ⟨fuel, hf⟩ := h1
    rcases open_ints Tryz.underlying22 Tryz.underlying5 (by kernel_rfl) hf with ⟨hcs, _⟩ | ⟨x, l, c, zs, hcs, _, hl, hm, hz, _, hcell, hwz⟩
    · simp [Value.cells] at hcs
      obtain ⟨rfl, rfl, rfl⟩ := hcs
      exact ⟨[], .inl ⟨rfl, rfl, rfl, rfl⟩⟩
    · simp [Value.cells] at hcs
      obtain ⟨rfl, rfl, rfl⟩ := hcs
      exact ⟨zs, .inr ⟨_, rfl, hl, hm, by simpa using hz, hcell, hwz⟩⟩
  clear hA0
  refine (walk a0 len0 cap0 z0 a1 len1 cap1 z1 W w0 w1).mono fun e W' ⟨he, bel⟩ => ?_
  subst he
  exact ⟨_, rfl, _, _, _, [], _, [], hW', trodAll_mk1 (shut_bool Tryz.underlying4 _), (trodAll_cons_mk (Below.trod laidOut (by kernel_rfl) (of_decide_eq_true (by kernel_rfl)) kk0 bel lt0) (trodAll_cons_mk (Below.trod laidOut (by kernel_rfl) (of_decide_eq_true (by kernel_rfl)) kk1 bel lt1) trodAll_mk0)), rfl, bel.frame _, fun h => by cases h⟩

set_option maxRecDepth 100000 in
theorem facts : joinedFacts Tryz.prog 9 Tryz.f9 Rows.fnRunStaysSpec Rows.fnRunStaysRow = true := by
  unfold joinedFacts
  refine Facts.and_t ?_ (by as_aux_lemma => kernel_rfl)
  refine Facts.and_t ?_ (by as_aux_lemma => kernel_rfl)
  refine Facts.and_t ?_ (by as_aux_lemma => kernel_rfl)
  refine Facts.and_t ?_ (by as_aux_lemma => kernel_rfl)
  refine Facts.and_t ?_ (by show (Tryz.prog.make == some Make.cut) = true; rw [Facts.made]; rfl)
  refine Facts.and_t ?_ (by show (false == Tryz.prog.liftsFinal) = true; rw [Facts.lifts]; rfl)
  refine Facts.and_t ?_ (Facts.enters)
  refine Facts.and_t ?_ (Facts.heard)
  refine Facts.and_t ?_ (rfl)
  refine Facts.and_t ?_ (by show (true == Tryz.prog.plainKeys) = true; rw [Facts.keys]; rfl)
  refine Facts.and_t ?_ (by as_aux_lemma => kernel_rfl)
  refine Facts.and_t ?_ (by as_aux_lemma => kernel_rfl)
  refine Facts.and_t ?_ (by as_aux_lemma => kernel_rfl)
  refine Facts.and_t ?_ (by as_aux_lemma => kernel_rfl)
  refine Facts.and_t ?_ (by as_aux_lemma => kernel_rfl)
  refine Facts.and_t ?_ (by as_aux_lemma => kernel_rfl)
  refine Facts.and_t ?_ (by as_aux_lemma => kernel_rfl)
  refine Facts.and_t ?_ (by as_aux_lemma => kernel_rfl)
  refine Facts.and_t ?_ (by as_aux_lemma => kernel_rfl)
  refine Facts.and_t ?_ (by as_aux_lemma => kernel_rfl)
  refine Facts.and_t ?_ (by as_aux_lemma => kernel_rfl)
  refine Facts.and_t ?_ (by as_aux_lemma => kernel_rfl)
  refine Facts.and_t ?_ (by as_aux_lemma => kernel_rfl)
  refine Facts.and_t ?_ (by as_aux_lemma => kernel_rfl)
  refine Facts.and_t ?_ (by as_aux_lemma => kernel_rfl)
  refine Facts.and_t ?_ (by as_aux_lemma => kernel_rfl)
  refine Facts.and_t ?_ (by as_aux_lemma => kernel_rfl)
  refine Facts.and_t ?_ (by as_aux_lemma => kernel_rfl)
  refine Facts.and_t ?_ (by as_aux_lemma => kernel_rfl)
  refine Facts.and_t ?_ (Facts.rowed)
  refine Facts.and_t ?_ (Facts.laidOut)
  kernel_rfl

theorem over : Rows.fnRunStaysRow.holds Tryz.pinned (OpenSpec.ofChange Rows.fnRunStaysSpec) :=
  OpenClaim.holds_of_wide 9 Tryz.f9 rfl rfl rfl rfl rfl rfl rfl ⟨rfl, rfl, rfl, rfl, rfl⟩ rfl rfl rfl rfl rfl (by kernel_rfl) Tryz.func9 facts
    (of_decide_eq_true (by kernel_rfl)) (by unfold Func.isWrapper; first | (rw [if_pos (by decide +kernel)]; kernel_rfl) | (rw [if_neg (by decide +kernel)]; exact ⟨rfl, rfl⟩))
    (fun os started H enc _ => (lifted os started H enc))

end Go.Proofs.YtbiokmojjneleaaGreat.RunStays
namespace Go.Proofs.YtbiokmojjneleaaGreat
theorem fnRunStays_holds : Rows.FnRunStaysSaid := RunStays.over
end Go.Proofs.YtbiokmojjneleaaGreat
