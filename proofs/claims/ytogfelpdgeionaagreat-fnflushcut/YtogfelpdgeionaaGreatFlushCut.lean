/-
  Wherever it falls no value changes: so none does in a drawn store. The given statement, with no condition.
-/
import Derived.Test.YtogfelpdgeionaaGreatHbV
import Derived.Test.YtogfelpdgeionaaGreatHbR
import Derived.Test.YtogfelpdgeionaaGreatHbY
import Derived.Test.YtogfelpdgeionaaGreatHbZ
import Derived.Test.YtogfelpdgeionaaGreatHbS
import Derived.Test.YtogfelpdgeionaaGreatHaT
import Derived.Test.YtogfelpdgeionaaGreatFacts
import Derived.Lib.SmallJoins
namespace Go.Proofs.YtogfelpdgeionaaGreat.FlushCut
open Go.ChangeShapes Go.WideShapes Go.ChangeAt Go.RowKit Go.Shelf Go.Joins OkA Big Fl ImplB ImplF ImplS ImplT ImplU SpecA SpecB SpecC SpecD SpecW SpecX SpecF SpecG SpecH FindP FindN FindO FindD ImplW ImplX Pick Draw ClA DrB PlB Pl FindL StA StB StC StD StE StF StG SpS SpT DrS Sv LqI Pw Pv Py DrG RmA WrA FlA PlA SpU ToA SpecH DoA QuE LawT MkN Ct Cu Ps Pz Px NwA LqI Sn9 ImplL Kp DoA
open FlB (FsN)
open StN (SN)
open Facts (own laidOut)
set_option linter.unusedVariables false
set_option linter.unusedSimpArgs false
attribute [local go_sem ↓] Go.wp_at_zero Go.wp_at_succ

set_option maxRecDepth 100000 in
set_option maxHeartbeats 8000000 in
theorem walk (a0 : Option Addr) (len0 cap0 : Nat) (z0 : List Int) (a1 : Option Addr) (len1 cap1 : Nat) (z1 : List Int) (w : World) (h0 : IsRow .u8 w a0 len0 cap0 z0) (h1 : IsRow .u8 w a1 len1 cap1 z1) :
    Calls Tryz.prog 6 #[.slice a0 len0 cap0, .slice a1 len1 cap1] w fun e w' => e = .returned (.bool true) ∧ Below w.heap.size w w' := by
  have HD := hide (drawFlush_any w a0 len0 cap0 z0 h0)
  clear h0
  clear h1
  go_enter Tryz.func6, Tryz.ntmps6
  by_cases hbig0 : 1048576 < (len0 : Int)
  · go_wp2
    go_ret
    exact ⟨rfl, Below.refl _ _⟩
  by_cases hbig1 : 1048576 < (len1 : Int)
  · go_wp2
    go_ret
    exact ⟨rfl, Below.refl _ _⟩
  go_wp2_with fail
  refine (unhide HD).mono ?_
  rintro e w1 ⟨g, o, c, bs, d, z, dc, dk, k, rfl, S1, k0, k1, B⟩
  have h4 := S1.fs.four
  have h6 := S1.six
  have hp4 := hide S1.fs.pgs
  have hs := S1.at
  clear HD S1
  generalize (some ⟨g, o, none⟩ : Option Addr) = fa at *
  generalize (some ⟨d, z, none⟩ : Option Addr) = da at *
  have bA : Below w1.heap.size w1 (w1.alloc (.cells #[.slice fa bs.length c, .slice da dk.length dc] 26)) := (Below.refl _ _).alloc (Nat.le_refl _) _
  have bx := Bx.new w1 (.slice fa bs.length c) (.slice da dk.length dc) 26
  replace hs := hs.below bA
  replace B := B.trans (bA.mono B.size)
  clear bA
  have y0 := bx.c0
  have y1 := bx.c1
  have HIF := hide (fun (w' : World) (h : SAt w' fa bs da dk) => iFlush (fc := c) (dc := dc) k (by omega) (by omega) w' h h4 h6)
  have HSF := hide (fun (w' : World) (h : SAt w' fa bs da dk) => sFlush k (fc := c) (dc := dc)  w' h h4 h6 (unhide hp4))
  have HSS := hide (show (Tryz.prog.info? 26).map (·.size) = some 2 by kernel_rfl)
  have HFE := hide (fun (hne : flushS bs dk k ≠ []) => flush_e hne)
  have HL6 := hide (flush_len (bs := bs) (dk := dk) k)
  have HSM := hide (fun (h : FlushE bs dk k) => h.part)
  have HTK := hide (fun (h : FlushE bs dk k) => h.tk)
  have HTO := hide (fun (ct : Int) (tt : Bool) (h0 : 0 ≤ ct) (h1 : ct ≤ 1048576) (hok : toOk bs dk (flushS bs dk k) ct = true) (w' : World) (sa : Option Addr) (sc : Nat) (h : SAt w' fa bs da dk) (hl : StAt w' sa (flushS bs dk k)) => iToI (fc := c) (dc := dc) (sc := sc) ct tt w' h h4 h6 hl (by have := unhide HL6; omega) h0 h1 hok)
  have HIA := hide (fun (w' : World) (h : SAt w' fa bs da dk) => iAll2 (fc := c) (dc := dc) w' h h4 h6)
  generalize flushS bs dk k = L at *
  go_wp2_with fail
  generalize w1.alloc (.cells #[.slice fa bs.length c, .slice da dk.length dc] 26) = w2 at *
  generalize w1.heap.size = sb at *
  refine (unhide HIF _ hs).mono ?_
  rintro e u5 ⟨la, lc, rfl, l, b⟩
  replace hs := hs.below b
  replace bx := bx.below b
  clear y0 y1
  have y0 := bx.c0
  have y1 := bx.c1
  replace B := B.trans (b.mono B.size)
  clear b
  go_wp2_with fail
  refine (unhide HSF _ hs).mono ?_
  rintro e u6 ⟨ma, mc, rfl, m, b⟩
  replace hs := hs.below b
  replace l := l.below b
  replace bx := bx.below b
  clear y0 y1
  have y0 := bx.c0
  have y1 := bx.c1
  replace B := B.trans (b.mono B.size)
  clear b
  clear m
  by_cases hL0 : L.length = 0
  · have hLi : (L.length : Int) = 0 := by omega
    go_wp2_with fail
    refine (unhide HSF _ hs).mono ?_
    rintro e u7 ⟨ma, mc, rfl, m, b⟩
    replace hs := hs.below b
    replace l := l.below b
    replace bx := bx.below b
    clear y0 y1
    have y0 := bx.c0
    have y1 := bx.c1
    replace B := B.trans (b.mono B.size)
    clear b
    go_wp2
    go_ret
    exact ⟨rfl, B⟩
  have hL6 := unhide HL6
  have hLn : ((L.length : Int) = 0) = False := eq_false (by omega)
  have hne : L ≠ [] := fun q => hL0 (by rw [q]; rfl)
  obtain ⟨ct, hct1, hct2, hct0, hctl⟩ : ∃ ct : Int, (len1 : Int).tmod ((L.length : Int) + 1) = ct ∧ (len1 : Int) % ((L.length : Int) + 1) = ct ∧ 0 ≤ ct ∧ ct < ((L.length : Int) + 1) := ⟨(len1 : Int) % ((L.length : Int) + 1), by rw [Int.tmod_eq_emod_of_nonneg (by omega)], rfl, Int.emod_nonneg _ (by omega), Int.emod_lt_of_pos _ (by omega)⟩
  obtain ⟨m2, hm1, hm2⟩ : ∃ m : Int, (len1 : Int).tmod 2 = m ∧ (len1 : Int) % 2 = m := ⟨(len1 : Int) % 2, by rw [Int.tmod_eq_emod_of_nonneg (by omega)], rfl⟩
  obtain ⟨tt, htt⟩ : ∃ t : Bool, (m2 == 0) = t := ⟨_, rfl⟩
  have hL1n : ((L.length : Int) + 1 = 0) = False := eq_false (by omega)
  have hwl : IntKind.i64.wrap ((L.length : Int) + 1) = (L.length : Int) + 1 := by rw [IntKind.wrap_i64] <;> omega
  have hFE := unhide HFE hne
  have hS0 := hFE.hs
  have hSM := unhide HSM hFE ct tt hct0
  have HTO2 := hide (unhide HTO ct tt hct0 (by omega) (unhide HTK hFE ct hct0))
  clear HTO HSM HTK HFE hFE
  have HTO := HTO2
  clear HTO2 HSF HIF HL6
  generalize toB bs L ct tt = XL at *
  generalize toK dk L ct tt = XK at *
  have hXl : XL.length ≤ 4 := by have := ok_len (st_parts hSM.1).1; omega
  have hXk : XK.length ≤ 6 := by have := (st_parts hSM.1).2; omega
  have HXO := hide (fun (w' : World) (xa xd : Option Addr) (xc xe : Nat) (h : SAt w' xa XL xd XK) => iOk (fc := xc) (dc := xe) w' h hXl hXk)
  rw [hSM.1] at HXO
  have HXA := hide (fun (w' : World) (xa xd : Option Addr) (xc xe : Nat) (h : SAt w' xa XL xd XK) => iAll2 (fc := xc) (dc := xe) w' h hXl hXk)
  rw [hSM.al hS0] at HXA
  have HQ := hide (fun (a1 a2 : Option Addr) (c1 c2 : Nat) (w' : World) (h1 : DkAt w' a1 (alS bs dk)) (h2 : DkAt w' a2 (alS bs dk)) => lqSame a1 a2 c1 c2 (alS bs dk) w' h1 h2 al_le)
  clear hSM
  generalize alS bs dk = LL at *
  go_upto_region 7 with fail
  apply OrdM.join5 (F := fun (xa : Option Addr) (xd : Option Addr) (xc : Nat) (xe : Nat) (A : Nat) w' => Kept [] u6 w' ∧ CsAt w' A [.slice xa XL.length xc, .slice xd XK.length xe] ∧ SAt w' xa XL xd XK)
  case h =>
    refine wp_region_noPanic ?_
    refine wp_region_held_drew (S := fun w' => Kept [] u6 w') (by kernel_rfl) (Kept.refl _ _).drew (fun hHeld => ?_)
    generalize u6.drew = y0 at *
    have z0 := hHeld.size
    refine takeL 0 (.agg #[.slice fa bs.length c, .slice da dk.length dc]) rfl (by kernel_rfl) (by kernel_rfl) (by kernel_rfl) (fun _ _ _ h => h) (yieldsIf_load_mid rfl 26 _ rfl sb 0 rfl [.slice fa bs.length c, .slice da dk.length dc] _ (fun _ h => rng2 (bx.below (Kept.all h (by simp)))) Tryz.underlying26 rfl (unhide HSS)) hHeld ?_
    try simp only [Act.put, List.setIfInBounds_toArray, List.set_cons_zero, List.set_cons_succ]
    refine takeL 1 (.slice la L.length lc) rfl (by kernel_rfl) (by kernel_rfl) (by kernel_rfl) (fun _ _ _ h => h) (Or.inl ⟨rfl, fun _ _ => rfl⟩) hHeld ?_
    try simp only [Act.put, List.setIfInBounds_toArray, List.set_cons_zero, List.set_cons_succ]
    refine takeL 2 (.slice a1 len1 cap1) rfl (by kernel_rfl) (by kernel_rfl) (by kernel_rfl) (fun _ _ _ h => h) (Or.inl ⟨rfl, fun _ _ => rfl⟩) hHeld ?_
    try simp only [Act.put, List.setIfInBounds_toArray, List.set_cons_zero, List.set_cons_succ]
    refine takeL 3 (.int .i64 (len1 : Int)) rfl (by kernel_rfl) (by kernel_rfl) (by kernel_rfl) (fun _ _ _ h => h) (Or.inl ⟨rfl, fun w9 hSw => by go_simp⟩) hHeld ?_
    try simp only [Act.put, List.setIfInBounds_toArray, List.set_cons_zero, List.set_cons_succ]
    refine takeL 4 (.slice la L.length lc) rfl (by kernel_rfl) (by kernel_rfl) (by kernel_rfl) (fun _ _ _ h => h) (Or.inl ⟨rfl, fun _ _ => rfl⟩) hHeld ?_
    try simp only [Act.put, List.setIfInBounds_toArray, List.set_cons_zero, List.set_cons_succ]
    refine takeL 5 (.int .i64 (L.length : Int)) rfl (by kernel_rfl) (by kernel_rfl) (by kernel_rfl) (fun _ _ _ h => h) (Or.inl ⟨rfl, fun w9 hSw => by go_simp⟩) hHeld ?_
    try simp only [Act.put, List.setIfInBounds_toArray, List.set_cons_zero, List.set_cons_succ]
    refine takeL 6 (.int .i64 ((L.length : Int) + 1)) rfl (by kernel_rfl) (by kernel_rfl) (by kernel_rfl) (fun _ _ _ h => h) (Or.inl ⟨rfl, fun w9 hSw => by go_simp⟩) hHeld ?_
    try simp only [Act.put, List.setIfInBounds_toArray, List.set_cons_zero, List.set_cons_succ]
    refine takeL 7 (.int .i64 ct) rfl (by kernel_rfl) (by kernel_rfl) (by kernel_rfl) (fun _ _ _ h => h) (Or.inl ⟨rfl, fun w9 hSw => by go_simp⟩) hHeld ?_
    try simp only [Act.put, List.setIfInBounds_toArray, List.set_cons_zero, List.set_cons_succ]
    refine takeL 8 (.slice a1 len1 cap1) rfl (by kernel_rfl) (by kernel_rfl) (by kernel_rfl) (fun _ _ _ h => h) (Or.inl ⟨rfl, fun _ _ => rfl⟩) hHeld ?_
    try simp only [Act.put, List.setIfInBounds_toArray, List.set_cons_zero, List.set_cons_succ]
    refine takeL 9 (.int .i64 (len1 : Int)) rfl (by kernel_rfl) (by kernel_rfl) (by kernel_rfl) (fun _ _ _ h => h) (Or.inl ⟨rfl, fun w9 hSw => by go_simp⟩) hHeld ?_
    try simp only [Act.put, List.setIfInBounds_toArray, List.set_cons_zero, List.set_cons_succ]
    refine takeL 10 (.int .i64 m2) rfl (by kernel_rfl) (by kernel_rfl) (by kernel_rfl) (fun _ _ _ h => h) (Or.inl ⟨rfl, fun w9 hSw => by go_simp⟩) hHeld ?_
    try simp only [Act.put, List.setIfInBounds_toArray, List.set_cons_zero, List.set_cons_succ]
    refine takeL 11 (.bool tt) rfl (by kernel_rfl) (by kernel_rfl) (by kernel_rfl) (fun _ _ _ h => h) (Or.inl ⟨rfl, fun w9 hSw => by go_simp⟩) hHeld ?_
    try simp only [Act.put, List.setIfInBounds_toArray, List.set_cons_zero, List.set_cons_succ]
    refine OrdL.twoL 12 16 rfl rfl (by kernel_rfl) rfl rfl  (fun K hK => ?_) (fun K hK => ?_) 
    · go_simp
      refine (unhide HTO _ _ _ (hs.below (Kept.all hHeld (by simp))) (l.below (Kept.all hHeld (by simp)))).mono ?_
      rintro e y1 ⟨xa, xc, xd, xe, rfl, hX, b⟩
      go_wp2_with fail
      refine hK.out _ _ (hHeld.trans (Kept.of b)) (fun hHeld => ?_)
      clear hK K
      try simp only [Act.put, List.setIfInBounds_toArray, List.set_cons_zero, List.set_cons_succ]
      have z1 := b.size
      clear b
      refine takeL 13 (.tuple #[.agg #[.slice xa XL.length xc, .slice xd XK.length xe], .bool true]) rfl (by kernel_rfl) (by kernel_rfl) (by kernel_rfl) (fun _ _ _ h => h) (Or.inl ⟨rfl, fun _ _ => rfl⟩) hHeld ?_
      try simp only [Act.put, List.setIfInBounds_toArray, List.set_cons_zero, List.set_cons_succ]
      refine takeL 14 (.agg #[.slice xa XL.length xc, .slice xd XK.length xe]) rfl (by kernel_rfl) (by kernel_rfl) (by kernel_rfl) (fun _ _ _ h => h) (Or.inl ⟨rfl, fun w9 hSw => by go_simp⟩) hHeld ?_
      try simp only [Act.put, List.setIfInBounds_toArray, List.set_cons_zero, List.set_cons_succ]
      refine takeL 15 (.bool true) rfl (by kernel_rfl) (by kernel_rfl) (by kernel_rfl) (fun _ _ _ h => h) (Or.inl ⟨rfl, fun w9 hSw => by go_simp⟩) hHeld ?_
      try simp only [Act.put, List.setIfInBounds_toArray, List.set_cons_zero, List.set_cons_succ]
      refine oneL 16 rfl (by kernel_rfl) rfl (fun K hK => ?_)
      go_simp
      have b : Below y1.heap.size y1 (y1.alloc (.cells #[.slice none 0 0, .slice none 0 0] 26)) := (Below.refl _ _).alloc (Nat.le_refl _) _
      have cN := CsAt.new y1 [.slice none 0 0, .slice none 0 0] 26
      have lcN := hHeld.size
      replace hX := hX.below b
      refine hK.out _ _ (hHeld.trans (Kept.of b)) (fun hHeld => ?_)
      clear hK K
      try simp only [Act.put, List.setIfInBounds_toArray, List.set_cons_zero, List.set_cons_succ]
      have z2 := b.size
      generalize y1.alloc (.cells #[.slice none 0 0, .slice none 0 0] 26) = y2 at *
      generalize y1.heap.size = A at *
      clear b
      have qcN := CsAt.lt cN (by simp)
      refine oneL 17 rfl (by kernel_rfl) rfl (fun K hK => ?_)
      have pcN := cN.put [.slice xa XL.length xc, .slice xd XK.length xe] rfl
      have kz := OrdL.kcells y2 A 0 [.slice xa XL.length xc, .slice xd XK.length xe]
      refine wp_store_mid 26 _ _ rfl A 0 [.slice xa XL.length xc, .slice xd XK.length xe].toArray rfl rfl cN.free (unhide HSS) (by kernel_rfl) ?_
      refine hK.out _ _ (hHeld.then kz (fun y hy => by simp at hy; subst hy; first | (left; simp; done) | (right; omega))) (fun hHeld => ?_)
      clear hK K
      try simp only [Act.put, List.setIfInBounds_toArray, List.set_cons_zero, List.set_cons_succ]
      replace hX := hX.only (OnlyG.kept kz) (fun z hz => by simp at hz; subst hz; omega)
      clear cN kz
      generalize y2.setCells A 0 [.slice xa XL.length xc, .slice xd XK.length xe] = y3 at *
      have cN := pcN
      clear pcN
      refine takeL 18 (.bool true) rfl (by kernel_rfl) (by kernel_rfl) (by kernel_rfl) (fun _ _ _ h => h) (Or.inl ⟨rfl, fun _ _ => rfl⟩) hHeld ?_
      try simp only [Act.put, List.setIfInBounds_toArray, List.set_cons_zero, List.set_cons_succ]
      refine wpAnyH_done (by kernel_rfl) ?_ _
      refine NoPanic.normal ?_
      exact ⟨rfl, xa, xd, xc, xe, A, rfl, hHeld, cN, sat_of hX⟩
    · go_simp
      have b : Below y0.heap.size y0 (y0.alloc (.cells #[.slice none 0 0, .slice none 0 0] 26)) := (Below.refl _ _).alloc (Nat.le_refl _) _
      have cN := CsAt.new y0 [.slice none 0 0, .slice none 0 0] 26
      have lcN := hHeld.size
      refine hK.out _ _ (hHeld.trans (Kept.of b)) (fun hHeld => ?_)
      clear hK K
      try simp only [Act.put, List.setIfInBounds_toArray, List.set_cons_zero, List.set_cons_succ]
      have z1 := b.size
      generalize y0.alloc (.cells #[.slice none 0 0, .slice none 0 0] 26) = y1 at *
      generalize y0.heap.size = A at *
      clear b
      have qcN := CsAt.lt cN (by simp)
      refine oneL 12 rfl (by kernel_rfl) rfl (fun K hK => ?_)
      go_simp
      refine (unhide HTO _ _ _ (hs.below (Kept.all hHeld (by simp))) (l.below (Kept.all hHeld (by simp)))).mono ?_
      rintro e y2 ⟨xa, xc, xd, xe, rfl, hX, b⟩
      go_wp2_with fail
      replace cN := CsAt.below cN b (CsAt.lt cN (by simp))
      refine hK.out _ _ (hHeld.trans (Kept.of b)) (fun hHeld => ?_)
      clear hK K
      try simp only [Act.put, List.setIfInBounds_toArray, List.set_cons_zero, List.set_cons_succ]
      have z2 := b.size
      clear b
      refine takeL 13 (.tuple #[.agg #[.slice xa XL.length xc, .slice xd XK.length xe], .bool true]) rfl (by kernel_rfl) (by kernel_rfl) (by kernel_rfl) (fun _ _ _ h => h) (Or.inl ⟨rfl, fun _ _ => rfl⟩) hHeld ?_
      try simp only [Act.put, List.setIfInBounds_toArray, List.set_cons_zero, List.set_cons_succ]
      refine takeL 14 (.agg #[.slice xa XL.length xc, .slice xd XK.length xe]) rfl (by kernel_rfl) (by kernel_rfl) (by kernel_rfl) (fun _ _ _ h => h) (Or.inl ⟨rfl, fun w9 hSw => by go_simp⟩) hHeld ?_
      try simp only [Act.put, List.setIfInBounds_toArray, List.set_cons_zero, List.set_cons_succ]
      refine takeL 15 (.bool true) rfl (by kernel_rfl) (by kernel_rfl) (by kernel_rfl) (fun _ _ _ h => h) (Or.inl ⟨rfl, fun w9 hSw => by go_simp⟩) hHeld ?_
      try simp only [Act.put, List.setIfInBounds_toArray, List.set_cons_zero, List.set_cons_succ]
      refine oneL 17 rfl (by kernel_rfl) rfl (fun K hK => ?_)
      have pcN := cN.put [.slice xa XL.length xc, .slice xd XK.length xe] rfl
      have kz := OrdL.kcells y2 A 0 [.slice xa XL.length xc, .slice xd XK.length xe]
      refine wp_store_mid 26 _ _ rfl A 0 [.slice xa XL.length xc, .slice xd XK.length xe].toArray rfl rfl cN.free (unhide HSS) (by kernel_rfl) ?_
      refine hK.out _ _ (hHeld.then kz (fun y hy => by simp at hy; subst hy; first | (left; simp; done) | (right; omega))) (fun hHeld => ?_)
      clear hK K
      try simp only [Act.put, List.setIfInBounds_toArray, List.set_cons_zero, List.set_cons_succ]
      replace hX := hX.only (OnlyG.kept kz) (fun z hz => by simp at hz; subst hz; omega)
      clear cN kz
      generalize y2.setCells A 0 [.slice xa XL.length xc, .slice xd XK.length xe] = y3 at *
      have cN := pcN
      clear pcN
      refine takeL 18 (.bool true) rfl (by kernel_rfl) (by kernel_rfl) (by kernel_rfl) (fun _ _ _ h => h) (Or.inl ⟨rfl, fun _ _ => rfl⟩) hHeld ?_
      try simp only [Act.put, List.setIfInBounds_toArray, List.set_cons_zero, List.set_cons_succ]
      refine wpAnyH_done (by kernel_rfl) ?_ _
      refine NoPanic.normal ?_
      exact ⟨rfl, xa, xd, xc, xe, A, rfl, hHeld, cN, sat_of hX⟩
  case k =>
    rintro xa xd xc xe A w8 ⟨K, cN, hX⟩
    replace hs := hs.below (Kept.all K (by simp))
    replace bx := bx.below (Kept.all K (by simp))
    replace B := B.trans ((Kept.all K (by simp)).mono B.size)
    clear K y0 y1 l
    have y0 := bx.c0
    have y1 := bx.c1
    go_upto_region 8 with fail
    refine wp_region_noPanic ?_
    refine wp_region_held_drew (S := fun w' => Kept [] w8 w') (by kernel_rfl) (Kept.refl _ _).drew (fun hHeld => ?_)
    generalize w8.drew = y0 at *
    have z0 := hHeld.size
    refine takeL 0 (.bool true) rfl (by kernel_rfl) (by kernel_rfl) (by kernel_rfl) (fun _ _ _ h => h) (Or.inl ⟨rfl, fun _ _ => rfl⟩) hHeld ?_
    try simp only [Act.put, List.setIfInBounds_toArray, List.set_cons_zero, List.set_cons_succ]
    refine takeL 1 (.bool true) rfl (by kernel_rfl) (by kernel_rfl) (by kernel_rfl) (fun _ _ _ h => h) (Or.inl ⟨rfl, fun _ _ => rfl⟩) hHeld ?_
    try simp only [Act.put, List.setIfInBounds_toArray, List.set_cons_zero, List.set_cons_succ]
    refine takeL 2 (.agg #[.slice xa XL.length xc, .slice xd XK.length xe]) rfl (by kernel_rfl) (by kernel_rfl) (by kernel_rfl) (fun _ _ _ h => h) (yieldsIf_load_mid rfl 26 _ rfl A 0 rfl [.slice xa XL.length xc, .slice xd XK.length xe] _ (fun _ h => (CsAt.below cN (Kept.all h (by simp)) (CsAt.lt cN (by simp))).cells) Tryz.underlying26 rfl (unhide HSS)) hHeld ?_
    try simp only [Act.put, List.setIfInBounds_toArray, List.set_cons_zero, List.set_cons_succ]
    refine takeL 4 (.agg #[.slice fa bs.length c, .slice da dk.length dc]) rfl (by kernel_rfl) (by kernel_rfl) (by kernel_rfl) (fun _ _ _ h => h) (yieldsIf_load_mid rfl 26 _ rfl sb 0 rfl [.slice fa bs.length c, .slice da dk.length dc] _ (fun _ h => rng2 (bx.below (Kept.all h (by simp)))) Tryz.underlying26 rfl (unhide HSS)) hHeld ?_
    try simp only [Act.put, List.setIfInBounds_toArray, List.set_cons_zero, List.set_cons_succ]
    refine oneL 3 rfl (by kernel_rfl) rfl (fun K hK => ?_)
    go_simp
    refine (unhide HXA _ _ _ _ _ (hX.below (Kept.all hHeld (by simp)))).mono ?_
    rintro e y1 ⟨za, zc, rfl, hza, b⟩
    go_wp2_with fail
    refine hK.out _ _ (hHeld.trans (Kept.of b)) (fun hHeld => ?_)
    clear hK K
    try simp only [Act.put, List.setIfInBounds_toArray, List.set_cons_zero, List.set_cons_succ]
    have z1 := b.size
    clear b
    refine oneL 5 rfl (by kernel_rfl) rfl (fun K hK => ?_)
    go_simp
    refine (unhide HIA _ (hs.below (Kept.all hHeld (by simp)))).mono ?_
    rintro e y2 ⟨ya, yc, rfl, hya, b⟩
    go_wp2_with fail
    replace hza := hza.below b
    refine hK.out _ _ (hHeld.trans (Kept.of b)) (fun hHeld => ?_)
    clear hK K
    try simp only [Act.put, List.setIfInBounds_toArray, List.set_cons_zero, List.set_cons_succ]
    have z2 := b.size
    clear b
    refine oneL 6 rfl (by kernel_rfl) rfl (fun K hK => ?_)
    go_simp
    refine (unhide HQ _ _ _ _ _ hza hya).mono ?_
    rintro e y3 ⟨rfl, b⟩
    go_wp2_with fail
    replace hza := hza.below b
    replace hya := hya.below b
    refine hK.out _ _ (hHeld.trans (Kept.of b)) (fun hHeld => ?_)
    clear hK K
    try simp only [Act.put, List.setIfInBounds_toArray, List.set_cons_zero, List.set_cons_succ]
    have z3 := b.size
    clear b
    refine takeL 7 (.bool true) rfl (by kernel_rfl) (by kernel_rfl) (by kernel_rfl) (fun _ _ _ h => h) (Or.inl ⟨rfl, fun w9 hSw => by go_simp⟩) hHeld ?_
    try simp only [Act.put, List.setIfInBounds_toArray, List.set_cons_zero, List.set_cons_succ]
    refine takeL 8 (.bool true) rfl (by kernel_rfl) (by kernel_rfl) (by kernel_rfl) (fun _ _ _ h => h) (Or.inl ⟨rfl, fun _ _ => rfl⟩) hHeld ?_
    try simp only [Act.put, List.setIfInBounds_toArray, List.set_cons_zero, List.set_cons_succ]
    refine takeL 9 (.agg #[.slice xa XL.length xc, .slice xd XK.length xe]) rfl (by kernel_rfl) (by kernel_rfl) (by kernel_rfl) (fun _ _ _ h => h) (yieldsIf_load_mid rfl 26 _ rfl A 0 rfl [.slice xa XL.length xc, .slice xd XK.length xe] _ (fun _ h => (CsAt.below cN (Kept.all h (by simp)) (CsAt.lt cN (by simp))).cells) Tryz.underlying26 rfl (unhide HSS)) hHeld ?_
    try simp only [Act.put, List.setIfInBounds_toArray, List.set_cons_zero, List.set_cons_succ]
    refine oneL 10 rfl (by kernel_rfl) rfl (fun K hK => ?_)
    go_simp
    refine (unhide HXO _ _ _ _ _ (hX.below (Kept.all hHeld (by simp)))).mono ?_
    rintro e y4 ⟨rfl, b⟩
    go_wp2_with fail
    replace hza := hza.below b
    replace hya := hya.below b
    refine hK.out _ _ (hHeld.trans (Kept.of b)) (fun hHeld => ?_)
    clear hK K
    try simp only [Act.put, List.setIfInBounds_toArray, List.set_cons_zero, List.set_cons_succ]
    have z4 := b.size
    clear b
    refine takeL 11 (.bool true) rfl (by kernel_rfl) (by kernel_rfl) (by kernel_rfl) (fun _ _ _ h => h) (Or.inl ⟨rfl, fun w9 hSw => by go_simp⟩) hHeld ?_
    try simp only [Act.put, List.setIfInBounds_toArray, List.set_cons_zero, List.set_cons_succ]
    refine takeL 12 (.bool true) rfl (by kernel_rfl) (by kernel_rfl) (by kernel_rfl) (fun _ _ _ h => h) (Or.inl ⟨rfl, fun _ _ => rfl⟩) hHeld ?_
    try simp only [Act.put, List.setIfInBounds_toArray, List.set_cons_zero, List.set_cons_succ]
    refine wpAnyH_done (by kernel_rfl) ?_ _
    refine NoPanic.normal ?_
    have B2 := B.trans ((Kept.all hHeld (by simp)).mono B.size)
    clear hHeld
    go_wp2
    go_ret
    exact ⟨rfl, B2⟩
    


set_option maxRecDepth 100000 in
theorem lifted (os : Os) (started : os.Started) (H : Type) (enc : TypeId × Value → H) :
    ReturnsInHanded {} Tryz.checked os 6 .any (Rows.fnFlushCutSpec.pre6 enc Tryz.prog Tryz.f6 Rows.fnFlushCutRow.domain false) (Rows.fnFlushCutSpec.post enc Tryz.prog Tryz.f6 false true false false) := by
  refine returnsInHanded_of_change (C := Tryz.checked) own started (by kernel_rfl) Tryz.func6
    (ChangeSpec.witness6 (enc := enc) (C := Tryz.checked) false ⟨#[], #[.slice none 0 0, .slice none 0 0], []⟩ 8 (by kernel_rfl) (by kernel_rfl) (by kernel_rfl) (by kernel_rfl)) ?_
  intro W base args ds gs before hval0 hW hcnd _
  have hval : ∀ (j : Nat) t v, Tryz.f6.params[j]? = some t → args[j]? = some v → Value.okWide Tryz.prog W .any base t v := hval0
  have hW' := hW
  obtain ⟨p, q, hA0, hV, rfl, hfz, hnd⟩ := hW
  have hA : DataW.TrodAll enc Tryz.prog W 0 (fun _ => true) true Tryz.f6.params.toList args.toList ds p := hA0
  rw [Tryz.params6] at hA hval
  obtain ⟨v0, vs0, d0, ds0, p0, q0, hargs, rfl, rfl, h0, r0⟩ := trodAll_cons hA
  obtain ⟨v1, vs1, d1, ds1, p1, q1, rfl, rfl, rfl, h1, r1⟩ := trodAll_cons r0
  obtain ⟨rfl, rfl, rfl⟩ := trodAll_nil r1
  obtain rfl : args = #[v0, v1] := by cases args; simp_all
  obtain ⟨rfl, rfl⟩ := trodVars_none hV
  have kk0 := h0
  have lt0 : ∀ x ∈ p0, x.block < W.heap.size := by obtain ⟨m, hm⟩ := kk0; exact DataW.trod_lt m _ _ _ hm
  obtain ⟨a0, len0, cap0, rfl⟩ := okWide_slice Tryz.underlying22 (hval 0 22 v0 rfl rfl)
  obtain ⟨z0, w0⟩ : ∃ zs, IsRow .u8 W a0 len0 cap0 zs := by
    obtain ⟨fuel, hf⟩ := h0
    rcases open_ints Tryz.underlying22 Tryz.underlying5 (by kernel_rfl) hf with ⟨hcs, _⟩ | ⟨x, l, c, zs, hcs, _, hl, hm, hz, _, hcell, hwz⟩
    · simp [Value.cells] at hcs
      obtain ⟨rfl, rfl, rfl⟩ := hcs
      exact ⟨[], .inl ⟨rfl, rfl, rfl, rfl⟩⟩
    · simp [Value.cells] at hcs
      obtain ⟨rfl, rfl, rfl⟩ := hcs
      exact ⟨zs, .inr ⟨_, rfl, hl, hm, by simpa using hz, hcell, hwz⟩⟩
  have kk1 := h1
  have lt1 : ∀ x ∈ p1, x.block < W.heap.size := by obtain ⟨m, hm⟩ := kk1; exact DataW.trod_lt m _ _ _ hm
  obtain ⟨a1, len1, cap1, rfl⟩ := okWide_slice Tryz.underlying22 (hval 1 22 v1 rfl rfl)
  obtain ⟨z1, w1⟩ : ∃ zs, IsRow .u8 W a1 len1 cap1 zs := by
    obtain ⟨fuel, hf⟩ := h1
    rcases open_ints Tryz.underlying22 Tryz.underlying5 (by kernel_rfl) hf with ⟨hcs, _⟩ | ⟨x, l, c, zs, hcs, _, hl, hm, hz, _, hcell, hwz⟩
    · simp [Value.cells] at hcs
      obtain ⟨rfl, rfl, rfl⟩ := hcs
      exact ⟨[], .inl ⟨rfl, rfl, rfl, rfl⟩⟩
    · simp [Value.cells] at hcs
      obtain ⟨rfl, rfl, rfl⟩ := hcs
      exact ⟨zs, .inr ⟨_, rfl, hl, hm, by simpa using hz, hcell, hwz⟩⟩
  clear hA0
  refine (walk a0 len0 cap0 z0 a1 len1 cap1 z1 W w0 w1).mono fun e W' ⟨he, bel⟩ => ?_
  subst he
  exact ⟨_, rfl, _, _, _, [], _, [], hW', trodAll_mk1 (shut_bool Tryz.underlying4 _), (trodAll_cons_mk (Below.trod laidOut (by kernel_rfl) (of_decide_eq_true (by kernel_rfl)) kk0 bel lt0) (trodAll_cons_mk (Below.trod laidOut (by kernel_rfl) (of_decide_eq_true (by kernel_rfl)) kk1 bel lt1) trodAll_mk0)), rfl, bel.frame _, fun h => by cases h⟩

set_option maxRecDepth 100000 in
set_option maxHeartbeats 8000000 in
theorem facts : joinedFacts Tryz.prog 6 Tryz.f6 Rows.fnFlushCutSpec Rows.fnFlushCutRow = true := by
  unfold joinedFacts
  refine Facts.and_t ?_ (by as_aux_lemma => kernel_rfl)
  refine Facts.and_t ?_ (by as_aux_lemma => kernel_rfl)
  refine Facts.and_t ?_ (by as_aux_lemma => kernel_rfl)
  refine Facts.and_t ?_ (by as_aux_lemma => kernel_rfl)
  refine Facts.and_t ?_ (by show (Tryz.prog.make == some Make.cut) = true; rw [Facts.made]; rfl)
  refine Facts.and_t ?_ (by show (false == Tryz.prog.liftsFinal) = true; rw [Facts.lifts]; rfl)
  refine Facts.and_t ?_ (Facts.enters)
  refine Facts.and_t ?_ (Facts.heard)
  refine Facts.and_t ?_ (rfl)
  refine Facts.and_t ?_ (by show (true == Tryz.prog.plainKeys) = true; rw [Facts.keys]; rfl)
  refine Facts.and_t ?_ (by as_aux_lemma => kernel_rfl)
  refine Facts.and_t ?_ (by as_aux_lemma => kernel_rfl)
  refine Facts.and_t ?_ (by as_aux_lemma => kernel_rfl)
  refine Facts.and_t ?_ (by as_aux_lemma => kernel_rfl)
  refine Facts.and_t ?_ (by as_aux_lemma => kernel_rfl)
  refine Facts.and_t ?_ (by as_aux_lemma => kernel_rfl)
  refine Facts.and_t ?_ (by as_aux_lemma => kernel_rfl)
  refine Facts.and_t ?_ (by as_aux_lemma => kernel_rfl)
  refine Facts.and_t ?_ (by as_aux_lemma => kernel_rfl)
  refine Facts.and_t ?_ (by as_aux_lemma => kernel_rfl)
  refine Facts.and_t ?_ (by as_aux_lemma => kernel_rfl)
  refine Facts.and_t ?_ (by as_aux_lemma => kernel_rfl)
  refine Facts.and_t ?_ (by as_aux_lemma => kernel_rfl)
  refine Facts.and_t ?_ (by as_aux_lemma => kernel_rfl)
  refine Facts.and_t ?_ (by as_aux_lemma => kernel_rfl)
  refine Facts.and_t ?_ (by as_aux_lemma => kernel_rfl)
  refine Facts.and_t ?_ (by as_aux_lemma => kernel_rfl)
  refine Facts.and_t ?_ (by as_aux_lemma => kernel_rfl)
  refine Facts.and_t ?_ (by as_aux_lemma => kernel_rfl)
  refine Facts.and_t ?_ (Facts.rowed)
  refine Facts.and_t ?_ (Facts.laidOut)
  kernel_rfl

theorem over : Rows.fnFlushCutRow.holds Tryz.pinned (OpenSpec.ofChange Rows.fnFlushCutSpec) :=
  OpenClaim.holds_of_wide_leaving 6 Tryz.f6 rfl rfl rfl rfl rfl rfl rfl ⟨rfl, rfl, rfl, rfl, rfl⟩ rfl rfl rfl rfl rfl (by kernel_rfl) Tryz.func6 facts
    (of_decide_eq_true (by kernel_rfl)) (by unfold Func.isWrapper; first | (rw [if_pos (by decide +kernel)]; kernel_rfl) | (rw [if_neg (by decide +kernel)]; exact ⟨rfl, rfl⟩))
    (fun os started H enc _ => Lv.leave_of (lifted os started H enc))

end Go.Proofs.YtogfelpdgeionaaGreat.FlushCut
namespace Go.Proofs.YtogfelpdgeionaaGreat
theorem fnFlushCut_holds : Rows.FnFlushCutSaid := FlushCut.over
end Go.Proofs.YtogfelpdgeionaaGreat
