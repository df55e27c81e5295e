/-
  Wiped, a store reads the slow disk: so a drawn one does. The given statement, with no condition.
-/
import Derived.Test.YtiplhdcapnboaaaPx
import Derived.Test.YtiplhdcapnboaaaPlE
import Derived.Test.YtiplhdcapnboaaaImplX
import Derived.Test.YtiplhdcapnboaaaPy
import Derived.Test.YtiplhdcapnboaaaFacts
import Derived.Lib.SmallJoins
namespace Go.Proofs.Ytiplhdcapnboaaa.ReadDisk
open Go.ChangeShapes Go.WideShapes Go.ChangeAt Go.RowKit Go.Shelf Go.Joins OkA Big Fl ImplB ImplF ImplS ImplT ImplU SpecA SpecB SpecC SpecD SpecW SpecX SpecF SpecG SpecH FindP FindN FindO FindD ImplW ImplX Pick Draw ClA DrB PlB Pl FindL StA StB StC StD StE StF StG SpS SpT DrS Sv LqI Py Px NwA LqI Sn9 ImplL Kp DoA
open FlB (FsN)
open StN (SN)
open Facts (own laidOut)
set_option linter.unusedVariables false
set_option linter.unusedSimpArgs false
attribute [local go_sem ↓] Go.wp_at_zero Go.wp_at_succ

set_option maxRecDepth 100000 in
set_option maxHeartbeats 8000000 in
theorem walk (a0 : Option Addr) (len0 cap0 : Nat) (z0 : List Int) (w : World) (h0 : IsRow .u8 w a0 len0 cap0 z0) :
    Calls Try.prog 17 #[.slice a0 len0 cap0] w fun e w' => e = .returned (.bool true) ∧ Below w.heap.size w w' := by
  have HD := hide (drawSall_any w a0 len0 cap0 z0 h0)
  clear h0
  go_enter Try.func17, Try.ntmps17
  by_cases hbig0 : 1048576 < (len0 : Int)
  · go_wp2
    go_ret
    exact ⟨rfl, Below.refl _ _⟩
  go_wp2_with fail
  refine (unhide HD).mono ?_
  rintro e w1 ⟨g, o, c, bs, d, z, dc, dk, rfl, S1, hc4, B⟩
  have h4 := S1.fs.four
  have h6 := S1.six
  have hp4 := hide S1.fs.pgs
  have hs := S1.at
  clear HD S1
  generalize (some ⟨g, o, none⟩ : Option Addr) = fa at *
  generalize (some ⟨d, z, none⟩ : Option Addr) = da at *
  have bA : Below w1.heap.size w1 (w1.alloc (.cells #[.slice fa bs.length c, .slice da dk.length dc] 54)) := (Below.refl _ _).alloc (Nat.le_refl _) _
  have bx := Bx.new w1 (.slice fa bs.length c) (.slice da dk.length dc) 54
  replace hs := hs.below bA
  replace B := B.trans (bA.mono B.size)
  clear bA hc4
  have y0 := bx.c0
  have y1 := bx.c1
  have HIA := hide (fun (w' : World) (h : SAt w' fa bs da dk) => iAll2 (fc := c) (dc := dc)  w' h h4 h6)
  have HSA := hide (fun (w' : World) (h : SAt w' fa bs da dk) => sAll2 (fc := c) (dc := dc)  w' h h4 h6 (unhide hp4))
  have HSO := hide (fun (w' : World) (h : SAt w' fa bs da dk) => sOk (fc := c) (dc := dc)  w' h h4 h6 (unhide hp4))
  have HSS := hide (show (Try.prog.info? 54).map (·.size) = some 2 by kernel_rfl)
  have HQ := hide (fun (a1 a2 : Option Addr) (c1 c2 : Nat) (w' : World) (h1 : DkAt w' a1 (alS bs dk)) (h2 : DkAt w' a2 (alS bs dk)) => lqSame a1 a2 c1 c2 (alS bs dk) w' h1 h2 al_le)
  generalize alS bs dk = LL at *
  go_wp2_with fail
  generalize w1.alloc (.cells #[.slice fa bs.length c, .slice da dk.length dc] 54) = w2 at *
  generalize w1.heap.size = sb at *
  refine (unhide HIA _ hs).mono ?_
  rintro e u1 ⟨la, lc, rfl, l, b⟩
  replace hs := hs.below b
  replace bx := bx.below b
  clear y0 y1
  have y0 := bx.c0
  have y1 := bx.c1
  replace B := B.trans (b.mono B.size)
  clear b
  go_wp2_with fail
  refine (unhide HSA _ hs).mono ?_
  rintro e u2 ⟨ma, mc, rfl, m, b⟩
  replace hs := hs.below b
  replace l := l.below b
  replace bx := bx.below b
  clear y0 y1
  have y0 := bx.c0
  have y1 := bx.c1
  replace B := B.trans (b.mono B.size)
  clear b
  go_wp2_with fail
  refine (unhide HQ _ _ _ _ _ l m).mono ?_
  rintro e u3 ⟨rfl, b⟩
  replace hs := hs.below b
  replace l := l.below b
  replace m := m.below b
  replace bx := bx.below b
  clear y0 y1
  have y0 := bx.c0
  have y1 := bx.c1
  replace B := B.trans (b.mono B.size)
  clear b
  go_wp2_with fail
  refine (unhide HSO _ hs).mono ?_
  rintro e u4 ⟨rfl, b⟩
  replace hs := hs.below b
  replace l := l.below b
  replace bx := bx.below b
  clear y0 y1
  have y0 := bx.c0
  have y1 := bx.c1
  replace B := B.trans (b.mono B.size)
  clear b
  clear m
  cases hst : stB bs dk
  · go_wp2_with fail
    refine (unhide HSA _ hs).mono ?_
    rintro e u5 ⟨ma, mc, rfl, m, b⟩
    replace hs := hs.below b
    replace l := l.below b
    replace bx := bx.below b
    clear y0 y1
    have y0 := bx.c0
    have y1 := bx.c1
    replace B := B.trans (b.mono B.size)
    clear b
    go_wp2_with fail
    refine (unhide HQ _ _ _ _ _ l m).mono ?_
    rintro e u6 ⟨rfl, b⟩
    replace hs := hs.below b
    replace l := l.below b
    replace m := m.below b
    replace bx := bx.below b
    clear y0 y1
    have y0 := bx.c0
    have y1 := bx.c1
    replace B := B.trans (b.mono B.size)
    clear b
    go_wp2
    go_ret
    exact ⟨rfl, B⟩
  have HXO := hide (fun (w' : World) (h : SAt w' (some ⟨0, 0, none⟩) zFs da dk) => trivial)
  clear HXO l HQ HIA HSA HSO
  have HW := hide (st_wiped hst)
  have HWA := hide (al_wiped hst)
  go_upto_region 7 with fail
  apply OrdL.join2 (F := fun (g9 : Nat) (A : Nat) w' => Kept [] u4 w' ∧ CsAt w' A [.slice (some ⟨g9, 0, none⟩) 4 4, .slice da dk.length dc] ∧ FsAt w' (some ⟨g9, 0, none⟩) zFs)
  case h =>
    refine wp_region_noPanic ?_
    refine wp_region_held_drew (S := fun w' => Kept [] u4 w') (by kernel_rfl) (Kept.refl _ _).drew (fun hHeld => ?_)
    generalize u4.drew = y0 at *
    have z0 := hHeld.size
    refine takeL 1 (.pointer (some ⟨sb, 1, none⟩)) rfl (by kernel_rfl) (by kernel_rfl) (by kernel_rfl) (fun _ _ _ h => h) (Or.inl ⟨rfl, fun w9 hSw => by go_simp⟩) hHeld ?_
    try simp only [Act.put, List.setIfInBounds_toArray, List.set_cons_zero, List.set_cons_succ]
    refine takeL 2 (.slice da dk.length dc) rfl (by kernel_rfl) (by kernel_rfl) (by kernel_rfl) (fun _ _ _ h => h) (Or.inl ⟨rfl, fun w9 hSw => by have hc := (hSw.cell (b := sb) 1 bx.lt (by simp)).trans bx.c1; go_simp⟩) hHeld ?_
    try simp only [Act.put, List.setIfInBounds_toArray, List.set_cons_zero, List.set_cons_succ]
    refine OrdL.twoL 0 4 rfl rfl (by kernel_rfl) rfl rfl  (fun K hK => ?_) (fun K hK => ?_) 
    · go_simp
      refine (flashNew_any _).mono ?_
      rintro e y1 ⟨g9, G9, rfl, O, b⟩
      go_wp2_with fail
      refine hK.out _ _ (hHeld.trans (Kept.of b)) (fun hHeld => ?_)
      clear hK K
      try simp only [Act.put, List.setIfInBounds_toArray, List.set_cons_zero, List.set_cons_succ]
      have hiO := O.hi
      have z1 := b.size
      clear b
      refine takeL 3 (.agg #[.slice (some ⟨g9, 0, none⟩) 4 4, .slice da dk.length dc]) rfl (by kernel_rfl) (by kernel_rfl) (by kernel_rfl) (fun _ _ _ h => h) (Or.inl ⟨rfl, fun w9 hSw => by go_simp⟩) hHeld ?_
      try simp only [Act.put, List.setIfInBounds_toArray, List.set_cons_zero, List.set_cons_succ]
      refine oneL 4 rfl (by kernel_rfl) rfl (fun K hK => ?_)
      go_simp
      have b : Below y1.heap.size y1 (y1.alloc (.cells #[.slice none 0 0, .slice none 0 0] 54)) := (Below.refl _ _).alloc (Nat.le_refl _) _
      have cN := CsAt.new y1 [.slice none 0 0, .slice none 0 0] 54
      have lcN := hHeld.size
      replace O := own_kept O (L := []) (Kept.of b) (by simp)
      refine hK.out _ _ (hHeld.trans (Kept.of b)) (fun hHeld => ?_)
      clear hK K
      try simp only [Act.put, List.setIfInBounds_toArray, List.set_cons_zero, List.set_cons_succ]
      have z2 := b.size
      generalize y1.alloc (.cells #[.slice none 0 0, .slice none 0 0] 54) = y2 at *
      generalize y1.heap.size = A at *
      clear b
      have qcN := CsAt.lt cN (by simp)
      refine oneL 5 rfl (by kernel_rfl) rfl (fun K hK => ?_)
      have pcN := cN.put [.slice (some ⟨g9, 0, none⟩) 4 4, .slice da dk.length dc] rfl
      have kz := OrdL.kcells y2 A 0 [.slice (some ⟨g9, 0, none⟩) 4 4, .slice da dk.length dc]
      refine wp_store_mid 54 _ _ rfl A 0 [.slice (some ⟨g9, 0, none⟩) 4 4, .slice da dk.length dc].toArray rfl rfl cN.free (unhide HSS) (by kernel_rfl) ?_
      refine hK.out _ _ (hHeld.then kz (fun y hy => by simp at hy; subst hy; first | (left; simp; done) | (right; omega))) (fun hHeld => ?_)
      clear hK K
      try simp only [Act.put, List.setIfInBounds_toArray, List.set_cons_zero, List.set_cons_succ]
      replace O := own_kept O kz (fun x hx hm => by simp at hm; subst hm; have := O.lo _ hx; have := hiO _ hx; omega)
      clear cN kz
      generalize y2.setCells A 0 [.slice (some ⟨g9, 0, none⟩) 4 4, .slice da dk.length dc] = y3 at *
      have cN := pcN
      clear pcN
      refine wpAnyH_done (by kernel_rfl) ?_ _
      refine NoPanic.normal ?_
      exact ⟨rfl, g9, A, rfl, hHeld, cN, O.fs⟩
    · go_simp
      have b : Below y0.heap.size y0 (y0.alloc (.cells #[.slice none 0 0, .slice none 0 0] 54)) := (Below.refl _ _).alloc (Nat.le_refl _) _
      have cN := CsAt.new y0 [.slice none 0 0, .slice none 0 0] 54
      have lcN := hHeld.size
      refine hK.out _ _ (hHeld.trans (Kept.of b)) (fun hHeld => ?_)
      clear hK K
      try simp only [Act.put, List.setIfInBounds_toArray, List.set_cons_zero, List.set_cons_succ]
      have z1 := b.size
      generalize y0.alloc (.cells #[.slice none 0 0, .slice none 0 0] 54) = y1 at *
      generalize y0.heap.size = A at *
      clear b
      have qcN := CsAt.lt cN (by simp)
      refine oneL 0 rfl (by kernel_rfl) rfl (fun K hK => ?_)
      go_simp
      refine (flashNew_any _).mono ?_
      rintro e y2 ⟨g9, G9, rfl, O, b⟩
      go_wp2_with fail
      replace cN := CsAt.below cN b (CsAt.lt cN (by simp))
      refine hK.out _ _ (hHeld.trans (Kept.of b)) (fun hHeld => ?_)
      clear hK K
      try simp only [Act.put, List.setIfInBounds_toArray, List.set_cons_zero, List.set_cons_succ]
      have hiO := O.hi
      have z2 := b.size
      clear b
      refine takeL 3 (.agg #[.slice (some ⟨g9, 0, none⟩) 4 4, .slice da dk.length dc]) rfl (by kernel_rfl) (by kernel_rfl) (by kernel_rfl) (fun _ _ _ h => h) (Or.inl ⟨rfl, fun w9 hSw => by go_simp⟩) hHeld ?_
      try simp only [Act.put, List.setIfInBounds_toArray, List.set_cons_zero, List.set_cons_succ]
      refine oneL 5 rfl (by kernel_rfl) rfl (fun K hK => ?_)
      have pcN := cN.put [.slice (some ⟨g9, 0, none⟩) 4 4, .slice da dk.length dc] rfl
      have kz := OrdL.kcells y2 A 0 [.slice (some ⟨g9, 0, none⟩) 4 4, .slice da dk.length dc]
      refine wp_store_mid 54 _ _ rfl A 0 [.slice (some ⟨g9, 0, none⟩) 4 4, .slice da dk.length dc].toArray rfl rfl cN.free (unhide HSS) (by kernel_rfl) ?_
      refine hK.out _ _ (hHeld.then kz (fun y hy => by simp at hy; subst hy; first | (left; simp; done) | (right; omega))) (fun hHeld => ?_)
      clear hK K
      try simp only [Act.put, List.setIfInBounds_toArray, List.set_cons_zero, List.set_cons_succ]
      replace O := own_kept O kz (fun x hx hm => by simp at hm; subst hm; have := O.lo _ hx; have := hiO _ hx; omega)
      clear cN kz
      generalize y2.setCells A 0 [.slice (some ⟨g9, 0, none⟩) 4 4, .slice da dk.length dc] = y3 at *
      have cN := pcN
      clear pcN
      refine wpAnyH_done (by kernel_rfl) ?_ _
      refine NoPanic.normal ?_
      exact ⟨rfl, g9, A, rfl, hHeld, cN, O.fs⟩
  case k =>
    rintro g9 A w8 ⟨K, cA, hz⟩
    have hX : SAt w8 (some ⟨g9, 0, none⟩) zFs da dk := ⟨hz, (hs.below (Kept.all K (by simp))).ds⟩
    have bx8 := bx.below (Kept.all K (by simp))
    have B8 := B.trans ((Kept.all K (by simp)).mono B.size)
    have hd6 : dk.length ≤ 6 := h6
    have HXO : Hid (∀ (w' : World), SAt w' (some ⟨g9, 0, none⟩) zFs da dk → Calls Try.prog 60 #[.agg #[.slice (some ⟨g9, 0, none⟩) 4 4, .slice da dk.length dc]] w' fun e w'' => e = .returned (.bool true) ∧ Below w'.heap.size w' w'') := fun w' h => by
      have := iOk (fc := 4) (dc := dc) w' h (by decide) hd6
      rwa [unhide HW] at this
    have HXA : Hid (∀ (w' : World), SAt w' (some ⟨g9, 0, none⟩) zFs da dk → Calls Try.prog 52 #[.agg #[.slice (some ⟨g9, 0, none⟩) 4 4, .slice da dk.length dc]] w' fun e w'' => LsPost w' dk e w'') := fun w' h => by
      have := iAll2 (fc := 4) (dc := dc) w' h (by decide) hd6
      rwa [unhide HWA] at this
    have HXD : Hid (∀ (w' : World), SAt w' (some ⟨g9, 0, none⟩) zFs da dk → Calls Try.prog 57 #[.agg #[.slice (some ⟨g9, 0, none⟩) 4 4, .slice da dk.length dc]] w' fun e w'' => ∃ p q, e = .returned (.slice p 0 q) ∧ True ∧ Below w'.heap.size w' w'') := fun w' h => by
      have := iDirty2 (fc := 4) (dc := dc) w' h (by decide) hd6
      rw [dy_wiped] at this
      refine this.mono ?_
      rintro e w'' ⟨p, q, he, _, b⟩
      exact ⟨p, q, he, trivial, b⟩
    have HXQ := hide (fun (a1 a2 : Option Addr) (c1 c2 : Nat) (w' : World) (h1 : DkAt w' a1 dk) (h2 : DkAt w' a2 dk) => lqSame a1 a2 c1 c2 dk w' h1 h2 hd6)
    clear hz hs bx K y0 y1 B
    go_upto_region 8 with fail
    refine wp_region_noPanic ?_
    refine wp_region_held_drew (S := fun w' => Kept [] w8 w') (by kernel_rfl) (Kept.refl _ _).drew (fun hHeld => ?_)
    generalize w8.drew = y0 at *
    have z0 := hHeld.size
    refine takeL 0 (.agg #[.slice (some ⟨g9, 0, none⟩) 4 4, .slice da dk.length dc]) rfl (by kernel_rfl) (by kernel_rfl) (by kernel_rfl) (fun _ _ _ h => h) (yieldsIf_load_mid rfl 54 _ rfl A 0 rfl [.slice (some ⟨g9, 0, none⟩) 4 4, .slice da dk.length dc] _ (fun _ h => (CsAt.below cA (Kept.all h (by simp)) (CsAt.lt cA (by simp))).cells) Try.underlying54 rfl (unhide HSS)) hHeld ?_
    try simp only [Act.put, List.setIfInBounds_toArray, List.set_cons_zero, List.set_cons_succ]
    refine oneL 1 rfl (by kernel_rfl) rfl (fun K hK => ?_)
    go_simp
    refine (unhide HXO _ (hX.below (Kept.all hHeld (by simp)))).mono ?_
    rintro e y1 ⟨rfl, b⟩
    go_wp2_with fail
    refine hK.out _ _ (hHeld.trans (Kept.of b)) (fun hHeld => ?_)
    clear hK K
    try simp only [Act.put, List.setIfInBounds_toArray, List.set_cons_zero, List.set_cons_succ]
    have z1 := b.size
    clear b
    refine takeL 2 (.bool true) rfl (by kernel_rfl) (by kernel_rfl) (by kernel_rfl) (fun _ _ _ h => h) (Or.inl ⟨rfl, fun _ _ => rfl⟩) hHeld ?_
    try simp only [Act.put, List.setIfInBounds_toArray, List.set_cons_zero, List.set_cons_succ]
    refine takeL 3 (.agg #[.slice (some ⟨g9, 0, none⟩) 4 4, .slice da dk.length dc]) rfl (by kernel_rfl) (by kernel_rfl) (by kernel_rfl) (fun _ _ _ h => h) (yieldsIf_load_mid rfl 54 _ rfl A 0 rfl [.slice (some ⟨g9, 0, none⟩) 4 4, .slice da dk.length dc] _ (fun _ h => (CsAt.below cA (Kept.all h (by simp)) (CsAt.lt cA (by simp))).cells) Try.underlying54 rfl (unhide HSS)) hHeld ?_
    try simp only [Act.put, List.setIfInBounds_toArray, List.set_cons_zero, List.set_cons_succ]
    refine takeL 5 (.pointer (some ⟨sb, 1, none⟩)) rfl (by kernel_rfl) (by kernel_rfl) (by kernel_rfl) (fun _ _ _ h => h) (Or.inl ⟨rfl, fun w9 hSw => by go_simp⟩) hHeld ?_
    try simp only [Act.put, List.setIfInBounds_toArray, List.set_cons_zero, List.set_cons_succ]
    refine takeL 6 (.slice da dk.length dc) rfl (by kernel_rfl) (by kernel_rfl) (by kernel_rfl) (fun _ _ _ h => h) (Or.inl ⟨rfl, fun w9 hSw => by have hc := (hSw.cell (b := sb) 1 bx8.lt (by simp)).trans bx8.c1; go_simp⟩) hHeld ?_
    try simp only [Act.put, List.setIfInBounds_toArray, List.set_cons_zero, List.set_cons_succ]
    refine oneL 4 rfl (by kernel_rfl) rfl (fun K hK => ?_)
    go_simp
    refine (unhide HXA _ (hX.below (Kept.all hHeld (by simp)))).mono ?_
    rintro e y2 ⟨xa, xc, rfl, hxa, b⟩
    go_wp2_with fail
    refine hK.out _ _ (hHeld.trans (Kept.of b)) (fun hHeld => ?_)
    clear hK K
    try simp only [Act.put, List.setIfInBounds_toArray, List.set_cons_zero, List.set_cons_succ]
    have z2 := b.size
    clear b
    refine oneL 7 rfl (by kernel_rfl) rfl (fun K hK => ?_)
    go_simp
    refine (unhide HXQ _ _ _ _ _ hxa (hX.ds.below (Kept.all hHeld (by simp)))).mono ?_
    rintro e y3 ⟨rfl, b⟩
    go_wp2_with fail
    replace hxa := hxa.below b
    refine hK.out _ _ (hHeld.trans (Kept.of b)) (fun hHeld => ?_)
    clear hK K
    try simp only [Act.put, List.setIfInBounds_toArray, List.set_cons_zero, List.set_cons_succ]
    have z3 := b.size
    clear b
    refine takeL 8 (.bool true) rfl (by kernel_rfl) (by kernel_rfl) (by kernel_rfl) (fun _ _ _ h => h) (Or.inl ⟨rfl, fun w9 hSw => by go_simp⟩) hHeld ?_
    try simp only [Act.put, List.setIfInBounds_toArray, List.set_cons_zero, List.set_cons_succ]
    refine takeL 9 (.bool true) rfl (by kernel_rfl) (by kernel_rfl) (by kernel_rfl) (fun _ _ _ h => h) (Or.inl ⟨rfl, fun _ _ => rfl⟩) hHeld ?_
    try simp only [Act.put, List.setIfInBounds_toArray, List.set_cons_zero, List.set_cons_succ]
    refine takeL 10 (.agg #[.slice (some ⟨g9, 0, none⟩) 4 4, .slice da dk.length dc]) rfl (by kernel_rfl) (by kernel_rfl) (by kernel_rfl) (fun _ _ _ h => h) (yieldsIf_load_mid rfl 54 _ rfl A 0 rfl [.slice (some ⟨g9, 0, none⟩) 4 4, .slice da dk.length dc] _ (fun _ h => (CsAt.below cA (Kept.all h (by simp)) (CsAt.lt cA (by simp))).cells) Try.underlying54 rfl (unhide HSS)) hHeld ?_
    try simp only [Act.put, List.setIfInBounds_toArray, List.set_cons_zero, List.set_cons_succ]
    refine oneL 11 rfl (by kernel_rfl) rfl (fun K hK => ?_)
    go_simp
    refine (unhide HXD _ (hX.below (Kept.all hHeld (by simp)))).mono ?_
    rintro e y4 ⟨ya, yc, rfl, _, b⟩
    go_wp2_with fail
    replace hxa := hxa.below b
    refine hK.out _ _ (hHeld.trans (Kept.of b)) (fun hHeld => ?_)
    clear hK K
    try simp only [Act.put, List.setIfInBounds_toArray, List.set_cons_zero, List.set_cons_succ]
    have z4 := b.size
    clear b
    refine takeL 12 (.int .i64 0) rfl (by kernel_rfl) (by kernel_rfl) (by kernel_rfl) (fun _ _ _ h => h) (Or.inl ⟨rfl, fun w9 hSw => by go_simp⟩) hHeld ?_
    try simp only [Act.put, List.setIfInBounds_toArray, List.set_cons_zero, List.set_cons_succ]
    refine takeL 13 (.bool true) rfl (by kernel_rfl) (by kernel_rfl) (by kernel_rfl) (fun _ _ _ h => h) (Or.inl ⟨rfl, fun w9 hSw => by go_simp⟩) hHeld ?_
    try simp only [Act.put, List.setIfInBounds_toArray, List.set_cons_zero, List.set_cons_succ]
    refine takeL 14 (.bool true) rfl (by kernel_rfl) (by kernel_rfl) (by kernel_rfl) (fun _ _ _ h => h) (Or.inl ⟨rfl, fun w9 hSw => by go_simp⟩) hHeld ?_
    try simp only [Act.put, List.setIfInBounds_toArray, List.set_cons_zero, List.set_cons_succ]
    refine takeL 15 (.bool true) rfl (by kernel_rfl) (by kernel_rfl) (by kernel_rfl) (fun _ _ _ h => h) (Or.inl ⟨rfl, fun _ _ => rfl⟩) hHeld ?_
    try simp only [Act.put, List.setIfInBounds_toArray, List.set_cons_zero, List.set_cons_succ]
    refine wpAnyH_done (by kernel_rfl) ?_ _
    refine NoPanic.normal ?_
    have B2 := B8.trans ((Kept.all hHeld (by simp)).mono B8.size)
    clear hHeld
    go_wp2
    go_ret
    exact ⟨rfl, B2⟩


set_option maxRecDepth 100000 in
theorem lifted (os : Os) (started : os.Started) (H : Type) (enc : TypeId × Value → H) :
    ReturnsInHanded {} Try.checked os 17 .any (Rows.fnReadDiskSpec.pre6 enc Try.prog Try.f17 Rows.fnReadDiskRow.domain false) (Rows.fnReadDiskSpec.post enc Try.prog Try.f17 false true false false) := by
  refine returnsInHanded_of_change (C := Try.checked) own started (by kernel_rfl) Try.func17
    (ChangeSpec.witness6 (enc := enc) (C := Try.checked) false ⟨#[], #[.slice none 0 0], []⟩ 8 (by kernel_rfl) (by kernel_rfl) (by kernel_rfl) (by kernel_rfl)) ?_
  intro W base args ds gs before hval0 hW hcnd _
  have hval : ∀ (j : Nat) t v, Try.f17.params[j]? = some t → args[j]? = some v → Value.okWide Try.prog W .any base t v := hval0
  have hW' := hW
  obtain ⟨p, q, hA0, hV, rfl, hfz, hnd⟩ := hW
  have hA : DataW.TrodAll enc Try.prog W 0 (fun _ => true) true Try.f17.params.toList args.toList ds p := hA0
  rw [Try.params17] at hA hval
  obtain ⟨v0, vs0, d0, ds0, p0, q0, hargs, rfl, rfl, h0, r0⟩ := trodAll_cons hA
  obtain ⟨rfl, rfl, rfl⟩ := trodAll_nil r0
  obtain rfl : args = #[v0] := by cases args; simp_all
  obtain ⟨rfl, rfl⟩ := trodVars_none hV
  have kk0 := h0
  have lt0 : ∀ x ∈ p0, x.block < W.heap.size := by obtain ⟨m, hm⟩ := kk0; exact DataW.trod_lt m _ _ _ hm
  obtain ⟨a0, len0, cap0, rfl⟩ := okWide_slice Try.underlying22 (hval 0 22 v0 rfl rfl)
  obtain ⟨z0, w0⟩ : ∃ zs, IsRow .u8 W a0 len0 cap0 zs := by
    obtain ⟨fuel, hf⟩ := h0
    rcases open_ints Try.underlying22 Try.underlying5 (by kernel_rfl) hf with ⟨hcs, _⟩ | ⟨x, l, c, zs, hcs, _, hl, hm, hz, _, hcell, hwz⟩
    · simp [Value.cells] at hcs
      obtain ⟨rfl, rfl, rfl⟩ := hcs
      exact ⟨[], .inl ⟨rfl, rfl, rfl, rfl⟩⟩
    · simp [Value.cells] at hcs
      obtain ⟨rfl, rfl, rfl⟩ := hcs
      exact ⟨zs, .inr ⟨_, rfl, hl, hm, by simpa using hz, hcell, hwz⟩⟩
  clear hA0
  refine (walk a0 len0 cap0 z0 W w0).mono fun e W' ⟨he, bel⟩ => ?_
  subst he
  exact ⟨_, rfl, _, _, _, [], _, [], hW', trodAll_mk1 (shut_bool Try.underlying4 _), (trodAll_cons_mk (Below.trod laidOut (by kernel_rfl) (of_decide_eq_true (by kernel_rfl)) kk0 bel lt0) trodAll_mk0), rfl, bel.frame _, fun h => by cases h⟩

set_option maxRecDepth 100000 in
theorem facts : joinedFacts Try.prog 17 Try.f17 Rows.fnReadDiskSpec Rows.fnReadDiskRow = true := by
  unfold joinedFacts
  refine Facts.and_t ?_ (by as_aux_lemma => kernel_rfl)
  refine Facts.and_t ?_ (by as_aux_lemma => kernel_rfl)
  refine Facts.and_t ?_ (by as_aux_lemma => kernel_rfl)
  refine Facts.and_t ?_ (by as_aux_lemma => kernel_rfl)
  refine Facts.and_t ?_ (by show (Try.prog.make == some Make.cut) = true; rw [Facts.made]; rfl)
  refine Facts.and_t ?_ (by show (false == Try.prog.liftsFinal) = true; rw [Facts.lifts]; rfl)
  refine Facts.and_t ?_ (Facts.enters)
  refine Facts.and_t ?_ (Facts.heard)
  refine Facts.and_t ?_ (rfl)
  refine Facts.and_t ?_ (by show (true == Try.prog.plainKeys) = true; rw [Facts.keys]; rfl)
  refine Facts.and_t ?_ (by as_aux_lemma => kernel_rfl)
  refine Facts.and_t ?_ (by as_aux_lemma => kernel_rfl)
  refine Facts.and_t ?_ (by as_aux_lemma => kernel_rfl)
  refine Facts.and_t ?_ (by as_aux_lemma => kernel_rfl)
  refine Facts.and_t ?_ (by as_aux_lemma => kernel_rfl)
  refine Facts.and_t ?_ (by as_aux_lemma => kernel_rfl)
  refine Facts.and_t ?_ (by as_aux_lemma => kernel_rfl)
  refine Facts.and_t ?_ (by as_aux_lemma => kernel_rfl)
  refine Facts.and_t ?_ (by as_aux_lemma => kernel_rfl)
  refine Facts.and_t ?_ (by as_aux_lemma => kernel_rfl)
  refine Facts.and_t ?_ (by as_aux_lemma => kernel_rfl)
  refine Facts.and_t ?_ (by as_aux_lemma => kernel_rfl)
  refine Facts.and_t ?_ (by as_aux_lemma => kernel_rfl)
  refine Facts.and_t ?_ (by as_aux_lemma => kernel_rfl)
  refine Facts.and_t ?_ (by as_aux_lemma => kernel_rfl)
  refine Facts.and_t ?_ (by as_aux_lemma => kernel_rfl)
  refine Facts.and_t ?_ (by as_aux_lemma => kernel_rfl)
  refine Facts.and_t ?_ (by as_aux_lemma => kernel_rfl)
  refine Facts.and_t ?_ (by as_aux_lemma => kernel_rfl)
  refine Facts.and_t ?_ (Facts.rowed)
  refine Facts.and_t ?_ (Facts.laidOut)
  kernel_rfl

theorem over : Rows.fnReadDiskRow.holds Try.pinned (OpenSpec.ofChange Rows.fnReadDiskSpec) :=
  OpenClaim.holds_of_wide 17 Try.f17 rfl rfl rfl rfl rfl rfl rfl ⟨rfl, rfl, rfl, rfl, rfl⟩ rfl rfl rfl rfl rfl (by kernel_rfl) Try.func17 facts
    (of_decide_eq_true (by kernel_rfl)) (by unfold Func.isWrapper; first | (rw [if_pos (by decide +kernel)]; kernel_rfl) | (rw [if_neg (by decide +kernel)]; exact ⟨rfl, rfl⟩))
    (fun os started H enc _ => lifted os started H enc)

end Go.Proofs.Ytiplhdcapnboaaa.ReadDisk
namespace Go.Proofs.Ytiplhdcapnboaaa
theorem fnReadDisk_holds : Rows.FnReadDiskSaid := ReadDisk.over
end Go.Proofs.Ytiplhdcapnboaaa
