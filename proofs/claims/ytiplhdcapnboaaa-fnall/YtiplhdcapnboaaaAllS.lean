/-
  All values are those of all addresses: so they are in a drawn store. The given statement, with no condition.
-/
import Derived.Test.YtiplhdcapnboaaaPx
import Derived.Test.YtiplhdcapnboaaaPlE
import Derived.Test.YtiplhdcapnboaaaImplX
import Derived.Test.YtiplhdcapnboaaaFacts
import Derived.Lib.SmallJoins
namespace Go.Proofs.Ytiplhdcapnboaaa.AllS
open Go.ChangeShapes Go.WideShapes Go.ChangeAt Go.RowKit Go.Shelf Go.Joins OkA Big Fl ImplB ImplF ImplS ImplT ImplU SpecA SpecB SpecC SpecD SpecW SpecX SpecF SpecG SpecH FindP FindN FindO FindD ImplW ImplX Pick Draw ClA DrB PlB Pl FindL StA StB StC StD StE StF StG SpS SpT DrS Sv LqI  Px NwA LqI Sn9 ImplL Kp DoA
open FlB (FsN)
open StN (SN)
open Facts (own laidOut)
set_option linter.unusedVariables false
set_option linter.unusedSimpArgs false
attribute [local go_sem ↓] Go.wp_at_zero Go.wp_at_succ

set_option maxRecDepth 100000 in
set_option maxHeartbeats 8000000 in
theorem walk (a0 : Option Addr) (len0 cap0 : Nat) (z0 : List Int) (w : World) (h0 : IsRow .u8 w a0 len0 cap0 z0) :
    Calls Try.prog 13 #[.slice a0 len0 cap0] w fun e w' => e = .returned (.bool true) ∧ Below w.heap.size w w' := by
  have HD := hide (drawSall_any w a0 len0 cap0 z0 h0)
  clear h0
  go_enter Try.func13, Try.ntmps13
  by_cases hbig0 : 1048576 < (len0 : Int)
  · go_wp2
    go_ret
    exact ⟨rfl, Below.refl _ _⟩
  go_wp2_with fail
  refine (unhide HD).mono ?_
  rintro e w1 ⟨g, o, c, bs, d, z, dc, dk, rfl, S1, hc4, B⟩
  have h4 := S1.fs.four
  have h6 := S1.six
  have hp4 := hide S1.fs.pgs
  have hs := S1.at
  clear HD S1
  generalize (some ⟨g, o, none⟩ : Option Addr) = fa at *
  generalize (some ⟨d, z, none⟩ : Option Addr) = da at *
  have bA : Below w1.heap.size w1 (w1.alloc (.cells #[.slice fa bs.length c, .slice da dk.length dc] 54)) := (Below.refl _ _).alloc (Nat.le_refl _) _
  have bx := Bx.new w1 (.slice fa bs.length c) (.slice da dk.length dc) 54
  replace hs := hs.below bA
  replace B := B.trans (bA.mono B.size)
  clear bA hc4
  have y0 := bx.c0
  have y1 := bx.c1
  have HIA := hide (fun (w' : World) (h : SAt w' fa bs da dk) => iAll2 (fc := c) (dc := dc)  w' h h4 h6)
  have HSA := hide (fun (w' : World) (h : SAt w' fa bs da dk) => sAll2 (fc := c) (dc := dc)  w' h h4 h6 (unhide hp4))
  have HSO := hide (fun (w' : World) (h : SAt w' fa bs da dk) => sOk (fc := c) (dc := dc)  w' h h4 h6 (unhide hp4))
  have HIR := hide (fun (k : Int) (w' : World) (h : SAt w' fa bs da dk) => iRead (fc := c) (dc := dc) k w' h h4 h6)
  have HSS := hide (show (Try.prog.info? 54).map (·.size) = some 2 by kernel_rfl)
  have HQ := hide (fun (a1 a2 : Option Addr) (c1 c2 : Nat) (w' : World) (h1 : DkAt w' a1 (alS bs dk)) (h2 : DkAt w' a2 (alS bs dk)) => lqSame a1 a2 c1 c2 (alS bs dk) w' h1 h2 al_le)
  have HQZ := hide (fun (a1 a2 : Option Addr) (c1 c2 : Nat) (w' : World) (h1 : DkAt w' a1 zDk) (h2 : DkAt w' a2 zDk) => (lqSame a1 a2 c1 c2 zDk w' h1 h2 (by decide) : Calls Try.prog 53 #[.slice a1 6 c1, .slice a2 6 c2] w' fun e w'' => e = .returned (.bool true) ∧ Below w'.heap.size w' w''))
  have HAZ := hide iAllN
  have HNS := hide newS_any
  have HM := hide (show (Try.prog.info? 3).map (fun i => (i.zero, i.size, i.bytes)) = some (some (.int .i64 0), 1, 8) by kernel_rfl)
  have HAL := hide (fun (h : stB bs dk = true) => al_len h)
  have HAT := hide (fun (h : stB bs dk = true) => al_at h)
  generalize alS bs dk = LL at *
  go_wp2_with fail
  generalize w1.alloc (.cells #[.slice fa bs.length c, .slice da dk.length dc] 54) = w2 at *
  generalize w1.heap.size = sb at *
  refine (unhide HIA _ hs).mono ?_
  rintro e u1 ⟨la, lc, rfl, l, b⟩
  replace hs := hs.below b
  replace bx := bx.below b
  clear y0 y1
  have y0 := bx.c0
  have y1 := bx.c1
  replace B := B.trans (b.mono B.size)
  clear b
  go_wp2_with fail
  refine (unhide HSA _ hs).mono ?_
  rintro e u2 ⟨ma, mc, rfl, m, b⟩
  replace hs := hs.below b
  replace l := l.below b
  replace bx := bx.below b
  clear y0 y1
  have y0 := bx.c0
  have y1 := bx.c1
  replace B := B.trans (b.mono B.size)
  clear b
  go_wp2_with fail
  refine (unhide HQ _ _ _ _ _ l m).mono ?_
  rintro e u3 ⟨rfl, b⟩
  replace hs := hs.below b
  replace l := l.below b
  replace m := m.below b
  replace bx := bx.below b
  clear y0 y1
  have y0 := bx.c0
  have y1 := bx.c1
  replace B := B.trans (b.mono B.size)
  clear b
  go_wp2_with fail
  refine (unhide HSO _ hs).mono ?_
  rintro e u4 ⟨rfl, b⟩
  replace hs := hs.below b
  replace l := l.below b
  replace bx := bx.below b
  clear y0 y1
  have y0 := bx.c0
  have y1 := bx.c1
  replace B := B.trans (b.mono B.size)
  clear b
  clear m
  cases hst : stB bs dk
  · go_wp2_with fail
    refine (unhide HSA _ hs).mono ?_
    rintro e u5 ⟨ma, mc, rfl, m, b⟩
    replace hs := hs.below b
    replace l := l.below b
    replace bx := bx.below b
    clear y0 y1
    have y0 := bx.c0
    have y1 := bx.c1
    replace B := B.trans (b.mono B.size)
    clear b
    go_wp2_with fail
    refine (unhide HQ _ _ _ _ _ l m).mono ?_
    rintro e u6 ⟨rfl, b⟩
    replace hs := hs.below b
    replace l := l.below b
    replace m := m.below b
    replace bx := bx.below b
    clear y0 y1
    have y0 := bx.c0
    have y1 := bx.c1
    replace B := B.trans (b.mono B.size)
    clear b
    go_wp2
    go_ret
    exact ⟨rfl, B⟩
  have hl6 : LL.length = 6 := unhide HAL hst
  have HAT2 := hide (unhide HAT hst)
  obtain ⟨lb, lo, rfl, hlc⟩ := l.lies (by omega)
  have HLC : Hid (∀ j, j < 6 → u4.cell? ⟨lb, lo + j, none⟩ = some (.int .i64 (LL.getD j 0))) := fun j hj => hlc j (by omega)
  clear hlc l HAT HAL HIA HSA HSO HQ
  go_wp2
  go_loopw [5] (fun i w' => ∃ k : Nat, k ≤ 6 ∧ i = .int .i64 k ∧ Below u4.heap.size u4 w') (fun i _ => 6 - (intOf i).toNat)
  case atStart => exact ⟨0, by omega, rfl, Below.refl _ _⟩
  case round =>
    obtain ⟨k, hk, rfl, bw⟩ := hrel
    replace hs := hs.below bw
    replace bx := bx.below bw
    clear y0 y1
    have y0 := bx.c0
    have y1 := bx.c1
    by_cases h0 : k = 6
    · subst h0
      clear hs bx HLC HAT2
      go_upto_region 12 with fail
      refine wp_region_noPanic ?_
      refine wp_region_held_drew (S := fun w' => Kept [] wr w') (by kernel_rfl) (Kept.refl _ _).drew (fun hHeld => ?_)
      generalize wr.drew = y0 at *
      have z0 := hHeld.size
      refine takeL 0 (.slice (some ⟨lb, lo, none⟩) 6 lc) rfl (by kernel_rfl) (by kernel_rfl) (by kernel_rfl) (fun _ _ _ h => h) (Or.inl ⟨rfl, fun _ _ => rfl⟩) hHeld ?_
      try simp only [Act.put, List.setIfInBounds_toArray, List.set_cons_zero, List.set_cons_succ]
      refine takeL 1 (.int .i64 6) rfl (by kernel_rfl) (by kernel_rfl) (by kernel_rfl) (fun _ _ _ h => h) (Or.inl ⟨rfl, fun w9 hSw => by go_simp⟩) hHeld ?_
      try simp only [Act.put, List.setIfInBounds_toArray, List.set_cons_zero, List.set_cons_succ]
      refine takeL 2 (.bool true) rfl (by kernel_rfl) (by kernel_rfl) (by kernel_rfl) (fun _ _ _ h => h) (Or.inl ⟨rfl, fun w9 hSw => by go_simp⟩) hHeld ?_
      try simp only [Act.put, List.setIfInBounds_toArray, List.set_cons_zero, List.set_cons_succ]
      refine takeL 3 (.bool true) rfl (by kernel_rfl) (by kernel_rfl) (by kernel_rfl) (fun _ _ _ h => h) (Or.inl ⟨rfl, fun _ _ => rfl⟩) hHeld ?_
      try simp only [Act.put, List.setIfInBounds_toArray, List.set_cons_zero, List.set_cons_succ]
      refine OrdL.twoL 4 6 rfl rfl (by kernel_rfl) rfl rfl  (fun K hK => ?_) (fun K hK => ?_) 
      · go_simp
        refine (unhide HNS _).mono ?_
        rintro e y1 ⟨g9, d9, rfl, hz, b⟩
        go_wp2_with fail
        refine hK.out _ _ (hHeld.trans (Kept.of b)) (fun hHeld => ?_)
        clear hK K
        try simp only [Act.put, List.setIfInBounds_toArray, List.set_cons_zero, List.set_cons_succ]
        have z1 := b.size
        clear b
        refine OrdL.twoL 5 6 rfl rfl (by kernel_rfl) rfl rfl  (fun K hK => ?_) (fun K hK => ?_) 
        · go_simp
          refine (unhide HAZ _ _ _ _ _ hz).mono ?_
          rintro e y2 ⟨za, zc, rfl, hza, b⟩
          go_wp2_with fail
          replace hz := hz.below b
          refine hK.out _ _ (hHeld.trans (Kept.of b)) (fun hHeld => ?_)
          clear hK K
          try simp only [Act.put, List.setIfInBounds_toArray, List.set_cons_zero, List.set_cons_succ]
          have z2 := b.size
          clear b
          refine oneL 6 rfl (by kernel_rfl) rfl (fun K hK => ?_)
          refine wp_make_big 47 _ _ rfl 6 rfl rfl 3 1 8 (.int .i64 0) Try.underlying47 (unhide HM) (by omega) (by omega) ?_
          rw [NwA.made6]
          have b : Below y2.heap.size y2 (y2.alloc (.cells (isC zDk).toArray 3)) := (Below.refl _ _).alloc (Nat.le_refl _) _
          have cM := CsAt.new y2 (isC zDk) 3
          have lcM := hHeld.size
          replace hz := hz.below b
          replace hza := hza.below b
          refine hK.out _ _ (hHeld.trans (Kept.of b)) (fun hHeld => ?_)
          clear hK K
          try simp only [Act.put, List.setIfInBounds_toArray, List.set_cons_zero, List.set_cons_succ]
          have z3 := b.size
          generalize y2.alloc (.cells (isC zDk).toArray 3) = y3 at *
          generalize y2.heap.size = mb at *
          clear b
          refine oneL 7 rfl (by kernel_rfl) rfl (fun K hK => ?_)
          go_simp
          refine (unhide HQZ _ _ _ _ _ hza (.inr ⟨mb, 0, rfl, cM.cells⟩)).mono ?_
          rintro e y4 ⟨rfl, b⟩
          go_wp2_with fail
          replace hz := hz.below b
          replace hza := hza.below b
          replace cM := CsAt.below cM b (CsAt.lt cM (by simp [isC, zDk]))
          refine hK.out _ _ (hHeld.trans (Kept.of b)) (fun hHeld => ?_)
          clear hK K
          try simp only [Act.put, List.setIfInBounds_toArray, List.set_cons_zero, List.set_cons_succ]
          have z4 := b.size
          clear b
          refine takeL 8 (.bool true) rfl (by kernel_rfl) (by kernel_rfl) (by kernel_rfl) (fun _ _ _ h => h) (Or.inl ⟨rfl, fun w9 hSw => by go_simp⟩) hHeld ?_
          try simp only [Act.put, List.setIfInBounds_toArray, List.set_cons_zero, List.set_cons_succ]
          refine takeL 9 (.bool true) rfl (by kernel_rfl) (by kernel_rfl) (by kernel_rfl) (fun _ _ _ h => h) (Or.inl ⟨rfl, fun _ _ => rfl⟩) hHeld ?_
          try simp only [Act.put, List.setIfInBounds_toArray, List.set_cons_zero, List.set_cons_succ]
          refine wpAnyH_done (by kernel_rfl) ?_ _
          refine NoPanic.normal ?_
          have B2 := B.trans ((bw.trans ((Kept.all hHeld (by simp)).mono bw.size)).mono B.size)
          clear hHeld
          go_wp2
          go_ret
          exact ⟨rfl, B2⟩
        · refine wp_make_big 47 _ _ rfl 6 rfl rfl 3 1 8 (.int .i64 0) Try.underlying47 (unhide HM) (by omega) (by omega) ?_
          rw [NwA.made6]
          have b : Below y1.heap.size y1 (y1.alloc (.cells (isC zDk).toArray 3)) := (Below.refl _ _).alloc (Nat.le_refl _) _
          have cM := CsAt.new y1 (isC zDk) 3
          have lcM := hHeld.size
          replace hz := hz.below b
          refine hK.out _ _ (hHeld.trans (Kept.of b)) (fun hHeld => ?_)
          clear hK K
          try simp only [Act.put, List.setIfInBounds_toArray, List.set_cons_zero, List.set_cons_succ]
          have z2 := b.size
          generalize y1.alloc (.cells (isC zDk).toArray 3) = y2 at *
          generalize y1.heap.size = mb at *
          clear b
          refine oneL 5 rfl (by kernel_rfl) rfl (fun K hK => ?_)
          go_simp
          refine (unhide HAZ _ _ _ _ _ hz).mono ?_
          rintro e y3 ⟨za, zc, rfl, hza, b⟩
          go_wp2_with fail
          replace hz := hz.below b
          replace cM := CsAt.below cM b (CsAt.lt cM (by simp [isC, zDk]))
          refine hK.out _ _ (hHeld.trans (Kept.of b)) (fun hHeld => ?_)
          clear hK K
          try simp only [Act.put, List.setIfInBounds_toArray, List.set_cons_zero, List.set_cons_succ]
          have z3 := b.size
          clear b
          refine oneL 7 rfl (by kernel_rfl) rfl (fun K hK => ?_)
          go_simp
          refine (unhide HQZ _ _ _ _ _ hza (.inr ⟨mb, 0, rfl, cM.cells⟩)).mono ?_
          rintro e y4 ⟨rfl, b⟩
          go_wp2_with fail
          replace hz := hz.below b
          replace cM := CsAt.below cM b (CsAt.lt cM (by simp [isC, zDk]))
          replace hza := hza.below b
          refine hK.out _ _ (hHeld.trans (Kept.of b)) (fun hHeld => ?_)
          clear hK K
          try simp only [Act.put, List.setIfInBounds_toArray, List.set_cons_zero, List.set_cons_succ]
          have z4 := b.size
          clear b
          refine takeL 8 (.bool true) rfl (by kernel_rfl) (by kernel_rfl) (by kernel_rfl) (fun _ _ _ h => h) (Or.inl ⟨rfl, fun w9 hSw => by go_simp⟩) hHeld ?_
          try simp only [Act.put, List.setIfInBounds_toArray, List.set_cons_zero, List.set_cons_succ]
          refine takeL 9 (.bool true) rfl (by kernel_rfl) (by kernel_rfl) (by kernel_rfl) (fun _ _ _ h => h) (Or.inl ⟨rfl, fun _ _ => rfl⟩) hHeld ?_
          try simp only [Act.put, List.setIfInBounds_toArray, List.set_cons_zero, List.set_cons_succ]
          refine wpAnyH_done (by kernel_rfl) ?_ _
          refine NoPanic.normal ?_
          have B2 := B.trans ((bw.trans ((Kept.all hHeld (by simp)).mono bw.size)).mono B.size)
          clear hHeld
          go_wp2
          go_ret
          exact ⟨rfl, B2⟩
      · refine wp_make_big 47 _ _ rfl 6 rfl rfl 3 1 8 (.int .i64 0) Try.underlying47 (unhide HM) (by omega) (by omega) ?_
        rw [NwA.made6]
        have b : Below y0.heap.size y0 (y0.alloc (.cells (isC zDk).toArray 3)) := (Below.refl _ _).alloc (Nat.le_refl _) _
        have cM := CsAt.new y0 (isC zDk) 3
        have lcM := hHeld.size
        refine hK.out _ _ (hHeld.trans (Kept.of b)) (fun hHeld => ?_)
        clear hK K
        try simp only [Act.put, List.setIfInBounds_toArray, List.set_cons_zero, List.set_cons_succ]
        have z1 := b.size
        generalize y0.alloc (.cells (isC zDk).toArray 3) = y1 at *
        generalize y0.heap.size = mb at *
        clear b
        refine oneL 4 rfl (by kernel_rfl) rfl (fun K hK => ?_)
        go_simp
        refine (unhide HNS _).mono ?_
        rintro e y2 ⟨g9, d9, rfl, hz, b⟩
        go_wp2_with fail
        replace cM := CsAt.below cM b (CsAt.lt cM (by simp [isC, zDk]))
        refine hK.out _ _ (hHeld.trans (Kept.of b)) (fun hHeld => ?_)
        clear hK K
        try simp only [Act.put, List.setIfInBounds_toArray, List.set_cons_zero, List.set_cons_succ]
        have z2 := b.size
        clear b
        refine oneL 5 rfl (by kernel_rfl) rfl (fun K hK => ?_)
        go_simp
        refine (unhide HAZ _ _ _ _ _ hz).mono ?_
        rintro e y3 ⟨za, zc, rfl, hza, b⟩
        go_wp2_with fail
        replace cM := CsAt.below cM b (CsAt.lt cM (by simp [isC, zDk]))
        replace hz := hz.below b
        refine hK.out _ _ (hHeld.trans (Kept.of b)) (fun hHeld => ?_)
        clear hK K
        try simp only [Act.put, List.setIfInBounds_toArray, List.set_cons_zero, List.set_cons_succ]
        have z3 := b.size
        clear b
        refine oneL 7 rfl (by kernel_rfl) rfl (fun K hK => ?_)
        go_simp
        refine (unhide HQZ _ _ _ _ _ hza (.inr ⟨mb, 0, rfl, cM.cells⟩)).mono ?_
        rintro e y4 ⟨rfl, b⟩
        go_wp2_with fail
        replace cM := CsAt.below cM b (CsAt.lt cM (by simp [isC, zDk]))
        replace hz := hz.below b
        replace hza := hza.below b
        refine hK.out _ _ (hHeld.trans (Kept.of b)) (fun hHeld => ?_)
        clear hK K
        try simp only [Act.put, List.setIfInBounds_toArray, List.set_cons_zero, List.set_cons_succ]
        have z4 := b.size
        clear b
        refine takeL 8 (.bool true) rfl (by kernel_rfl) (by kernel_rfl) (by kernel_rfl) (fun _ _ _ h => h) (Or.inl ⟨rfl, fun w9 hSw => by go_simp⟩) hHeld ?_
        try simp only [Act.put, List.setIfInBounds_toArray, List.set_cons_zero, List.set_cons_succ]
        refine takeL 9 (.bool true) rfl (by kernel_rfl) (by kernel_rfl) (by kernel_rfl) (fun _ _ _ h => h) (Or.inl ⟨rfl, fun _ _ => rfl⟩) hHeld ?_
        try simp only [Act.put, List.setIfInBounds_toArray, List.set_cons_zero, List.set_cons_succ]
        refine wpAnyH_done (by kernel_rfl) ?_ _
        refine NoPanic.normal ?_
        have B2 := B.trans ((bw.trans ((Kept.all hHeld (by simp)).mono bw.size)).mono B.size)
        clear hHeld
        go_wp2
        go_ret
        exact ⟨rfl, B2⟩
    · have hlt : (k : Int) < 6 := by omega
      have hkk : k < 6 := by omega
      have X1 := unhide HLC k hkk
      have lbl := Fl.cell_lt X1
      replace X1 := (bw.cell (p := ⟨lb, lo + k, none⟩) (by simpa using lbl)).trans X1
      have lbw : lb < wr.heap.size := Nat.lt_of_lt_of_le (by simpa using lbl) bw.size
      have hx := unhide HAT2 k hkk
      have HXR : ∀ (w' : World), SAt w' fa bs da dk → _ := fun w' h => unhide HIR ((k : Int) + 1) w' h
      rw [← hx] at HXR
      clear hx lbl HLC HAT2
      generalize LL.getD k 0 = x at *
      have hxx : (x != x) = false := by simp
      have hwk : IntKind.i64.wrap ((k : Int) + 1) = (k : Int) + 1 := by rw [IntKind.wrap_i64]; omega
      go_upto_region 10 with fail
      apply OrdL.join0 (F := fun  w' => Kept [] wr w')
      case h =>
        refine wp_region_noPanic ?_
        refine wp_region_held_drew (S := fun w' => Kept [] wr w') (by kernel_rfl) (Kept.refl _ _).drew (fun hHeld => ?_)
        generalize wr.drew = y0 at *
        have z0 := hHeld.size
        refine takeL 0 (.slice (some ⟨lb, lo, none⟩) 6 lc) rfl (by kernel_rfl) (by kernel_rfl) (by kernel_rfl) (fun _ _ _ h => h) (Or.inl ⟨rfl, fun _ _ => rfl⟩) hHeld ?_
        try simp only [Act.put, List.setIfInBounds_toArray, List.set_cons_zero, List.set_cons_succ]
        refine takeL 1 (.int .i64 k) rfl (by kernel_rfl) (by kernel_rfl) (by kernel_rfl) (fun _ _ _ h => h) (Or.inl ⟨rfl, fun _ _ => rfl⟩) hHeld ?_
        try simp only [Act.put, List.setIfInBounds_toArray, List.set_cons_zero, List.set_cons_succ]
        refine takeL 2 (.pointer (some ⟨lb, lo + k, none⟩)) rfl (by kernel_rfl) (by kernel_rfl) (by kernel_rfl) (fun _ _ _ h => h) (Or.inl ⟨rfl, fun w9 hSw => by go_simp⟩) hHeld ?_
        try simp only [Act.put, List.setIfInBounds_toArray, List.set_cons_zero, List.set_cons_succ]
        refine takeL 3 (.int .i64 x) rfl (by kernel_rfl) (by kernel_rfl) (by kernel_rfl) (fun _ _ _ h => h) (Or.inl ⟨rfl, fun w9 hSw => by have hc := (hSw.cell (b := lb) (lo + k) (by omega) (by simp)).trans X1; go_simp⟩) hHeld ?_
        try simp only [Act.put, List.setIfInBounds_toArray, List.set_cons_zero, List.set_cons_succ]
        refine takeL 4 (.agg #[.slice fa bs.length c, .slice da dk.length dc]) rfl (by kernel_rfl) (by kernel_rfl) (by kernel_rfl) (fun _ _ _ h => h) (yieldsIf_load_mid rfl 54 _ rfl sb 0 rfl [.slice fa bs.length c, .slice da dk.length dc] _ (fun _ h => rng2 (bx.below (Kept.all h (by simp)))) Try.underlying54 rfl (unhide HSS)) hHeld ?_
        try simp only [Act.put, List.setIfInBounds_toArray, List.set_cons_zero, List.set_cons_succ]
        refine takeL 5 (.int .i64 k) rfl (by kernel_rfl) (by kernel_rfl) (by kernel_rfl) (fun _ _ _ h => h) (Or.inl ⟨rfl, fun _ _ => rfl⟩) hHeld ?_
        try simp only [Act.put, List.setIfInBounds_toArray, List.set_cons_zero, List.set_cons_succ]
        refine takeL 6 (.int .i64 ((k : Int) + 1)) rfl (by kernel_rfl) (by kernel_rfl) (by kernel_rfl) (fun _ _ _ h => h) (Or.inl ⟨rfl, fun w9 hSw => by go_simp⟩) hHeld ?_
        try simp only [Act.put, List.setIfInBounds_toArray, List.set_cons_zero, List.set_cons_succ]
        refine oneL 7 rfl (by kernel_rfl) rfl (fun K hK => ?_)
        go_simp
        refine (HXR _ (hs.below (Kept.all hHeld (by simp)))).mono ?_
        rintro e y1 ⟨rfl, b⟩
        go_wp2_with fail
        refine hK.out _ _ (hHeld.trans (Kept.of b)) (fun hHeld => ?_)
        clear hK K
        try simp only [Act.put, List.setIfInBounds_toArray, List.set_cons_zero, List.set_cons_succ]
        have z1 := b.size
        clear b
        refine takeL 8 (.bool false) rfl (by kernel_rfl) (by kernel_rfl) (by kernel_rfl) (fun _ _ _ h => h) (Or.inl ⟨rfl, fun w9 hSw => by go_simp⟩) hHeld ?_
        try simp only [Act.put, List.setIfInBounds_toArray, List.set_cons_zero, List.set_cons_succ]
        refine wpAnyH_done (by kernel_rfl) ?_ _
        refine NoPanic.normal ?_
        exact ⟨rfl, rfl, hHeld⟩
      case k =>
        rintro w' K
        have K2 := bw.trans ((Kept.all K (by simp)).mono bw.size)
        clear K hs bx X1
        go_wp2
        go_roundw
        case rel => exact ⟨k + 1, by omega, by first | rfl | go_num, K2⟩
        case measure => simp [intOf]; omega


set_option maxRecDepth 100000 in
theorem lifted (os : Os) (started : os.Started) (H : Type) (enc : TypeId × Value → H) :
    ReturnsInHanded {} Try.checked os 13 .any (Rows.fnAllSpec.pre6 enc Try.prog Try.f13 Rows.fnAllRow.domain false) (Rows.fnAllSpec.post enc Try.prog Try.f13 false true false false) := by
  refine returnsInHanded_of_change (C := Try.checked) own started (by kernel_rfl) Try.func13
    (ChangeSpec.witness6 (enc := enc) (C := Try.checked) false ⟨#[], #[.slice none 0 0], []⟩ 8 (by kernel_rfl) (by kernel_rfl) (by kernel_rfl) (by kernel_rfl)) ?_
  intro W base args ds gs before hval0 hW hcnd _
  have hval : ∀ (j : Nat) t v, Try.f13.params[j]? = some t → args[j]? = some v → Value.okWide Try.prog W .any base t v := hval0
  have hW' := hW
  obtain ⟨p, q, hA0, hV, rfl, hfz, hnd⟩ := hW
  have hA : DataW.TrodAll enc Try.prog W 0 (fun _ => true) true Try.f13.params.toList args.toList ds p := hA0
  rw [Try.params13] at hA hval
  obtain ⟨v0, vs0, d0, ds0, p0, q0, hargs, rfl, rfl, h0, r0⟩ := trodAll_cons hA
  obtain ⟨rfl, rfl, rfl⟩ := trodAll_nil r0
  obtain rfl : args = #[v0] := by cases args; simp_all
  obtain ⟨rfl, rfl⟩ := trodVars_none hV
  have kk0 := h0
  have lt0 : ∀ x ∈ p0, x.block < W.heap.size := by obtain ⟨m, hm⟩ := kk0; exact DataW.trod_lt m _ _ _ hm
  obtain ⟨a0, len0, cap0, rfl⟩ := okWide_slice Try.underlying22 (hval 0 22 v0 rfl rfl)
  obtain ⟨z0, w0⟩ : ∃ zs, IsRow .u8 W a0 len0 cap0 zs := by
    obtain ⟨fuel, hf⟩ := h0
    rcases open_ints Try.underlying22 Try.underlying5 (by kernel_rfl) hf with ⟨hcs, _⟩ | ⟨x, l, c, zs, hcs, _, hl, hm, hz, _, hcell, hwz⟩
    · simp [Value.cells] at hcs
      obtain ⟨rfl, rfl, rfl⟩ := hcs
      exact ⟨[], .inl ⟨rfl, rfl, rfl, rfl⟩⟩
    · simp [Value.cells] at hcs
      obtain ⟨rfl, rfl, rfl⟩ := hcs
      exact ⟨zs, .inr ⟨_, rfl, hl, hm, by simpa using hz, hcell, hwz⟩⟩
  clear hA0
  refine (walk a0 len0 cap0 z0 W w0).mono fun e W' ⟨he, bel⟩ => ?_
  subst he
  exact ⟨_, rfl, _, _, _, [], _, [], hW', trodAll_mk1 (shut_bool Try.underlying4 _), (trodAll_cons_mk (Below.trod laidOut (by kernel_rfl) (of_decide_eq_true (by kernel_rfl)) kk0 bel lt0) trodAll_mk0), rfl, bel.frame _, fun h => by cases h⟩

set_option maxRecDepth 100000 in
theorem facts : joinedFacts Try.prog 13 Try.f13 Rows.fnAllSpec Rows.fnAllRow = true := by
  unfold joinedFacts
  refine Facts.and_t ?_ (by as_aux_lemma => kernel_rfl)
  refine Facts.and_t ?_ (by as_aux_lemma => kernel_rfl)
  refine Facts.and_t ?_ (by as_aux_lemma => kernel_rfl)
  refine Facts.and_t ?_ (by as_aux_lemma => kernel_rfl)
  refine Facts.and_t ?_ (by show (Try.prog.make == some Make.cut) = true; rw [Facts.made]; rfl)
  refine Facts.and_t ?_ (by show (false == Try.prog.liftsFinal) = true; rw [Facts.lifts]; rfl)
  refine Facts.and_t ?_ (Facts.enters)
  refine Facts.and_t ?_ (Facts.heard)
  refine Facts.and_t ?_ (rfl)
  refine Facts.and_t ?_ (by show (true == Try.prog.plainKeys) = true; rw [Facts.keys]; rfl)
  refine Facts.and_t ?_ (by as_aux_lemma => kernel_rfl)
  refine Facts.and_t ?_ (by as_aux_lemma => kernel_rfl)
  refine Facts.and_t ?_ (by as_aux_lemma => kernel_rfl)
  refine Facts.and_t ?_ (by as_aux_lemma => kernel_rfl)
  refine Facts.and_t ?_ (by as_aux_lemma => kernel_rfl)
  refine Facts.and_t ?_ (by as_aux_lemma => kernel_rfl)
  refine Facts.and_t ?_ (by as_aux_lemma => kernel_rfl)
  refine Facts.and_t ?_ (by as_aux_lemma => kernel_rfl)
  refine Facts.and_t ?_ (by as_aux_lemma => kernel_rfl)
  refine Facts.and_t ?_ (by as_aux_lemma => kernel_rfl)
  refine Facts.and_t ?_ (by as_aux_lemma => kernel_rfl)
  refine Facts.and_t ?_ (by as_aux_lemma => kernel_rfl)
  refine Facts.and_t ?_ (by as_aux_lemma => kernel_rfl)
  refine Facts.and_t ?_ (by as_aux_lemma => kernel_rfl)
  refine Facts.and_t ?_ (by as_aux_lemma => kernel_rfl)
  refine Facts.and_t ?_ (by as_aux_lemma => kernel_rfl)
  refine Facts.and_t ?_ (by as_aux_lemma => kernel_rfl)
  refine Facts.and_t ?_ (by as_aux_lemma => kernel_rfl)
  refine Facts.and_t ?_ (by as_aux_lemma => kernel_rfl)
  refine Facts.and_t ?_ (Facts.rowed)
  refine Facts.and_t ?_ (Facts.laidOut)
  kernel_rfl

theorem over : Rows.fnAllRow.holds Try.pinned (OpenSpec.ofChange Rows.fnAllSpec) :=
  OpenClaim.holds_of_wide 13 Try.f13 rfl rfl rfl rfl rfl rfl rfl ⟨rfl, rfl, rfl, rfl, rfl⟩ rfl rfl rfl rfl rfl (by kernel_rfl) Try.func13 facts
    (of_decide_eq_true (by kernel_rfl)) (by unfold Func.isWrapper; first | (rw [if_pos (by decide +kernel)]; kernel_rfl) | (rw [if_neg (by decide +kernel)]; exact ⟨rfl, rfl⟩))
    (fun os started H enc _ => lifted os started H enc)

end Go.Proofs.Ytiplhdcapnboaaa.AllS
namespace Go.Proofs.Ytiplhdcapnboaaa
theorem fnAll_holds : Rows.FnAllSaid := AllS.over
end Go.Proofs.Ytiplhdcapnboaaa
