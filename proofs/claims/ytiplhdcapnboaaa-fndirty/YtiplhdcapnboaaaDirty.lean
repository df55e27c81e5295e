/-
  What is not dirty the slow disk has: so it has of a drawn store. The given statement, with no condition.
-/
import Derived.Test.YtiplhdcapnboaaaPx
import Derived.Test.YtiplhdcapnboaaaPlE
import Derived.Test.YtiplhdcapnboaaaImplX
import Derived.Test.YtiplhdcapnboaaaPy
import Derived.Test.YtiplhdcapnboaaaFacts
import Derived.Lib.SmallJoins
namespace Go.Proofs.Ytiplhdcapnboaaa.Dirty
open Go.ChangeShapes Go.WideShapes Go.ChangeAt Go.RowKit Go.Shelf Go.Joins OkA Big Fl ImplB ImplF ImplS ImplT ImplU SpecA SpecB SpecC SpecD SpecW SpecX SpecF SpecG SpecH FindP FindN FindO FindD ImplW ImplX Pick Draw ClA DrB PlB Pl FindL StA StB StC StD StE StF StG SpS SpT DrS Sv LqI Py Px NwA LqI Sn9 ImplL Kp DoA
open FlB (FsN)
open StN (SN)
open Facts (own laidOut)
set_option linter.unusedVariables false
set_option linter.unusedSimpArgs false
attribute [local go_sem ↓] Go.wp_at_zero Go.wp_at_succ

theorem dy_le (bs : List Bk) (dk : List Int) : (dyS bs dk).length ≤ 6 := by
  unfold dyS
  split
  · exact dyK_len bs 6
  · simp

set_option maxRecDepth 100000 in
set_option maxHeartbeats 8000000 in
theorem walk (a0 : Option Addr) (len0 cap0 : Nat) (z0 : List Int) (w : World) (h0 : IsRow .u8 w a0 len0 cap0 z0) :
    Calls Try.prog 14 #[.slice a0 len0 cap0] w fun e w' => e = .returned (.bool true) ∧ Below w.heap.size w w' := by
  have HD := hide (drawSdirty_any w a0 len0 cap0 z0 h0)
  clear h0
  go_enter Try.func14, Try.ntmps14
  by_cases hbig0 : 1048576 < (len0 : Int)
  · go_wp2
    go_ret
    exact ⟨rfl, Below.refl _ _⟩
  go_wp2_with fail
  refine (unhide HD).mono ?_
  rintro e w1 ⟨g, o, c, bs, d, z, dc, dk, rfl, S1, hc4, B⟩
  have h4 := S1.fs.four
  have h6 := S1.six
  have hp4 := hide S1.fs.pgs
  have hs := S1.at
  clear HD S1
  generalize (some ⟨g, o, none⟩ : Option Addr) = fa at *
  generalize (some ⟨d, z, none⟩ : Option Addr) = da at *
  have bA : Below w1.heap.size w1 (w1.alloc (.cells #[.slice fa bs.length c, .slice da dk.length dc] 54)) := (Below.refl _ _).alloc (Nat.le_refl _) _
  have bx := Bx.new w1 (.slice fa bs.length c) (.slice da dk.length dc) 54
  replace hs := hs.below bA
  replace B := B.trans (bA.mono B.size)
  clear bA hc4
  have y0 := bx.c0
  have y1 := bx.c1
  have HIA := hide (fun (w' : World) (h : SAt w' fa bs da dk) => iDirty2 (fc := c) (dc := dc)  w' h h4 h6)
  have HSA := hide (fun (w' : World) (h : SAt w' fa bs da dk) => sDirty2 (fc := c) (dc := dc)  w' h h4 h6 (unhide hp4))
  have HSO := hide (fun (w' : World) (h : SAt w' fa bs da dk) => sOk (fc := c) (dc := dc)  w' h h4 h6 (unhide hp4))
  have HIR := hide (fun (k : Int) (w' : World) (h : SAt w' fa bs da dk) => iRead (fc := c) (dc := dc) k w' h h4 h6)
  have HSS := hide (show (Try.prog.info? 54).map (·.size) = some 2 by kernel_rfl)
  have HIL := hide (fun (k : Int) (r : Rc) (o : Bool) (hr : flR bs k = r) (ho : flO bs k = o) (w' : World) (h : SAt w' fa bs da dk) => iLast (fc := c) k r o hr ho w' h.fs h4)
  have HQ := hide (fun (a1 a2 : Option Addr) (c1 c2 : Nat) (w' : World) (h1 : DkAt w' a1 (dyS bs dk)) (h2 : DkAt w' a2 (dyS bs dk)) => lqSame a1 a2 c1 c2 (dyS bs dk) w' h1 h2 (dy_le bs dk))
  have HAT := hide (fun (h : stB bs dk = true) => dy_at h)
  have HCL := hide (fun (h : stB bs dk = true) => clean_rd h)
  have HDF := hide (fun (h : stB bs dk = true) (k : Int) (h1 : 1 ≤ k) (h6 : k ≤ 6) => dirty_fl h h1 h6)
  have HEN : Hid (stB bs dk = true → (dyS bs dk).length = dyN bs 6) := fun h => by rw [dy_ok h]; rfl
  generalize dyS bs dk = LL at *
  go_wp2_with fail
  generalize w1.alloc (.cells #[.slice fa bs.length c, .slice da dk.length dc] 54) = w2 at *
  generalize w1.heap.size = sb at *
  refine (unhide HIA _ hs).mono ?_
  rintro e u1 ⟨la, lc, rfl, l, b⟩
  replace hs := hs.below b
  replace bx := bx.below b
  clear y0 y1
  have y0 := bx.c0
  have y1 := bx.c1
  replace B := B.trans (b.mono B.size)
  clear b
  go_wp2_with fail
  refine (unhide HSA _ hs).mono ?_
  rintro e u2 ⟨ma, mc, rfl, m, b⟩
  replace hs := hs.below b
  replace l := l.below b
  replace bx := bx.below b
  clear y0 y1
  have y0 := bx.c0
  have y1 := bx.c1
  replace B := B.trans (b.mono B.size)
  clear b
  go_wp2_with fail
  refine (unhide HQ _ _ _ _ _ l m).mono ?_
  rintro e u3 ⟨rfl, b⟩
  replace hs := hs.below b
  replace l := l.below b
  replace m := m.below b
  replace bx := bx.below b
  clear y0 y1
  have y0 := bx.c0
  have y1 := bx.c1
  replace B := B.trans (b.mono B.size)
  clear b
  go_wp2_with fail
  refine (unhide HSO _ hs).mono ?_
  rintro e u4 ⟨rfl, b⟩
  replace hs := hs.below b
  replace l := l.below b
  replace bx := bx.below b
  clear y0 y1
  have y0 := bx.c0
  have y1 := bx.c1
  replace B := B.trans (b.mono B.size)
  clear b
  clear m
  cases hst : stB bs dk
  · go_wp2_with fail
    refine (unhide HSA _ hs).mono ?_
    rintro e u5 ⟨ma, mc, rfl, m, b⟩
    replace hs := hs.below b
    replace l := l.below b
    replace bx := bx.below b
    clear y0 y1
    have y0 := bx.c0
    have y1 := bx.c1
    replace B := B.trans (b.mono B.size)
    clear b
    go_wp2_with fail
    refine (unhide HQ _ _ _ _ _ l m).mono ?_
    rintro e u6 ⟨rfl, b⟩
    replace hs := hs.below b
    replace l := l.below b
    replace m := m.below b
    replace bx := bx.below b
    clear y0 y1
    have y0 := bx.c0
    have y1 := bx.c1
    replace B := B.trans (b.mono B.size)
    clear b
    go_wp2
    go_ret
    exact ⟨rfl, B⟩
  clear HSA HIA HSO HQ
  have HAT2 := hide (unhide HAT hst)
  have HCL2 := hide (unhide HCL hst)
  have HDF2 := hide (unhide HDF hst)
  have HEN2 := hide (unhide HEN hst)
  have HD6 := hide (st_iff.1 hst).2.1
  have l0 := l
  clear HAT HCL HDF HEN hst
  go_wp2
  go_loopw [5, 6] (fun q i w' => ∃ j : Nat, j ≤ 6 ∧ i = .int .i64 ((j : Int) + 1) ∧ q = .int .i64 (dyN bs j : Nat) ∧ Below u4.heap.size u4 w') (fun q i _ => 7 - (intOf i).toNat)
  case atStart => exact ⟨0, by omega, rfl, rfl, Below.refl _ _⟩
  case round =>
    obtain ⟨j, hj, rfl, rfl, bw⟩ := hrel
    replace hs := hs.below bw
    replace bx := bx.below bw
    replace l := l.below bw
    replace B := B.trans (bw.mono B.size)
    clear y0 y1
    have y0 := bx.c0
    have y1 := bx.c1
    by_cases h0 : j = 6
    · subst h0
      have hen := unhide HEN2
      have hnb : (dyN bs 6 : Int) = (LL.length : Int) := by omega
      clear hs bx HAT2 HCL2 HEN2
      go_wp2
      go_ret
      exact ⟨rfl, B⟩
    have hj6 : j < 6 := by omega
    have hle : (j : Int) + 1 ≤ 6 := by omega
    obtain ⟨r, hr⟩ : ∃ r, flR bs ((j : Int) + 1) = r := ⟨_, rfl⟩
    obtain ⟨o9, ho⟩ : ∃ o, flO bs ((j : Int) + 1) = o := ⟨_, rfl⟩
    have HDI := hide (unhide HDF2 ((j : Int) + 1) (by omega) hle)
    rw [hr, ho] at HDI
    have HAJ := hide (unhide HAT2 j hj6)
    have HCJ := hide (unhide HCL2 j hj6)
    have HNS := hide (dyN_succ (bs := bs) j)
    have hwj1 : IntKind.i64.wrap ((j : Int) + 1 + 1) = (j : Int) + 1 + 1 := by rw [IntKind.wrap_i64] <;> omega
    have hwj0 : IntKind.i64.wrap (j : Int) = (j : Int) := by rw [IntKind.wrap_i64] <;> omega
    clear HAT2 HCL2 HDF2 HEN2 l0
    go_wp2_with fail
    refine (unhide HIL ((j : Int) + 1) r o9 hr ho _ hs).mono ?_
    rintro e u7 ⟨rfl, b⟩
    replace hs := hs.below b
    replace l := l.below b
    replace bw := bw.trans (b.mono bw.size)
    replace bx := bx.below b
    clear y0 y1
    have y0 := bx.c0
    have y1 := bx.c1
    replace B := B.trans (b.mono B.size)
    clear b
    have b : Below u7.heap.size u7 (u7.alloc (.cells #[.int .i64 r.k, .int .i64 r.s, .int .i64 r.a, .int .i64 r.v] 25)) := (Below.refl _ _).alloc (Nat.le_refl _) _
    replace hs := hs.below b
    replace l := l.below b
    replace bx := bx.below b
    clear y0 y1
    have y0 := bx.c0
    have y1 := bx.c1
    replace B := B.trans (b.mono B.size)
    replace bw := bw.trans (b.mono bw.size)
    clear b

    clear hr ho
    cases o9
    · have hdi : dirtyB bs ((j : Int) + 1) = false := by rw [unhide HDI]; rfl
      have HNJ : Hid (dyN bs (j + 1) = dyN bs j) := by show _ = _; rw [unhide HNS, hdi]; rfl
      have hx := unhide HCJ hdi
      have HXR : ∀ (w' : World), SAt w' fa bs da dk → _ := fun w' h => unhide HIR ((j : Int) + 1) w' h
      rw [hx] at HXR
      have hd6 := unhide HD6
      obtain ⟨db, do_, rfl, hdd⟩ := hs.ds.lies (by omega)
      have hdq := hdd j (by omega)
      have hdl : db < (u7.alloc (.cells #[.int .i64 r.k, .int .i64 r.s, .int .i64 r.a, .int .i64 r.v] 25)).heap.size := by have := Fl.cell_lt hdq; simpa using this
      have hjl : (j : Int) < (dk.length : Int) := by omega
      have hj0 : (0 : Int) ≤ (j : Int) := by omega
      clear hdd hd6 hx HCJ HAJ HNS HDI
      generalize dk.getD j 0 = x at *
      have hxx : (x != x) = false := by simp
      go_upto_region 16 with fail
      generalize (u7.alloc (.cells #[.int .i64 r.k, .int .i64 r.s, .int .i64 r.a, .int .i64 r.v] 25)) = wz at *
      apply OrdL.join0 (F := fun  w' => Kept [] wz w')
      case h =>
        refine wp_region_noPanic ?_
        refine wp_region_held_drew (S := fun w' => Kept [] wz w') (by kernel_rfl) (Kept.refl _ _).drew (fun hHeld => ?_)
        generalize wz.drew = y0 at *
        have z0 := hHeld.size
        refine takeL 0 (.pointer (some ⟨sb, 1, none⟩)) rfl (by kernel_rfl) (by kernel_rfl) (by kernel_rfl) (fun _ _ _ h => h) (Or.inl ⟨rfl, fun w9 hSw => by go_simp⟩) hHeld ?_
        try simp only [Act.put, List.setIfInBounds_toArray, List.set_cons_zero, List.set_cons_succ]
        refine takeL 1 (.slice (some ⟨db, do_, none⟩) dk.length dc) rfl (by kernel_rfl) (by kernel_rfl) (by kernel_rfl) (fun _ _ _ h => h) (Or.inl ⟨rfl, fun w9 hSw => by have hc := (hSw.cell (b := sb) 1 bx.lt (by simp)).trans bx.c1; go_simp⟩) hHeld ?_
        try simp only [Act.put, List.setIfInBounds_toArray, List.set_cons_zero, List.set_cons_succ]
        refine takeL 2 (.int .i64 ((j : Int) + 1)) rfl (by kernel_rfl) (by kernel_rfl) (by kernel_rfl) (fun _ _ _ h => h) (Or.inl ⟨rfl, fun _ _ => rfl⟩) hHeld ?_
        try simp only [Act.put, List.setIfInBounds_toArray, List.set_cons_zero, List.set_cons_succ]
        refine takeL 3 (.int .i64 (j : Int)) rfl (by kernel_rfl) (by kernel_rfl) (by kernel_rfl) (fun _ _ _ h => h) (Or.inl ⟨rfl, fun w9 hSw => by go_simp⟩) hHeld ?_
        try simp only [Act.put, List.setIfInBounds_toArray, List.set_cons_zero, List.set_cons_succ]
        refine takeL 4 (.pointer (some ⟨db, do_ + j, none⟩)) rfl (by kernel_rfl) (by kernel_rfl) (by kernel_rfl) (fun _ _ _ h => h) (Or.inl ⟨rfl, fun w9 hSw => by go_simp⟩) hHeld ?_
        try simp only [Act.put, List.setIfInBounds_toArray, List.set_cons_zero, List.set_cons_succ]
        refine takeL 5 (.int .i64 x) rfl (by kernel_rfl) (by kernel_rfl) (by kernel_rfl) (fun _ _ _ h => h) (Or.inl ⟨rfl, fun w9 hSw => by have hc := (hSw.cell (b := db) (do_ + j) hdl (by simp)).trans hdq; go_simp⟩) hHeld ?_
        try simp only [Act.put, List.setIfInBounds_toArray, List.set_cons_zero, List.set_cons_succ]
        refine takeL 6 (.agg #[.slice fa bs.length c, .slice (some ⟨db, do_, none⟩) dk.length dc]) rfl (by kernel_rfl) (by kernel_rfl) (by kernel_rfl) (fun _ _ _ h => h) (yieldsIf_load_mid rfl 54 _ rfl sb 0 rfl [.slice fa bs.length c, .slice (some ⟨db, do_, none⟩) dk.length dc] _ (fun _ h => rng2 (bx.below (Kept.all h (by simp)))) Try.underlying54 rfl (unhide HSS)) hHeld ?_
        try simp only [Act.put, List.setIfInBounds_toArray, List.set_cons_zero, List.set_cons_succ]
        refine takeL 7 (.int .i64 ((j : Int) + 1)) rfl (by kernel_rfl) (by kernel_rfl) (by kernel_rfl) (fun _ _ _ h => h) (Or.inl ⟨rfl, fun _ _ => rfl⟩) hHeld ?_
        try simp only [Act.put, List.setIfInBounds_toArray, List.set_cons_zero, List.set_cons_succ]
        refine oneL 8 rfl (by kernel_rfl) rfl (fun K hK => ?_)
        go_simp
        refine (HXR _ (hs.below (Kept.all hHeld (by simp)))).mono ?_
        rintro e y1 ⟨rfl, b⟩
        go_wp2_with fail
        refine hK.out _ _ (hHeld.trans (Kept.of b)) (fun hHeld => ?_)
        clear hK K
        try simp only [Act.put, List.setIfInBounds_toArray, List.set_cons_zero, List.set_cons_succ]
        have z1 := b.size
        clear b
        refine takeL 9 (.bool false) rfl (by kernel_rfl) (by kernel_rfl) (by kernel_rfl) (fun _ _ _ h => h) (Or.inl ⟨rfl, fun w9 hSw => by go_simp⟩) hHeld ?_
        try simp only [Act.put, List.setIfInBounds_toArray, List.set_cons_zero, List.set_cons_succ]
        refine wpAnyH_done (by kernel_rfl) ?_ _
        refine NoPanic.normal ?_
        exact ⟨rfl, rfl, hHeld⟩
      case k =>
        rintro w' K
        have K2 := bw.trans ((Kept.all K (by simp)).mono bw.size)
        clear K hs bx hdq l
        rw [← unhide HNJ]
        go_wp2
        go_roundw
        case rel => exact ⟨j + 1, by omega, by first | rfl | go_num | (congr 1; omega), by first | rfl | go_num | (rw [unhide HNJ]), K2⟩
        case measure => simp [intOf]; omega
    · by_cases hk1 : r.k = 1
      · have hdi : dirtyB bs ((j : Int) + 1) = true := by rw [unhide HDI]; simp [hk1]
        have HNJ : Hid (dyN bs (j + 1) = dyN bs j + 1) := by show _ = _; rw [unhide HNS, hdi]; rfl
        obtain ⟨hlt, hat⟩ := unhide HAJ hdi
        obtain ⟨lb, lo, rfl, hlc⟩ := l.lies (by omega)
        have hlq := hlc _ hlt
        rw [hat] at hlq
        have hnl : (dyN bs j : Int) < (LL.length : Int) := by omega
        have hn0 : (0 : Int) ≤ (dyN bs j : Int) := by omega
        have hnb : dyN bs j ≤ j := dyK_len bs j
        have hwn : IntKind.i64.wrap ((dyN bs j : Int) + 1) = (dyN bs j : Int) + 1 := by rw [IntKind.wrap_i64] <;> omega
        have hk1b : (r.k == 1) = true := by simpa using hk1
        have hjj : ((j : Int) + 1 != (j : Int) + 1) = false := by simp
        clear hlc hat HAJ HCJ HNS HDI hk1 hdi hs bx l
        go_wp2
        go_roundw
        case rel => exact ⟨j + 1, by omega, by first | rfl | go_num | (congr 1; omega), by first | rfl | (rw [unhide HNJ]; go_num) | (rw [unhide HNJ]; rfl), bw⟩
        case measure => simp [intOf]; omega
      · have hk1b : (r.k == 1) = false := by simpa using hk1
        have hdi : dirtyB bs ((j : Int) + 1) = false := by rw [unhide HDI, hk1b]; rfl
        have HNJ : Hid (dyN bs (j + 1) = dyN bs j) := by show _ = _; rw [unhide HNS, hdi]; rfl
        have hx := unhide HCJ hdi
        have HXR : ∀ (w' : World), SAt w' fa bs da dk → _ := fun w' h => unhide HIR ((j : Int) + 1) w' h
        rw [hx] at HXR
        have hd6 := unhide HD6
        obtain ⟨db, do_, rfl, hdd⟩ := hs.ds.lies (by omega)
        have hdq := hdd j (by omega)
        have hdl : db < (u7.alloc (.cells #[.int .i64 r.k, .int .i64 r.s, .int .i64 r.a, .int .i64 r.v] 25)).heap.size := by have := Fl.cell_lt hdq; simpa using this
        have hjl : (j : Int) < (dk.length : Int) := by omega
        have hj0 : (0 : Int) ≤ (j : Int) := by omega
        clear hdd hd6 hx HCJ HAJ HNS HDI
        generalize dk.getD j 0 = x at *
        have hxx : (x != x) = false := by simp
        go_upto_region 16 with fail
        generalize (u7.alloc (.cells #[.int .i64 r.k, .int .i64 r.s, .int .i64 r.a, .int .i64 r.v] 25)) = wz at *
        apply OrdL.join0 (F := fun  w' => Kept [] wz w')
        case h =>
          refine wp_region_noPanic ?_
          refine wp_region_held_drew (S := fun w' => Kept [] wz w') (by kernel_rfl) (Kept.refl _ _).drew (fun hHeld => ?_)
          generalize wz.drew = y0 at *
          have z0 := hHeld.size
          refine takeL 0 (.pointer (some ⟨sb, 1, none⟩)) rfl (by kernel_rfl) (by kernel_rfl) (by kernel_rfl) (fun _ _ _ h => h) (Or.inl ⟨rfl, fun w9 hSw => by go_simp⟩) hHeld ?_
          try simp only [Act.put, List.setIfInBounds_toArray, List.set_cons_zero, List.set_cons_succ]
          refine takeL 1 (.slice (some ⟨db, do_, none⟩) dk.length dc) rfl (by kernel_rfl) (by kernel_rfl) (by kernel_rfl) (fun _ _ _ h => h) (Or.inl ⟨rfl, fun w9 hSw => by have hc := (hSw.cell (b := sb) 1 bx.lt (by simp)).trans bx.c1; go_simp⟩) hHeld ?_
          try simp only [Act.put, List.setIfInBounds_toArray, List.set_cons_zero, List.set_cons_succ]
          refine takeL 2 (.int .i64 ((j : Int) + 1)) rfl (by kernel_rfl) (by kernel_rfl) (by kernel_rfl) (fun _ _ _ h => h) (Or.inl ⟨rfl, fun _ _ => rfl⟩) hHeld ?_
          try simp only [Act.put, List.setIfInBounds_toArray, List.set_cons_zero, List.set_cons_succ]
          refine takeL 3 (.int .i64 (j : Int)) rfl (by kernel_rfl) (by kernel_rfl) (by kernel_rfl) (fun _ _ _ h => h) (Or.inl ⟨rfl, fun w9 hSw => by go_simp⟩) hHeld ?_
          try simp only [Act.put, List.setIfInBounds_toArray, List.set_cons_zero, List.set_cons_succ]
          refine takeL 4 (.pointer (some ⟨db, do_ + j, none⟩)) rfl (by kernel_rfl) (by kernel_rfl) (by kernel_rfl) (fun _ _ _ h => h) (Or.inl ⟨rfl, fun w9 hSw => by go_simp⟩) hHeld ?_
          try simp only [Act.put, List.setIfInBounds_toArray, List.set_cons_zero, List.set_cons_succ]
          refine takeL 5 (.int .i64 x) rfl (by kernel_rfl) (by kernel_rfl) (by kernel_rfl) (fun _ _ _ h => h) (Or.inl ⟨rfl, fun w9 hSw => by have hc := (hSw.cell (b := db) (do_ + j) hdl (by simp)).trans hdq; go_simp⟩) hHeld ?_
          try simp only [Act.put, List.setIfInBounds_toArray, List.set_cons_zero, List.set_cons_succ]
          refine takeL 6 (.agg #[.slice fa bs.length c, .slice (some ⟨db, do_, none⟩) dk.length dc]) rfl (by kernel_rfl) (by kernel_rfl) (by kernel_rfl) (fun _ _ _ h => h) (yieldsIf_load_mid rfl 54 _ rfl sb 0 rfl [.slice fa bs.length c, .slice (some ⟨db, do_, none⟩) dk.length dc] _ (fun _ h => rng2 (bx.below (Kept.all h (by simp)))) Try.underlying54 rfl (unhide HSS)) hHeld ?_
          try simp only [Act.put, List.setIfInBounds_toArray, List.set_cons_zero, List.set_cons_succ]
          refine takeL 7 (.int .i64 ((j : Int) + 1)) rfl (by kernel_rfl) (by kernel_rfl) (by kernel_rfl) (fun _ _ _ h => h) (Or.inl ⟨rfl, fun _ _ => rfl⟩) hHeld ?_
          try simp only [Act.put, List.setIfInBounds_toArray, List.set_cons_zero, List.set_cons_succ]
          refine oneL 8 rfl (by kernel_rfl) rfl (fun K hK => ?_)
          go_simp
          refine (HXR _ (hs.below (Kept.all hHeld (by simp)))).mono ?_
          rintro e y1 ⟨rfl, b⟩
          go_wp2_with fail
          refine hK.out _ _ (hHeld.trans (Kept.of b)) (fun hHeld => ?_)
          clear hK K
          try simp only [Act.put, List.setIfInBounds_toArray, List.set_cons_zero, List.set_cons_succ]
          have z1 := b.size
          clear b
          refine takeL 9 (.bool false) rfl (by kernel_rfl) (by kernel_rfl) (by kernel_rfl) (fun _ _ _ h => h) (Or.inl ⟨rfl, fun w9 hSw => by go_simp⟩) hHeld ?_
          try simp only [Act.put, List.setIfInBounds_toArray, List.set_cons_zero, List.set_cons_succ]
          refine wpAnyH_done (by kernel_rfl) ?_ _
          refine NoPanic.normal ?_
          exact ⟨rfl, rfl, hHeld⟩
        case k =>
          rintro w' K
          have K2 := bw.trans ((Kept.all K (by simp)).mono bw.size)
          clear K hs bx hdq l
          rw [← unhide HNJ]
          go_wp2
          go_roundw
          case rel => exact ⟨j + 1, by omega, by first | rfl | go_num | (congr 1; omega), by first | rfl | go_num | (rw [unhide HNJ]), K2⟩
          case measure => simp [intOf]; omega


set_option maxRecDepth 100000 in
theorem lifted (os : Os) (started : os.Started) (H : Type) (enc : TypeId × Value → H) :
    ReturnsInHanded {} Try.checked os 14 .any (Rows.fnDirtySpec.pre6 enc Try.prog Try.f14 Rows.fnDirtyRow.domain false) (Rows.fnDirtySpec.post enc Try.prog Try.f14 false true false false) := by
  refine returnsInHanded_of_change (C := Try.checked) own started (by kernel_rfl) Try.func14
    (ChangeSpec.witness6 (enc := enc) (C := Try.checked) false ⟨#[], #[.slice none 0 0], []⟩ 8 (by kernel_rfl) (by kernel_rfl) (by kernel_rfl) (by kernel_rfl)) ?_
  intro W base args ds gs before hval0 hW hcnd _
  have hval : ∀ (j : Nat) t v, Try.f14.params[j]? = some t → args[j]? = some v → Value.okWide Try.prog W .any base t v := hval0
  have hW' := hW
  obtain ⟨p, q, hA0, hV, rfl, hfz, hnd⟩ := hW
  have hA : DataW.TrodAll enc Try.prog W 0 (fun _ => true) true Try.f14.params.toList args.toList ds p := hA0
  rw [Try.params14] at hA hval
  obtain ⟨v0, vs0, d0, ds0, p0, q0, hargs, rfl, rfl, h0, r0⟩ := trodAll_cons hA
  obtain ⟨rfl, rfl, rfl⟩ := trodAll_nil r0
  obtain rfl : args = #[v0] := by cases args; simp_all
  obtain ⟨rfl, rfl⟩ := trodVars_none hV
  have kk0 := h0
  have lt0 : ∀ x ∈ p0, x.block < W.heap.size := by obtain ⟨m, hm⟩ := kk0; exact DataW.trod_lt m _ _ _ hm
  obtain ⟨a0, len0, cap0, rfl⟩ := okWide_slice Try.underlying22 (hval 0 22 v0 rfl rfl)
  obtain ⟨z0, w0⟩ : ∃ zs, IsRow .u8 W a0 len0 cap0 zs := by
    obtain ⟨fuel, hf⟩ := h0
    rcases open_ints Try.underlying22 Try.underlying5 (by kernel_rfl) hf with ⟨hcs, _⟩ | ⟨x, l, c, zs, hcs, _, hl, hm, hz, _, hcell, hwz⟩
    · simp [Value.cells] at hcs
      obtain ⟨rfl, rfl, rfl⟩ := hcs
      exact ⟨[], .inl ⟨rfl, rfl, rfl, rfl⟩⟩
    · simp [Value.cells] at hcs
      obtain ⟨rfl, rfl, rfl⟩ := hcs
      exact ⟨zs, .inr ⟨_, rfl, hl, hm, by simpa using hz, hcell, hwz⟩⟩
  clear hA0
  refine (walk a0 len0 cap0 z0 W w0).mono fun e W' ⟨he, bel⟩ => ?_
  subst he
  exact ⟨_, rfl, _, _, _, [], _, [], hW', trodAll_mk1 (shut_bool Try.underlying4 _), (trodAll_cons_mk (Below.trod laidOut (by kernel_rfl) (of_decide_eq_true (by kernel_rfl)) kk0 bel lt0) trodAll_mk0), rfl, bel.frame _, fun h => by cases h⟩

set_option maxRecDepth 100000 in
theorem facts : joinedFacts Try.prog 14 Try.f14 Rows.fnDirtySpec Rows.fnDirtyRow = true := by
  unfold joinedFacts
  refine Facts.and_t ?_ (by as_aux_lemma => kernel_rfl)
  refine Facts.and_t ?_ (by as_aux_lemma => kernel_rfl)
  refine Facts.and_t ?_ (by as_aux_lemma => kernel_rfl)
  refine Facts.and_t ?_ (by as_aux_lemma => kernel_rfl)
  refine Facts.and_t ?_ (by show (Try.prog.make == some Make.cut) = true; rw [Facts.made]; rfl)
  refine Facts.and_t ?_ (by show (false == Try.prog.liftsFinal) = true; rw [Facts.lifts]; rfl)
  refine Facts.and_t ?_ (Facts.enters)
  refine Facts.and_t ?_ (Facts.heard)
  refine Facts.and_t ?_ (rfl)
  refine Facts.and_t ?_ (by show (true == Try.prog.plainKeys) = true; rw [Facts.keys]; rfl)
  refine Facts.and_t ?_ (by as_aux_lemma => kernel_rfl)
  refine Facts.and_t ?_ (by as_aux_lemma => kernel_rfl)
  refine Facts.and_t ?_ (by as_aux_lemma => kernel_rfl)
  refine Facts.and_t ?_ (by as_aux_lemma => kernel_rfl)
  refine Facts.and_t ?_ (by as_aux_lemma => kernel_rfl)
  refine Facts.and_t ?_ (by as_aux_lemma => kernel_rfl)
  refine Facts.and_t ?_ (by as_aux_lemma => kernel_rfl)
  refine Facts.and_t ?_ (by as_aux_lemma => kernel_rfl)
  refine Facts.and_t ?_ (by as_aux_lemma => kernel_rfl)
  refine Facts.and_t ?_ (by as_aux_lemma => kernel_rfl)
  refine Facts.and_t ?_ (by as_aux_lemma => kernel_rfl)
  refine Facts.and_t ?_ (by as_aux_lemma => kernel_rfl)
  refine Facts.and_t ?_ (by as_aux_lemma => kernel_rfl)
  refine Facts.and_t ?_ (by as_aux_lemma => kernel_rfl)
  refine Facts.and_t ?_ (by as_aux_lemma => kernel_rfl)
  refine Facts.and_t ?_ (by as_aux_lemma => kernel_rfl)
  refine Facts.and_t ?_ (by as_aux_lemma => kernel_rfl)
  refine Facts.and_t ?_ (by as_aux_lemma => kernel_rfl)
  refine Facts.and_t ?_ (by as_aux_lemma => kernel_rfl)
  refine Facts.and_t ?_ (Facts.rowed)
  refine Facts.and_t ?_ (Facts.laidOut)
  kernel_rfl

theorem over : Rows.fnDirtyRow.holds Try.pinned (OpenSpec.ofChange Rows.fnDirtySpec) :=
  OpenClaim.holds_of_wide 14 Try.f14 rfl rfl rfl rfl rfl rfl rfl ⟨rfl, rfl, rfl, rfl, rfl⟩ rfl rfl rfl rfl rfl (by kernel_rfl) Try.func14 facts
    (of_decide_eq_true (by kernel_rfl)) (by unfold Func.isWrapper; first | (rw [if_pos (by decide +kernel)]; kernel_rfl) | (rw [if_neg (by decide +kernel)]; exact ⟨rfl, rfl⟩))
    (fun os started H enc _ => lifted os started H enc)

end Go.Proofs.Ytiplhdcapnboaaa.Dirty
namespace Go.Proofs.Ytiplhdcapnboaaa
theorem fnDirty_holds : Rows.FnDirtySaid := Dirty.over
end Go.Proofs.Ytiplhdcapnboaaa
