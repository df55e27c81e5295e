/-
  What the slow disk has of a dirty value does not matter: so it does not in a drawn store. The given statement, with no condition.
-/
import Derived.Test.YtiplhdcapnboaaaPu
import Derived.Test.YtiplhdcapnboaaaPx
import Derived.Test.YtiplhdcapnboaaaPlE
import Derived.Test.YtiplhdcapnboaaaImplX
import Derived.Test.YtiplhdcapnboaaaSpM
import Derived.Test.YtiplhdcapnboaaaBaG
import Derived.Test.YtiplhdcapnboaaaFacts
import Derived.Lib.SmallJoins
namespace Go.Proofs.Ytiplhdcapnboaaa.StoreDisk
open Go.ChangeShapes Go.WideShapes Go.ChangeAt Go.RowKit Go.Shelf Go.Joins OkA Big Fl ImplB ImplF ImplS ImplT ImplU SpecA SpecB SpecC SpecD SpecW SpecX SpecF SpecG SpecH FindP FindN FindO FindD ImplW ImplX Pick Draw ClA DrB PlB Pl FindL StA StB StC StD StE StF StG SpS SpT DrS Sv LqI Py Pu EvA Px NwA LqI Sn9 ImplL Kp DoA
open FlB (FsN)
open StN (SN)
open Facts (own laidOut)
set_option linter.unusedVariables false
set_option linter.unusedSimpArgs false
attribute [local go_sem ↓] Go.wp_at_zero Go.wp_at_succ

theorem row6 {w : World} {lo : Nat} {v : Value} {dk : List Int} (h6 : dk.length = 6) (h : w.ownsRow lo 3 1 v (0 + 6) (isC [] ++ isC dk)) : ∃ d c2, v = .slice (some ⟨d, 0, none⟩) 6 c2 ∧ lo ≤ d ∧ CsAt w d (isC dk) ∧ d < w.heap.size := by
  have hrow : w.ownsRow lo 3 1 v 6 (isC dk) := by simpa [isC] using h
  obtain ⟨_, h2⟩ := h
  rcases h2 with ⟨h2, _⟩ | ⟨d, c2, cur, rfl, hb, hh, _⟩
  · first | omega | cases h2
  · have rp := row_pages (by omega) hrow
    refine ⟨d, c2, rfl, hb, ⟨rp.1, by rw [len_isC, h6]; simpa using rp.2⟩, ?_⟩
    by_cases hlt : d < w.heap.size
    · exact hlt
    · have : w.heap[d]? = none := by simp; omega
      rw [this] at hh; cases hh

set_option maxRecDepth 100000 in
set_option maxHeartbeats 8000000 in
theorem walk (a0 : Option Addr) (len0 cap0 : Nat) (z0 : List Int) (a1 : Option Addr) (len1 cap1 : Nat) (z1 : List Int) (w : World) (h0 : IsRow .u8 w a0 len0 cap0 z0) (h1 : IsRow .u8 w a1 len1 cap1 z1) :
    Calls Try.prog 15 #[.slice a0 len0 cap0, .slice a1 len1 cap1] w fun e w' => e = .returned (.bool true) ∧ Below w.heap.size w w' := by
  have HD := hide (drawSok_any w a0 len0 cap0 z0 h0)
  clear h0
  clear h1
  go_enter Try.func15, Try.ntmps15
  by_cases hbig0 : 1048576 < (len0 : Int)
  · go_wp2
    go_ret
    exact ⟨rfl, Below.refl _ _⟩
  by_cases hbig1 : 1048576 < (len1 : Int)
  · go_wp2
    go_ret
    exact ⟨rfl, Below.refl _ _⟩
  go_wp2_with fail
  refine (unhide HD).mono ?_
  rintro e w1 ⟨g, o, c, bs, d, z, dc, dk, rfl, S1, hc4, B⟩
  have h4 := S1.fs.four
  have h6 := S1.six
  have hp4 := hide S1.fs.pgs
  have hs := S1.at
  clear HD S1
  generalize (some ⟨g, o, none⟩ : Option Addr) = fa at *
  generalize (some ⟨d, z, none⟩ : Option Addr) = da at *
  have bA : Below w1.heap.size w1 (w1.alloc (.cells #[.slice fa bs.length c, .slice da dk.length dc] 54)) := (Below.refl _ _).alloc (Nat.le_refl _) _
  have bx := Bx.new w1 (.slice fa bs.length c) (.slice da dk.length dc) 54
  replace hs := hs.below bA
  replace B := B.trans (bA.mono B.size)
  clear bA hc4
  have y0 := bx.c0
  have y1 := bx.c1
  have HIO := hide (fun (w' : World) (h : SAt w' fa bs da dk) => iOk (fc := c) (dc := dc)  w' h h4 h6)
  have HSO := hide (fun (w' : World) (h : SAt w' fa bs da dk) => sOk (fc := c) (dc := dc)  w' h h4 h6 (unhide hp4))
  have HIA := hide (fun (w' : World) (h : SAt w' fa bs da dk) => iAll2 (fc := c) (dc := dc)  w' h h4 h6)
  have HSS := hide (show (Try.prog.info? 54).map (·.size) = some 2 by kernel_rfl)
  have HIL := hide (fun (k : Int) (r : Rc) (o : Bool) (hr : flR bs k = r) (ho : flO bs k = o) (w' : World) (h : FsAt w' fa bs) => iLast (fc := c) k r o hr ho w' h h4)
  go_wp2_with fail
  generalize w1.alloc (.cells #[.slice fa bs.length c, .slice da dk.length dc] 54) = w2 at *
  generalize w1.heap.size = sb at *
  refine (unhide HIO _ hs).mono ?_
  rintro e u1 ⟨rfl, b⟩
  replace hs := hs.below b
  replace bx := bx.below b
  clear y0 y1
  have y0 := bx.c0
  have y1 := bx.c1
  replace B := B.trans (b.mono B.size)
  clear b
  go_wp2_with fail
  refine (unhide HSO _ hs).mono ?_
  rintro e u2 ⟨rfl, b⟩
  replace hs := hs.below b
  replace bx := bx.below b
  clear y0 y1
  have y0 := bx.c0
  have y1 := bx.c1
  replace B := B.trans (b.mono B.size)
  clear b
  cases hst : stB bs dk
  · simp only [hst]
    go_wp2_with fail
    refine (unhide HSO _ hs).mono ?_
    rintro e u3 ⟨rfl, b⟩
    replace hs := hs.below b
    replace bx := bx.below b
    clear y0 y1
    have y0 := bx.c0
    have y1 := bx.c1
    replace B := B.trans (b.mono B.size)
    clear b
    have hst2 : stB bs dk = false := hst
    simp only [hst2]
    go_wp2
    go_ret
    exact ⟨rfl, B⟩
  simp only [hst]
  have hd6 := (st_iff.1 hst).2.1
  obtain ⟨q9, hq9, hq0, hq6⟩ : ∃ q : Int, (len1 : Int).tmod 6 = q ∧ 0 ≤ q ∧ q ≤ 5 := ⟨_, rfl, Int.tmod_nonneg 6 (by omega), by have := Int.tmod_lt_of_pos (len1 : Int) (show (0 : Int) < 6 by omega); omega⟩
  obtain ⟨q, rfl⟩ := Int.eq_ofNat_of_zero_le hq0
  have hq : q < 6 := by omega
  have hbad := fun (y : Int) => sd_bad (bs := bs) (dk := dk) hst hq (y := y)
  have hgood := fun (y : Int) => sd_ok (bs := bs) (dk := dk) hst hq (y := y)
  have hal := fun (y : Int) => sd_al (bs := bs) (dk := dk) hst hq (y := y)
  have hdq := (bad_iff.1 ((st_iff.1 hst).2.2 q hq)).1
  have HBD := hide hbad
  have HGD := hide hgood
  have HAL := hide hal
  have HD6 := hide hd6
  obtain ⟨db, do_, rfl, hdr⟩ : ∃ b o, da = some ⟨b, o, none⟩ ∧ u2.rangeAt b o (isC dk) := by
    rcases hs.ds with e | e
    · rw [e] at hd6; cases hd6
    · exact e
  rw [hd6] at bx y1
  rw [hd6]
  have hdl : db < u2.heap.size := Fl.cell_lt (isC_at hdr 0 (by omega))
  obtain ⟨y, hy⟩ : ∃ y : Int, y = (dk.getD q 0 + 1) % 10 := ⟨_, rfl⟩
  have hy0 : 0 ≤ y ∧ y ≤ 9 ∧ y ≠ dk.getD q 0 := by omega
  clear hbad hgood hal hst
  have hwq : IntKind.i64.wrap (1 + (q : Int)) = 1 + (q : Int) := by rw [IntKind.wrap_i64] <;> omega
  go_upto_region 9 with fail
  have bA : Below u2.heap.size u2 (u2.alloc (.cells #[.slice fa bs.length c, .slice (some ⟨db, do_, none⟩) 6 dc] 54)) := (Below.refl _ _).alloc (Nat.le_refl _) _
  have cN := CsAt.new u2 [.slice fa bs.length c, .slice (some ⟨db, do_, none⟩) 6 dc] 54
  have bx1 := bx.below bA
  have hdr1 := rangeAt_below hdr bA hdl
  have hlt1 : u2.heap.size < (u2.alloc (.cells #[.slice fa bs.length c, .slice (some ⟨db, do_, none⟩) 6 dc] 54)).heap.size := by simp
  have bxl := bx.lt
  clear y0 y1
  generalize u2.alloc (.cells #[.slice fa bs.length c, .slice (some ⟨db, do_, none⟩) 6 dc] 54) = wx at *
  obtain ⟨iI, hiI, hzI, hsI, hbI⟩ := infoI
  have hl6 : (isC dk).length = 6 * 1 := by rw [len_isC, unhide HD6]
  have bE : Below wx.heap.size wx (wx.alloc (.cells #[] 3)) := (Below.refl _ _).alloc (Nat.le_refl _) _
  have rW := Rw.nil' wx wx.heap.size (Nat.le_refl _)
  have cN4 := CsAt.below cN bE (by omega)
  have hdr4 := rangeAt_below hdr1 bE (by omega)
  have bx4 := bx1.below bE
  have y0 := bx1.c0
  have y1 := bx1.c1
  have z0 := bx4.c0
  have z1 := bx4.c1
  have hsE : (wx.alloc (.cells #[] 3)).heap.size = wx.heap.size + 1 := by simp
  clear hd6
  go_upto_region 10 with (refine wpList_append_own _ rfl _ _ 47 rfl wx.heap.size 3 iI (.int .i64 0) 1 8 Try.underlying47 hiI hzI hsI hbI rfl (by omega) _ 0 (isC []) rfl rW.row ⟨db, do_, none⟩ 6 dc (isC dk) rfl hl6 (src_mid hdr4) (one_isC dk) (by simp [maxLen]) (by omega) (by omega) ?_; intro v' wZ hoZ hgZ hatZ; have kZ : Kept [wx.heap.size] (wx.alloc (.cells #[] 3)) wZ := (Kept.refl _ _).grown hgZ (fun k e => .inl (by have e2 : some wx.heap.size = some k := e; simp at e2; simp [e2])); obtain ⟨d9, c9, rfl, hdat, cD, hdlt⟩ := row6 (unhide HD6) hoZ; have cNZ := OrdL.ckept cN4 kZ (by omega) (by simp; omega); have n1 := cNZ.cell 1 _ rfl; have fz := cNZ.frozen 1 (by simp))
  have kS := kept_cell wZ u2.heap.size 1 (.slice (some ⟨d9, 0, none⟩) 6 c9)
  have cNS : CsAt (wZ.setCell ⟨u2.heap.size, 1, none⟩ (.slice (some ⟨d9, 0, none⟩) 6 c9)) u2.heap.size [.slice fa bs.length c, .slice (some ⟨d9, 0, none⟩) 6 c9] := csAt_set cNZ 1 (by simp) _
  have cDS := csAt_kept cD kS hdlt (by simp; omega)
  have kY : Kept [u2.heap.size] wx wZ := (Kept.of bE).then kZ (fun y hy => by simp at hy; subst hy; right; exact Nat.le_refl _)
  have kX := (Kept.of (L := [u2.heap.size]) bA).trans (kY.trans kS)
  have b6 := kX.all (by simp)
  have hs6 := hs.below b6
  have bx6 := bx.below b6
  have hdr6 := rangeAt_below hdr b6 hdl
  have hd9 : d9 < (wZ.setCell ⟨u2.heap.size, 1, none⟩ (.slice (some ⟨d9, 0, none⟩) 6 c9)).heap.size := Nat.lt_of_lt_of_le hdlt kS.size
  have hnb6 := CsAt.lt cNS (by simp)
  have hdb6 := Nat.lt_of_lt_of_le hdl b6.size
  have hqx := isC_at hdr6 q (by rw [unhide HD6]; exact hq)
  clear kS cNZ cD kY kZ hgZ hoZ cN4 hdr4 hdr1 bx1 bx4 y0 y1 z0 z1 rW cN bE n1 fz hatZ
  generalize wZ.setCell ⟨u2.heap.size, 1, none⟩ (.slice (some ⟨d9, 0, none⟩) 6 c9) = w6 at *
  generalize hx9 : dk.getD q 0 = x9 at *
  have hlen9 : 0 < (isC dk).length := by omega
  have hwq1 : IntKind.i64.wrap (q : Int) = (q : Int) := by rw [IntKind.wrap_i64] <;> omega
  have hwx : IntKind.i64.wrap (x9 + 1) = x9 + 1 := by rw [IntKind.wrap_i64] <;> omega
  have hyt : (x9 + 1).tmod 10 = y := by rw [Int.tmod_eq_emod_of_nonneg (by omega)]; exact hy.symm
  have hyt2 : (x9 + 1) % 10 = y := hy.symm
  clear hy
  have hqq1 : 1 + (q : Int) - 1 = q := by omega
  have hqi0 : (0 : Int) ≤ (q : Int) := by omega
  have hqi6 : (q : Int) < 6 := by omega
  refine wp_region_noPanic ?_
  refine wp_region_held_drew (S := fun w' => Kept [d9] w6 w') (by kernel_rfl) (Kept.refl _ _).drew (fun hHeld => ?_)
  replace cDS := OrdL.ckept cDS (L := []) (Kept.refl [] w6).drew (CsAt.lt cDS (by first | (simp; done) | assumption)) (by simp)
  generalize w6.drew = y0 at *
  have z0 := hHeld.size
  refine takeL 0 (.pointer (some ⟨u2.heap.size, 1, none⟩)) rfl (by kernel_rfl) (by kernel_rfl) (by kernel_rfl) (fun _ _ _ h => h) (Or.inl ⟨rfl, fun w9 hSw => by go_simp⟩) hHeld ?_
  try simp only [Act.put, List.setIfInBounds_toArray, List.set_cons_zero, List.set_cons_succ]
  refine takeL 1 (.slice (some ⟨d9, 0, none⟩) 6 c9) rfl (by kernel_rfl) (by kernel_rfl) (by kernel_rfl) (fun _ _ _ h => h) (Or.inl ⟨rfl, fun w9 hSw => by have hc := (hSw.cell (b := u2.heap.size) 1 hnb6 (by simp; omega)).trans (cNS.cell 1 _ rfl); go_simp⟩) hHeld ?_
  try simp only [Act.put, List.setIfInBounds_toArray, List.set_cons_zero, List.set_cons_succ]
  refine takeL 2 (.int .i64 (1 + (q : Int))) rfl (by kernel_rfl) (by kernel_rfl) (by kernel_rfl) (fun _ _ _ h => h) (Or.inl ⟨rfl, fun _ _ => rfl⟩) hHeld ?_
  try simp only [Act.put, List.setIfInBounds_toArray, List.set_cons_zero, List.set_cons_succ]
  refine takeL 3 (.int .i64 (q : Int)) rfl (by kernel_rfl) (by kernel_rfl) (by kernel_rfl) (fun _ _ _ h => h) (Or.inl ⟨rfl, fun w9 hSw => by go_simp⟩) hHeld ?_
  try simp only [Act.put, List.setIfInBounds_toArray, List.set_cons_zero, List.set_cons_succ]
  refine takeL 4 (.pointer (some ⟨sb, 1, none⟩)) rfl (by kernel_rfl) (by kernel_rfl) (by kernel_rfl) (fun _ _ _ h => h) (Or.inl ⟨rfl, fun w9 hSw => by go_simp⟩) hHeld ?_
  try simp only [Act.put, List.setIfInBounds_toArray, List.set_cons_zero, List.set_cons_succ]
  refine takeL 5 (.slice (some ⟨db, do_, none⟩) 6 dc) rfl (by kernel_rfl) (by kernel_rfl) (by kernel_rfl) (fun _ _ _ h => h) (Or.inl ⟨rfl, fun w9 hSw => by have hc := (hSw.cell (b := sb) 1 bx6.lt (by simp; omega)).trans bx6.c1; go_simp⟩) hHeld ?_
  try simp only [Act.put, List.setIfInBounds_toArray, List.set_cons_zero, List.set_cons_succ]
  refine takeL 6 (.int .i64 (1 + (q : Int))) rfl (by kernel_rfl) (by kernel_rfl) (by kernel_rfl) (fun _ _ _ h => h) (Or.inl ⟨rfl, fun _ _ => rfl⟩) hHeld ?_
  try simp only [Act.put, List.setIfInBounds_toArray, List.set_cons_zero, List.set_cons_succ]
  refine takeL 7 (.int .i64 (q : Int)) rfl (by kernel_rfl) (by kernel_rfl) (by kernel_rfl) (fun _ _ _ h => h) (Or.inl ⟨rfl, fun w9 hSw => by go_simp⟩) hHeld ?_
  try simp only [Act.put, List.setIfInBounds_toArray, List.set_cons_zero, List.set_cons_succ]
  refine takeL 8 (.pointer (some ⟨db, do_ + q, none⟩)) rfl (by kernel_rfl) (by kernel_rfl) (by kernel_rfl) (fun _ _ _ h => h) (Or.inl ⟨rfl, fun w9 hSw => by go_simp⟩) hHeld ?_
  try simp only [Act.put, List.setIfInBounds_toArray, List.set_cons_zero, List.set_cons_succ]
  refine takeL 9 (.int .i64 x9) rfl (by kernel_rfl) (by kernel_rfl) (by kernel_rfl) (fun _ _ _ h => h) (Or.inl ⟨rfl, fun w9 hSw => by have hc := (hSw.cell (b := db) (do_ + q) hdb6 (by simp; omega)).trans hqx; go_simp⟩) hHeld ?_
  try simp only [Act.put, List.setIfInBounds_toArray, List.set_cons_zero, List.set_cons_succ]
  refine takeL 10 (.int .i64 (x9 + 1)) rfl (by kernel_rfl) (by kernel_rfl) (by kernel_rfl) (fun _ _ _ h => h) (Or.inl ⟨rfl, fun w9 hSw => by go_simp⟩) hHeld ?_
  try simp only [Act.put, List.setIfInBounds_toArray, List.set_cons_zero, List.set_cons_succ]
  refine takeL 11 (.int .i64 y) rfl (by kernel_rfl) (by kernel_rfl) (by kernel_rfl) (fun _ _ _ h => h) (Or.inl ⟨rfl, fun w9 hSw => by go_simp⟩) hHeld ?_
  try simp only [Act.put, List.setIfInBounds_toArray, List.set_cons_zero, List.set_cons_succ]
  refine takeL 12 (.pointer (some ⟨d9, q, none⟩)) rfl (by kernel_rfl) (by kernel_rfl) (by kernel_rfl) (fun _ _ _ h => h) (Or.inl ⟨rfl, fun w9 hSw => by go_simp⟩) hHeld ?_
  try simp only [Act.put, List.setIfInBounds_toArray, List.set_cons_zero, List.set_cons_succ]
  refine oneL 13 rfl (by kernel_rfl) rfl (fun K hK => ?_)
  have cq := isC_at cDS.cells q (by rw [unhide HD6]; exact hq)
  rw [Nat.zero_add] at cq
  have fq := cDS.frozen q (by omega)
  go_simp
  refine hK.out _ _ (hHeld.setCell (p := ⟨d9, q, none⟩) (.inl (by simp)) _) (fun hHeld => ?_)
  clear hK K
  try simp only [Act.put, List.setIfInBounds_toArray, List.set_cons_zero, List.set_cons_succ]
  have cD2 := cDS.setInt (k := q) (by rw [unhide HD6]; exact hq) y
  clear cDS cq fq
  generalize y0.setCell ⟨d9, q, none⟩ (.int .i64 y) = y9 at *
  refine wpAnyH_done (by kernel_rfl) ?_ _
  refine NoPanic.normal ?_
  have K6 := hHeld
  have k7 := kX.then K6 (fun x hx => by simp at hx; subst hx; right; omega)
  have b7 := k7.all (by simp)
  have hs7 := hs.below b7
  have bx7 := bx.below b7
  have B7 := B.trans (b7.mono B.size)
  have cN7 := csAt_kept cNS K6 hnb6 (by simp; omega)
  have bn : Bx y9 u2.heap.size (.slice fa bs.length c) (.slice (some ⟨d9, 0, none⟩) 6 c9) := ⟨cN7.cell 0 _ rfl, cN7.cell 1 _ rfl, CsAt.lt cN7 (by simp)⟩
  have hX : SAt y9 fa bs (some ⟨d9, 0, none⟩) (dk.set q y) := ⟨hs7.fs, .inr ⟨d9, 0, rfl, cD2.cells⟩⟩
  have hl9 : (dk.set q y).length = 6 := by simp; exact unhide HD6
  have HXO := hide (fun (w' : World) (h : SAt w' fa bs (some ⟨d9, 0, none⟩) (dk.set q y)) => iOk (fc := c) (dc := c9) w' h h4 (by omega))
  have HXA := hide (fun (w' : World) (h : SAt w' fa bs (some ⟨d9, 0, none⟩) (dk.set q y)) => iAll2 (fc := c) (dc := c9) w' h h4 (by omega))
  have HSA := hide (fun (w' : World) (h : SAt w' fa bs (some ⟨db, do_, none⟩) dk) => iAll2 (fc := c) (dc := dc) w' h h4 h6)
  have HQ := hide (fun (a1 a2 : Option Addr) (c1 c2 : Nat) (w' : World) (h1 : DkAt w' a1 (alS bs dk)) (h2 : DkAt w' a2 (alS bs dk)) => lqSame a1 a2 c1 c2 (alS bs dk) w' h1 h2 al_le)
  rw [hl9] at HXO HXA
  rw [unhide HD6] at HSA
  have e9 : (q : Int) + 1 = 1 + q := Int.add_comm _ _
  have HB2 := hide (unhide HBD y hy0.2.2)
  have HG2 := hide (unhide HGD y hy0.1 hy0.2.1)
  have HA2 := hide (unhide HAL y)
  rw [e9] at HB2 HG2 HA2
  obtain ⟨r, hr⟩ : ∃ r, flR bs (1 + (q : Int)) = r := ⟨_, rfl⟩
  obtain ⟨o9, ho⟩ : ∃ o, flO bs (1 + (q : Int)) = o := ⟨_, rfl⟩
  rw [hr, ho] at HB2 HG2
  rw [ho] at HA2
  have hs := hs7
  have bx := bx7
  have B := B7
  clear hHeld K6 k7 b7 hs7 bx7 B7 cN7 cD2 cNS hs6 bx6 hdr6 hqx e9 hl9 HBD HGD HAL
  have y0 := bx.c0
  have y1 := bx.c1
  go_wp2_with fail
  refine (unhide HIL (1 + (q : Int)) r o9 hr ho _ hs.fs).mono ?_
  rintro e v9 ⟨rfl, b⟩
  replace hs := hs.below b
  replace hX := hX.below b
  replace bx := bx.below b
  replace bn := bn.below b
  replace B := B.trans (b.mono B.size)
  clear b y0 y1 hr ho
  have b : Below v9.heap.size v9 (v9.alloc (.cells #[.int .i64 r.k, .int .i64 r.s, .int .i64 r.a, .int .i64 r.v] 25)) := (Below.refl _ _).alloc (Nat.le_refl _) _
  replace hs := hs.below b
  replace hX := hX.below b
  replace bx := bx.below b
  replace bn := bn.below b
  replace B := B.trans (b.mono B.size)
  clear b
  have y0 := bx.c0
  have y1 := bx.c1
  have n0 := bn.c0
  have n1 := bn.c1
  cases o9
  · have HT : Hid (stB bs (dk.set q y) = true) := unhide HG2 (fun t => by cases t.1)
    have HXT := HXO
    rw [unhide HT] at HXT
    go_upto_region 14 with fail
    generalize (v9.alloc (.cells #[.int .i64 r.k, .int .i64 r.s, .int .i64 r.a, .int .i64 r.v] 25)) = wv at *
    refine wp_region_noPanic ?_
    refine wp_region_held_drew (S := fun w' => Kept [] wv w') (by kernel_rfl) (Kept.refl _ _).drew (fun hHeld => ?_)
    generalize wv.drew = y0 at *
    have z0 := hHeld.size
    refine takeL 0 (.agg #[.slice fa bs.length c, .slice (some ⟨d9, 0, none⟩) 6 c9]) rfl (by kernel_rfl) (by kernel_rfl) (by kernel_rfl) (fun _ _ _ h => h) (yieldsIf_load_mid rfl 54 _ rfl u2.heap.size 0 rfl [.slice fa bs.length c, .slice (some ⟨d9, 0, none⟩) 6 c9] _ (fun _ h => rng2 (bn.below (Kept.all h (by simp)))) Try.underlying54 rfl (unhide HSS)) hHeld ?_
    try simp only [Act.put, List.setIfInBounds_toArray, List.set_cons_zero, List.set_cons_succ]
    refine oneL 1 rfl (by kernel_rfl) rfl (fun K hK => ?_)
    go_simp
    refine (unhide HXT _ (hX.below (Kept.all hHeld (by simp)))).mono ?_
    rintro e y1 ⟨rfl, b⟩
    go_wp2_with fail
    refine hK.out _ _ (hHeld.trans (Kept.of b)) (fun hHeld => ?_)
    clear hK K
    try simp only [Act.put, List.setIfInBounds_toArray, List.set_cons_zero, List.set_cons_succ]
    have z1 := b.size
    clear b
    refine takeL 2 (.bool true) rfl (by kernel_rfl) (by kernel_rfl) (by kernel_rfl) (fun _ _ _ h => h) (Or.inl ⟨rfl, fun _ _ => rfl⟩) hHeld ?_
    try simp only [Act.put, List.setIfInBounds_toArray, List.set_cons_zero, List.set_cons_succ]
    refine takeL 3 (.bool false) rfl (by kernel_rfl) (by kernel_rfl) (by kernel_rfl) (fun _ _ _ h => h) (Or.inl ⟨rfl, fun _ _ => rfl⟩) hHeld ?_
    try simp only [Act.put, List.setIfInBounds_toArray, List.set_cons_zero, List.set_cons_succ]
    refine takeL 4 (.bool true) rfl (by kernel_rfl) (by kernel_rfl) (by kernel_rfl) (fun _ _ _ h => h) (Or.inl ⟨rfl, fun w9 hSw => by go_simp⟩) hHeld ?_
    try simp only [Act.put, List.setIfInBounds_toArray, List.set_cons_zero, List.set_cons_succ]
    refine takeL 5 (.bool true) rfl (by kernel_rfl) (by kernel_rfl) (by kernel_rfl) (fun _ _ _ h => h) (Or.inl ⟨rfl, fun _ _ => rfl⟩) hHeld ?_
    try simp only [Act.put, List.setIfInBounds_toArray, List.set_cons_zero, List.set_cons_succ]
    refine takeL 6 (undef) rfl (by kernel_rfl) (by kernel_rfl) (by kernel_rfl) (fun _ _ _ h => h) (Or.inr ⟨rfl, rfl⟩) hHeld ?_
    try simp only [Act.put, List.setIfInBounds_toArray, List.set_cons_zero, List.set_cons_succ]
    refine takeL 7 (undef) rfl (by kernel_rfl) (by kernel_rfl) (by kernel_rfl) (fun _ _ _ h => h) (Or.inr ⟨rfl, rfl⟩) hHeld ?_
    try simp only [Act.put, List.setIfInBounds_toArray, List.set_cons_zero, List.set_cons_succ]
    refine takeL 8 (undef) rfl (by kernel_rfl) (by kernel_rfl) (by kernel_rfl) (fun _ _ _ h => h) (Or.inr ⟨rfl, rfl⟩) hHeld ?_
    try simp only [Act.put, List.setIfInBounds_toArray, List.set_cons_zero, List.set_cons_succ]
    refine takeL 9 (undef) rfl (by kernel_rfl) (by kernel_rfl) (by kernel_rfl) (fun _ _ _ h => h) (Or.inr ⟨rfl, rfl⟩) hHeld ?_
    try simp only [Act.put, List.setIfInBounds_toArray, List.set_cons_zero, List.set_cons_succ]
    refine takeL 10 (undef) rfl (by kernel_rfl) (by kernel_rfl) (by kernel_rfl) (fun _ _ _ h => h) (Or.inr ⟨rfl, rfl⟩) hHeld ?_
    try simp only [Act.put, List.setIfInBounds_toArray, List.set_cons_zero, List.set_cons_succ]
    refine takeL 11 (.bool true) rfl (by kernel_rfl) (by kernel_rfl) (by kernel_rfl) (fun _ _ _ h => h) (Or.inl ⟨rfl, fun w9 hSw => by go_simp⟩) hHeld ?_
    try simp only [Act.put, List.setIfInBounds_toArray, List.set_cons_zero, List.set_cons_succ]
    refine takeL 12 (.bool true) rfl (by kernel_rfl) (by kernel_rfl) (by kernel_rfl) (fun _ _ _ h => h) (Or.inl ⟨rfl, fun w9 hSw => by go_simp⟩) hHeld ?_
    try simp only [Act.put, List.setIfInBounds_toArray, List.set_cons_zero, List.set_cons_succ]
    refine takeL 13 (.bool true) rfl (by kernel_rfl) (by kernel_rfl) (by kernel_rfl) (fun _ _ _ h => h) (Or.inl ⟨rfl, fun _ _ => rfl⟩) hHeld ?_
    try simp only [Act.put, List.setIfInBounds_toArray, List.set_cons_zero, List.set_cons_succ]
    refine wpAnyH_done (by kernel_rfl) ?_ _
    refine NoPanic.normal ?_
    have B2 := B.trans ((Kept.all hHeld (by simp)).mono B.size)
    clear hHeld
    go_wp2
    go_ret
    exact ⟨rfl, B2⟩
  · by_cases hk2 : r.k = 2
    · have hkb : (r.k == 2) = true := by simpa using hk2
      have HF : Hid (stB bs (dk.set q y) = false) := unhide HB2 rfl hk2
      rw [unhide HF] at HXO
      clear hk2
      go_upto_region 13 with fail
      generalize (v9.alloc (.cells #[.int .i64 r.k, .int .i64 r.s, .int .i64 r.a, .int .i64 r.v] 25)) = wv at *
      go_wp2_with fail
      refine (unhide HXO _ hX).mono ?_
      rintro e x9 ⟨rfl, b⟩
      replace B := B.trans (b.mono B.size)
      go_wp2
      go_ret
      exact ⟨rfl, B⟩
    · have hkb : (r.k == 2) = false := by simpa using hk2
      have HT : Hid (stB bs (dk.set q y) = true) := unhide HG2 (fun t => hk2 t.2)
      have HXT := HXO
      rw [unhide HT] at HXT
      rw [unhide HA2 (unhide HT) rfl] at HXA
      generalize alS bs dk = LL at *
      go_upto_region 14 with fail
      generalize (v9.alloc (.cells #[.int .i64 r.k, .int .i64 r.s, .int .i64 r.a, .int .i64 r.v] 25)) = wv at *
      refine wp_region_noPanic ?_
      refine wp_region_held_drew (S := fun w' => Kept [] wv w') (by kernel_rfl) (Kept.refl _ _).drew (fun hHeld => ?_)
      generalize wv.drew = y0 at *
      have z0 := hHeld.size
      refine takeL 0 (.agg #[.slice fa bs.length c, .slice (some ⟨d9, 0, none⟩) 6 c9]) rfl (by kernel_rfl) (by kernel_rfl) (by kernel_rfl) (fun _ _ _ h => h) (yieldsIf_load_mid rfl 54 _ rfl u2.heap.size 0 rfl [.slice fa bs.length c, .slice (some ⟨d9, 0, none⟩) 6 c9] _ (fun _ h => rng2 (bn.below (Kept.all h (by simp)))) Try.underlying54 rfl (unhide HSS)) hHeld ?_
      try simp only [Act.put, List.setIfInBounds_toArray, List.set_cons_zero, List.set_cons_succ]
      refine oneL 1 rfl (by kernel_rfl) rfl (fun K hK => ?_)
      go_simp
      refine (unhide HXT _ (hX.below (Kept.all hHeld (by simp)))).mono ?_
      rintro e y1 ⟨rfl, b⟩
      go_wp2_with fail
      refine hK.out _ _ (hHeld.trans (Kept.of b)) (fun hHeld => ?_)
      clear hK K
      try simp only [Act.put, List.setIfInBounds_toArray, List.set_cons_zero, List.set_cons_succ]
      have z1 := b.size
      clear b
      refine takeL 2 (.bool true) rfl (by kernel_rfl) (by kernel_rfl) (by kernel_rfl) (fun _ _ _ h => h) (Or.inl ⟨rfl, fun _ _ => rfl⟩) hHeld ?_
      try simp only [Act.put, List.setIfInBounds_toArray, List.set_cons_zero, List.set_cons_succ]
      refine takeL 3 (.bool true) rfl (by kernel_rfl) (by kernel_rfl) (by kernel_rfl) (fun _ _ _ h => h) (Or.inl ⟨rfl, fun _ _ => rfl⟩) hHeld ?_
      try simp only [Act.put, List.setIfInBounds_toArray, List.set_cons_zero, List.set_cons_succ]
      refine takeL 4 (.bool false) rfl (by kernel_rfl) (by kernel_rfl) (by kernel_rfl) (fun _ _ _ h => h) (Or.inl ⟨rfl, fun w9 hSw => by go_simp⟩) hHeld ?_
      try simp only [Act.put, List.setIfInBounds_toArray, List.set_cons_zero, List.set_cons_succ]
      refine takeL 5 (.bool false) rfl (by kernel_rfl) (by kernel_rfl) (by kernel_rfl) (fun _ _ _ h => h) (Or.inl ⟨rfl, fun _ _ => rfl⟩) hHeld ?_
      try simp only [Act.put, List.setIfInBounds_toArray, List.set_cons_zero, List.set_cons_succ]
      refine takeL 6 (.agg #[.slice fa bs.length c, .slice (some ⟨d9, 0, none⟩) 6 c9]) rfl (by kernel_rfl) (by kernel_rfl) (by kernel_rfl) (fun _ _ _ h => h) (yieldsIf_load_mid rfl 54 _ rfl u2.heap.size 0 rfl [.slice fa bs.length c, .slice (some ⟨d9, 0, none⟩) 6 c9] _ (fun _ h => rng2 (bn.below (Kept.all h (by simp)))) Try.underlying54 rfl (unhide HSS)) hHeld ?_
      try simp only [Act.put, List.setIfInBounds_toArray, List.set_cons_zero, List.set_cons_succ]
      refine takeL 8 (.agg #[.slice fa bs.length c, .slice (some ⟨db, do_, none⟩) 6 dc]) rfl (by kernel_rfl) (by kernel_rfl) (by kernel_rfl) (fun _ _ _ h => h) (yieldsIf_load_mid rfl 54 _ rfl sb 0 rfl [.slice fa bs.length c, .slice (some ⟨db, do_, none⟩) 6 dc] _ (fun _ h => rng2 (bx.below (Kept.all h (by simp)))) Try.underlying54 rfl (unhide HSS)) hHeld ?_
      try simp only [Act.put, List.setIfInBounds_toArray, List.set_cons_zero, List.set_cons_succ]
      refine oneL 7 rfl (by kernel_rfl) rfl (fun K hK => ?_)
      go_simp
      refine (unhide HXA _ (hX.below (Kept.all hHeld (by simp)))).mono ?_
      rintro e y2 ⟨xa, xc, rfl, hxa, b⟩
      go_wp2_with fail
      refine hK.out _ _ (hHeld.trans (Kept.of b)) (fun hHeld => ?_)
      clear hK K
      try simp only [Act.put, List.setIfInBounds_toArray, List.set_cons_zero, List.set_cons_succ]
      have z2 := b.size
      clear b
      refine oneL 9 rfl (by kernel_rfl) rfl (fun K hK => ?_)
      go_simp
      refine (unhide HSA _ (hs.below (Kept.all hHeld (by simp)))).mono ?_
      rintro e y3 ⟨ya, yc, rfl, hya, b⟩
      go_wp2_with fail
      replace hxa := hxa.below b
      refine hK.out _ _ (hHeld.trans (Kept.of b)) (fun hHeld => ?_)
      clear hK K
      try simp only [Act.put, List.setIfInBounds_toArray, List.set_cons_zero, List.set_cons_succ]
      have z3 := b.size
      clear b
      refine oneL 10 rfl (by kernel_rfl) rfl (fun K hK => ?_)
      go_simp
      refine (unhide HQ _ _ _ _ _ hxa hya).mono ?_
      rintro e y4 ⟨rfl, b⟩
      go_wp2_with fail
      replace hxa := hxa.below b
      replace hya := hya.below b
      refine hK.out _ _ (hHeld.trans (Kept.of b)) (fun hHeld => ?_)
      clear hK K
      try simp only [Act.put, List.setIfInBounds_toArray, List.set_cons_zero, List.set_cons_succ]
      have z4 := b.size
      clear b
      refine takeL 11 (.bool true) rfl (by kernel_rfl) (by kernel_rfl) (by kernel_rfl) (fun _ _ _ h => h) (Or.inl ⟨rfl, fun w9 hSw => by go_simp⟩) hHeld ?_
      try simp only [Act.put, List.setIfInBounds_toArray, List.set_cons_zero, List.set_cons_succ]
      refine takeL 12 (.bool true) rfl (by kernel_rfl) (by kernel_rfl) (by kernel_rfl) (fun _ _ _ h => h) (Or.inl ⟨rfl, fun w9 hSw => by go_simp⟩) hHeld ?_
      try simp only [Act.put, List.setIfInBounds_toArray, List.set_cons_zero, List.set_cons_succ]
      refine takeL 13 (.bool true) rfl (by kernel_rfl) (by kernel_rfl) (by kernel_rfl) (fun _ _ _ h => h) (Or.inl ⟨rfl, fun _ _ => rfl⟩) hHeld ?_
      try simp only [Act.put, List.setIfInBounds_toArray, List.set_cons_zero, List.set_cons_succ]
      refine wpAnyH_done (by kernel_rfl) ?_ _
      refine NoPanic.normal ?_
      have B2 := B.trans ((Kept.all hHeld (by simp)).mono B.size)
      clear hHeld
      go_wp2
      go_ret
      exact ⟨rfl, B2⟩


set_option maxRecDepth 100000 in
theorem lifted (os : Os) (started : os.Started) (H : Type) (enc : TypeId × Value → H) :
    ReturnsInHanded {} Try.checked os 15 .any (Rows.fnStoreDiskSpec.pre6 enc Try.prog Try.f15 Rows.fnStoreDiskRow.domain false) (Rows.fnStoreDiskSpec.post enc Try.prog Try.f15 false true false false) := by
  refine returnsInHanded_of_change (C := Try.checked) own started (by kernel_rfl) Try.func15
    (ChangeSpec.witness6 (enc := enc) (C := Try.checked) false ⟨#[], #[.slice none 0 0, .slice none 0 0], []⟩ 8 (by kernel_rfl) (by kernel_rfl) (by kernel_rfl) (by kernel_rfl)) ?_
  intro W base args ds gs before hval0 hW hcnd _
  have hval : ∀ (j : Nat) t v, Try.f15.params[j]? = some t → args[j]? = some v → Value.okWide Try.prog W .any base t v := hval0
  have hW' := hW
  obtain ⟨p, q, hA0, hV, rfl, hfz, hnd⟩ := hW
  have hA : DataW.TrodAll enc Try.prog W 0 (fun _ => true) true Try.f15.params.toList args.toList ds p := hA0
  rw [Try.params15] at hA hval
  obtain ⟨v0, vs0, d0, ds0, p0, q0, hargs, rfl, rfl, h0, r0⟩ := trodAll_cons hA
  obtain ⟨v1, vs1, d1, ds1, p1, q1, rfl, rfl, rfl, h1, r1⟩ := trodAll_cons r0
  obtain ⟨rfl, rfl, rfl⟩ := trodAll_nil r1
  obtain rfl : args = #[v0, v1] := by cases args; simp_all
  obtain ⟨rfl, rfl⟩ := trodVars_none hV
  have kk0 := h0
  have lt0 : ∀ x ∈ p0, x.block < W.heap.size := by obtain ⟨m, hm⟩ := kk0; exact DataW.trod_lt m _ _ _ hm
  obtain ⟨a0, len0, cap0, rfl⟩ := okWide_slice Try.underlying22 (hval 0 22 v0 rfl rfl)
  obtain ⟨z0, w0⟩ : ∃ zs, IsRow .u8 W a0 len0 cap0 zs := by
    obtain ⟨fuel, hf⟩ := h0
    rcases open_ints Try.underlying22 Try.underlying5 (by kernel_rfl) hf with ⟨hcs, _⟩ | ⟨x, l, c, zs, hcs, _, hl, hm, hz, _, hcell, hwz⟩
    · simp [Value.cells] at hcs
      obtain ⟨rfl, rfl, rfl⟩ := hcs
      exact ⟨[], .inl ⟨rfl, rfl, rfl, rfl⟩⟩
    · simp [Value.cells] at hcs
      obtain ⟨rfl, rfl, rfl⟩ := hcs
      exact ⟨zs, .inr ⟨_, rfl, hl, hm, by simpa using hz, hcell, hwz⟩⟩
  have kk1 := h1
  have lt1 : ∀ x ∈ p1, x.block < W.heap.size := by obtain ⟨m, hm⟩ := kk1; exact DataW.trod_lt m _ _ _ hm
  obtain ⟨a1, len1, cap1, rfl⟩ := okWide_slice Try.underlying22 (hval 1 22 v1 rfl rfl)
  obtain ⟨z1, w1⟩ : ∃ zs, IsRow .u8 W a1 len1 cap1 zs := by
    obtain ⟨fuel, hf⟩ := h1
    rcases open_ints Try.underlying22 Try.underlying5 (by kernel_rfl) hf with ⟨hcs, _⟩ | ⟨x, l, c, zs, hcs, _, hl, hm, hz, _, hcell, hwz⟩
    · simp [Value.cells] at hcs
      obtain ⟨rfl, rfl, rfl⟩ := hcs
      exact ⟨[], .inl ⟨rfl, rfl, rfl, rfl⟩⟩
    · simp [Value.cells] at hcs
      obtain ⟨rfl, rfl, rfl⟩ := hcs
      exact ⟨zs, .inr ⟨_, rfl, hl, hm, by simpa using hz, hcell, hwz⟩⟩
  clear hA0
  refine (walk a0 len0 cap0 z0 a1 len1 cap1 z1 W w0 w1).mono fun e W' ⟨he, bel⟩ => ?_
  subst he
  exact ⟨_, rfl, _, _, _, [], _, [], hW', trodAll_mk1 (shut_bool Try.underlying4 _), (trodAll_cons_mk (Below.trod laidOut (by kernel_rfl) (of_decide_eq_true (by kernel_rfl)) kk0 bel lt0) (trodAll_cons_mk (Below.trod laidOut (by kernel_rfl) (of_decide_eq_true (by kernel_rfl)) kk1 bel lt1) trodAll_mk0)), rfl, bel.frame _, fun h => by cases h⟩

set_option maxRecDepth 100000 in
theorem facts : joinedFacts Try.prog 15 Try.f15 Rows.fnStoreDiskSpec Rows.fnStoreDiskRow = true := by
  unfold joinedFacts
  refine Facts.and_t ?_ (by as_aux_lemma => kernel_rfl)
  refine Facts.and_t ?_ (by as_aux_lemma => kernel_rfl)
  refine Facts.and_t ?_ (by as_aux_lemma => kernel_rfl)
  refine Facts.and_t ?_ (by as_aux_lemma => kernel_rfl)
  refine Facts.and_t ?_ (by show (Try.prog.make == some Make.cut) = true; rw [Facts.made]; rfl)
  refine Facts.and_t ?_ (by show (false == Try.prog.liftsFinal) = true; rw [Facts.lifts]; rfl)
  refine Facts.and_t ?_ (Facts.enters)
  refine Facts.and_t ?_ (Facts.heard)
  refine Facts.and_t ?_ (rfl)
  refine Facts.and_t ?_ (by show (true == Try.prog.plainKeys) = true; rw [Facts.keys]; rfl)
  refine Facts.and_t ?_ (by as_aux_lemma => kernel_rfl)
  refine Facts.and_t ?_ (by as_aux_lemma => kernel_rfl)
  refine Facts.and_t ?_ (by as_aux_lemma => kernel_rfl)
  refine Facts.and_t ?_ (by as_aux_lemma => kernel_rfl)
  refine Facts.and_t ?_ (by as_aux_lemma => kernel_rfl)
  refine Facts.and_t ?_ (by as_aux_lemma => kernel_rfl)
  refine Facts.and_t ?_ (by as_aux_lemma => kernel_rfl)
  refine Facts.and_t ?_ (by as_aux_lemma => kernel_rfl)
  refine Facts.and_t ?_ (by as_aux_lemma => kernel_rfl)
  refine Facts.and_t ?_ (by as_aux_lemma => kernel_rfl)
  refine Facts.and_t ?_ (by as_aux_lemma => kernel_rfl)
  refine Facts.and_t ?_ (by as_aux_lemma => kernel_rfl)
  refine Facts.and_t ?_ (by as_aux_lemma => kernel_rfl)
  refine Facts.and_t ?_ (by as_aux_lemma => kernel_rfl)
  refine Facts.and_t ?_ (by as_aux_lemma => kernel_rfl)
  refine Facts.and_t ?_ (by as_aux_lemma => kernel_rfl)
  refine Facts.and_t ?_ (by as_aux_lemma => kernel_rfl)
  refine Facts.and_t ?_ (by as_aux_lemma => kernel_rfl)
  refine Facts.and_t ?_ (by as_aux_lemma => kernel_rfl)
  refine Facts.and_t ?_ (Facts.rowed)
  refine Facts.and_t ?_ (Facts.laidOut)
  kernel_rfl

theorem over : Rows.fnStoreDiskRow.holds Try.pinned (OpenSpec.ofChange Rows.fnStoreDiskSpec) :=
  OpenClaim.holds_of_wide 15 Try.f15 rfl rfl rfl rfl rfl rfl rfl ⟨rfl, rfl, rfl, rfl, rfl⟩ rfl rfl rfl rfl rfl (by kernel_rfl) Try.func15 facts
    (of_decide_eq_true (by kernel_rfl)) (by unfold Func.isWrapper; first | (rw [if_pos (by decide +kernel)]; kernel_rfl) | (rw [if_neg (by decide +kernel)]; exact ⟨rfl, rfl⟩))
    (fun os started H enc _ => lifted os started H enc)

end Go.Proofs.Ytiplhdcapnboaaa.StoreDisk
namespace Go.Proofs.Ytiplhdcapnboaaa
theorem fnStoreDisk_holds : Rows.FnStoreDiskSaid := StoreDisk.over
end Go.Proofs.Ytiplhdcapnboaaa
