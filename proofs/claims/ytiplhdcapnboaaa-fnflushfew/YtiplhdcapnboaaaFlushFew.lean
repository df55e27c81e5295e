/-
  One flush is one value told, and what a wipe needs: so it is in a drawn store. The given statement, with no condition.
-/
import Derived.Test.YtiplhdcapnboaaaPv
import Derived.Test.YtiplhdcapnboaaaPlE
import Derived.Test.YtiplhdcapnboaaaImplX
import Derived.Test.YtiplhdcapnboaaaFacts
import Derived.Lib.SmallJoins
namespace Go.Proofs.Ytiplhdcapnboaaa.FlushFew
open Go.ChangeShapes Go.WideShapes Go.ChangeAt Go.RowKit Go.Shelf Go.Joins OkA Big Fl ImplB ImplF ImplS ImplT ImplU SpecA SpecB SpecC SpecD SpecW SpecX SpecF SpecG SpecH FindP FindN FindO FindD ImplW ImplX Pick Draw ClA DrB PlB Pl FindL StA StB StC StD StE StF StG SpS SpT DrS Sv LqI Pw Pv Py DrG RmA WrA FlA PlA SpU ToA SpecH EvA Px NwA LqI Sn9 ImplL Kp DoA
open FlB (FsN)
open StN (SN)
open Facts (own laidOut)
set_option linter.unusedVariables false
set_option linter.unusedSimpArgs false
attribute [local go_sem ↓] Go.wp_at_zero Go.wp_at_succ

theorem st_of {bs : List Bk} {dk : List Int} {k : Int} (h : flushS bs dk k ≠ []) : stB bs dk = true := by
  cases q : stB bs dk
  · unfold flushS at h; rw [q] at h; exact absurd rfl h
  · rfl
theorem st_cells {w : World} {g : Nat} {L : List Stp} (h : w.rangeAt g 0 (stsC L)) (hg : g < w.heap.size) {w' : World} (b : Below w.heap.size w w') (j : Nat) (hj : j < L.length) : w'.rangeAt g (j * 8) (stC (L.getD j zSt)) := fun i v hv => by
  rw [List.getD_eq_getElem?_getD, List.getElem?_eq_getElem hj] at hv
  have := stp_at h j hj i v hv
  rw [Nat.zero_add] at this
  exact (b.cell (p := ⟨g, j * 8 + i, none⟩) hg).trans this

set_option maxRecDepth 100000 in
set_option maxHeartbeats 8000000 in
theorem walk (a0 : Option Addr) (len0 cap0 : Nat) (z0 : List Int) (w : World) (h0 : IsRow .u8 w a0 len0 cap0 z0) :
    Calls Try.prog 23 #[.slice a0 len0 cap0] w fun e w' => e = .returned (.bool true) ∧ Below w.heap.size w w' := by
  have HD := hide (drawFlush_any w a0 len0 cap0 z0 h0)
  clear h0
  go_enter Try.func23, Try.ntmps23
  by_cases hbig0 : 1048576 < (len0 : Int)
  · go_wp2
    go_ret
    exact ⟨rfl, Below.refl _ _⟩
  go_wp2_with fail
  refine (unhide HD).mono ?_
  rintro e w1 ⟨g, o, c, bs, d, z, dc, dk, k, rfl, S1, k0, k1, B⟩
  have h4 := S1.fs.four
  have h6 := S1.six
  have hp4 := hide S1.fs.pgs
  have hs := S1.at
  clear HD S1
  generalize (some ⟨g, o, none⟩ : Option Addr) = fa at *
  generalize (some ⟨d, z, none⟩ : Option Addr) = da at *
  have bA : Below w1.heap.size w1 (w1.alloc (.cells #[.slice fa bs.length c, .slice da dk.length dc] 54)) := (Below.refl _ _).alloc (Nat.le_refl _) _
  have bx := Bx.new w1 (.slice fa bs.length c) (.slice da dk.length dc) 54
  replace hs := hs.below bA
  replace B := B.trans (bA.mono B.size)
  clear bA
  have y0 := bx.c0
  have y1 := bx.c1
  have HIF := hide (fun (w' : World) (h : SAt w' fa bs da dk) => iFlush (fc := c) (dc := dc) k (by omega) (by omega) w' h h4 h6)
  have HSF := hide (fun (w' : World) (h : SAt w' fa bs da dk) => sFlush k (fc := c) (dc := dc)  w' h h4 h6 (unhide hp4))
  have HIP := hide (fun (w' : World) (h : SAt w' fa bs da dk) => iPut (fc := c) (dc := dc) k (rdS bs dk k) w' h h4 h6)
  have HIR := hide (fun (w' : World) (h : SAt w' fa bs da dk) => iRead k (fc := c) (dc := dc)  w' h h4 h6)
  have HSS := hide (show (Try.prog.info? 54).map (·.size) = some 2 by kernel_rfl)
  have HS8 := hide (show (Try.prog.info? 69).map (·.size) = some 8 by kernel_rfl)
  have HP := hide (fun (h : flushS bs dk k ≠ []) => (⟨(fl_pos (st_of h) h).2.1, (fl_pos (st_of h) h).2.2⟩ : flushS bs dk k = _ ∧ putS bs dk k (rdS bs dk k) = _))
  have HF7 := hide (flush_len (bs := bs) (dk := dk) k)
  generalize flushS bs dk k = F at *
  generalize putS bs dk k (rdS bs dk k) = LP at *
  generalize rdS bs dk k = v at *
  go_wp2_with fail
  generalize w1.alloc (.cells #[.slice fa bs.length c, .slice da dk.length dc] 54) = w2 at *
  generalize w1.heap.size = sb at *
  refine (unhide HIF _ hs).mono ?_
  rintro e u1 ⟨la, lc, rfl, l, b⟩
  replace hs := hs.below b
  replace bx := bx.below b
  clear y0 y1
  have y0 := bx.c0
  have y1 := bx.c1
  replace B := B.trans (b.mono B.size)
  clear b
  go_wp2_with fail
  refine (unhide HSF _ hs).mono ?_
  rintro e u2 ⟨m9a, m9c, rfl, m9, b⟩
  replace hs := hs.below b
  replace l := l.below b
  replace bx := bx.below b
  clear y0 y1
  have y0 := bx.c0
  have y1 := bx.c1
  replace B := B.trans (b.mono B.size)
  clear b
  clear m9
  by_cases hF0 : F.length = 0
  · have hFi : (F.length : Int) = 0 := by omega
    go_wp2_with fail
    refine (unhide HSF _ hs).mono ?_
    rintro e u3 ⟨m9a, m9c, rfl, m9, b⟩
    replace hs := hs.below b
    replace l := l.below b
    replace bx := bx.below b
    clear y0 y1
    have y0 := bx.c0
    have y1 := bx.c1
    replace B := B.trans (b.mono B.size)
    clear b
    go_wp2
    go_ret
    exact ⟨rfl, B⟩
  have hF7 := unhide HF7
  have hne : F ≠ [] := fun q => hF0 (by rw [q]; rfl)
  obtain ⟨eF, eP⟩ := unhide HP hne
  have hFn : ¬ (F.length : Int) = 0 := by omega
  obtain ⟨sg, rfl, hsg, hsr⟩ : ∃ g, la = some ⟨g, 0, none⟩ ∧ g < u2.heap.size ∧ u2.rangeAt g 0 (stsC F) := by
    rcases l with q | q
    · exact absurd q hne
    · exact q
  obtain ⟨m, hm, hmP, hm1⟩ : ∃ m, F.length = m + 1 ∧ LP.length = m ∧ 1 ≤ m := ⟨(roomL bs).length + 1, by rw [eF]; simp, by rw [eP]; simp, by omega⟩
  have gm : F.getD m zSt = writeS (roomB bs) ⟨2, mostB bs + 1, k, v⟩ ∧ LP.getD (m - 1) zSt = writeS (roomB bs) ⟨1, mostB bs + 1, k, v⟩ := by
    have hm2 : m = (roomL bs).length + 1 := by rw [eF] at hm; simp at hm; omega
    rw [eF, eP, hm2]; simp
  have gi : ∀ i, i + 1 < m → F.getD (i + 1) zSt = LP.getD i zSt := fun i hi => by
    have hm2 : m = (roomL bs).length + 1 := by rw [eF] at hm; simp at hm; omega
    rw [eF, eP, List.getD_cons_succ, List.getD_eq_getElem?_getD, List.getD_eq_getElem?_getD, List.getElem?_append_left (by omega), List.getElem?_append_left (by omega)]
  have HGM := hide gm
  have HGI := hide gi
  have hmi : (F.length : Int) - 1 = (LP.length : Int) := by omega
  have hPi : (LP.length : Int) = (m : Int) := by omega
  have HMP := hide hmP
  have HMF := hide hm
  have HC := hide (fun (w' : World) (b : Below u2.heap.size u2 w') (j : Nat) (hj : j < m + 1) => st_cells hsr hsg b j (by omega))
  clear eF eP gm gi hne hF0 l hsr HP HSF HIF hmP hm
  generalize roomB bs = rbk at *
  generalize mostB bs + 1 = sq at *
  go_upto_region 8 with fail
  refine wp_region_noPanic ?_
  refine wp_region_held_drew (S := fun w' => Kept [] u2 w') (by kernel_rfl) (Kept.refl _ _).drew (fun hHeld => ?_)
  generalize u2.drew = y0 at *
  have z0 := hHeld.size
  refine takeL 0 (.agg #[.slice fa bs.length c, .slice da dk.length dc]) rfl (by kernel_rfl) (by kernel_rfl) (by kernel_rfl) (fun _ _ _ h => h) (yieldsIf_load_mid rfl 54 _ rfl sb 0 rfl [.slice fa bs.length c, .slice da dk.length dc] _ (fun _ h => rng2 (bx.below (Kept.all h (by simp)))) Try.underlying54 rfl (unhide HSS)) hHeld ?_
  try simp only [Act.put, List.setIfInBounds_toArray, List.set_cons_zero, List.set_cons_succ]
  refine takeL 1 (.int .i64 k) rfl (by kernel_rfl) (by kernel_rfl) (by kernel_rfl) (fun _ _ _ h => h) (Or.inl ⟨rfl, fun _ _ => rfl⟩) hHeld ?_
  try simp only [Act.put, List.setIfInBounds_toArray, List.set_cons_zero, List.set_cons_succ]
  refine takeL 2 (.agg #[.slice fa bs.length c, .slice da dk.length dc]) rfl (by kernel_rfl) (by kernel_rfl) (by kernel_rfl) (fun _ _ _ h => h) (yieldsIf_load_mid rfl 54 _ rfl sb 0 rfl [.slice fa bs.length c, .slice da dk.length dc] _ (fun _ h => rng2 (bx.below (Kept.all h (by simp)))) Try.underlying54 rfl (unhide HSS)) hHeld ?_
  try simp only [Act.put, List.setIfInBounds_toArray, List.set_cons_zero, List.set_cons_succ]
  refine takeL 3 (.int .i64 k) rfl (by kernel_rfl) (by kernel_rfl) (by kernel_rfl) (fun _ _ _ h => h) (Or.inl ⟨rfl, fun _ _ => rfl⟩) hHeld ?_
  try simp only [Act.put, List.setIfInBounds_toArray, List.set_cons_zero, List.set_cons_succ]
  refine oneL 4 rfl (by kernel_rfl) rfl (fun K hK => ?_)
  go_simp
  refine (unhide HIR _ (hs.below (Kept.all hHeld (by simp)))).mono ?_
  rintro e y1 ⟨rfl, b⟩
  go_wp2_with fail
  refine hK.out _ _ (hHeld.trans (Kept.of b)) (fun hHeld => ?_)
  clear hK K
  try simp only [Act.put, List.setIfInBounds_toArray, List.set_cons_zero, List.set_cons_succ]
  have z1 := b.size
  clear b
  refine oneL 5 rfl (by kernel_rfl) rfl (fun K hK => ?_)
  go_simp
  refine (unhide HIP _ (hs.below (Kept.all hHeld (by simp)))).mono ?_
  rintro e y2 ⟨pa, pc, rfl, lp, b⟩
  go_wp2_with fail
  refine hK.out _ _ (hHeld.trans (Kept.of b)) (fun hHeld => ?_)
  clear hK K
  try simp only [Act.put, List.setIfInBounds_toArray, List.set_cons_zero, List.set_cons_succ]
  have z2 := b.size
  clear b
  refine takeL 6 (.slice pa LP.length pc) rfl (by kernel_rfl) (by kernel_rfl) (by kernel_rfl) (fun _ _ _ h => h) (Or.inl ⟨rfl, fun _ _ => rfl⟩) hHeld ?_
  try simp only [Act.put, List.setIfInBounds_toArray, List.set_cons_zero, List.set_cons_succ]
  refine wpAnyH_done (by kernel_rfl) ?_ _
  refine NoPanic.normal ?_
  have B3 := B.trans ((Kept.all hHeld (by simp)).mono B.size)
  have bF := Kept.all hHeld (by simp)
  clear hHeld hs bx
  obtain ⟨pg, rfl, hpg, hpr⟩ : ∃ g, pa = some ⟨g, 0, none⟩ ∧ g < y2.heap.size ∧ y2.rangeAt g 0 (stsC LP) := by
    rcases lp with q | q
    · have := unhide HMP; rw [q] at this; simp at this; omega
    · exact q
  have HPC := hide (fun (w' : World) (b : Below y2.heap.size y2 w') (j : Nat) (hj : j < m) => st_cells hpr hpg b j (by have := unhide HMP; omega))
  have hwF : IntKind.i64.wrap ((LP.length : Int)) = (LP.length : Int) := by rw [IntKind.wrap_i64] <;> omega
  have hwF1 : IntKind.i64.wrap ((F.length : Int) - 1) = (LP.length : Int) := by rw [hmi]; exact hwF
  clear lp hpr
  go_wp2
  go_loopw [8] (fun i w' => ∃ j : Nat, j ≤ m ∧ i = .int .i64 j ∧ Below y2.heap.size y2 w') (fun i _ => m - (intOf i).toNat)
  case atStart => exact ⟨0, by omega, rfl, Below.refl _ _⟩
  case round =>
    obtain ⟨i, hi, rfl, bw⟩ := hrel
    by_cases h0 : i = m
    · subst h0
      have B4 := B3.trans (bw.mono B3.size)
      clear HC HPC HGM HGI
      go_wp2
      go_ret
      exact ⟨rfl, B4⟩
    · have him : i < m := by omega
      have hii : (i : Int) < (LP.length : Int) := by omega
      have hi0 : (0 : Int) ≤ (i : Int) := by omega
      have bC := bF.trans (bw.mono bF.size)
      have hcr := unhide HC _ bC (i + 1) (by omega)
      have hpr := unhide HPC _ bw i him
      obtain ⟨i1, hi1⟩ : ∃ i1 : Nat, i + 1 = i1 := ⟨_, rfl⟩
      rw [hi1] at hcr
      have he1 : (i : Int) + 1 = (i1 : Int) := by omega
      have hiF : (i1 : Int) < (F.length : Int) := by have := unhide HMF; omega
      have hi10 : (0 : Int) ≤ (i1 : Int) := by omega
      have hwi : IntKind.i64.wrap ((i1 : Int)) = (i1 : Int) := by rw [IntKind.wrap_i64] <;> omega
      have hwl : IntKind.i64.wrap ((LP.length : Int) - 1) = (LP.length : Int) - 1 := by rw [IntKind.wrap_i64] <;> omega
      have hpgz : pg < wr.heap.size := Nat.lt_of_lt_of_le hpg bw.size
      by_cases hlast : i + 1 = m
      · obtain rfl : i1 = m := by omega
        have hlb : ((i : Int) == (LP.length : Int) - 1) = true := by simp; omega
        obtain ⟨g1, g2⟩ := unhide HGM
        rw [g1] at hcr
        rw [show i1 - 1 = i by omega] at g2
        rw [g2] at hpr
        replace hcr : wr.rangeAt sg (i1 * 8) [.int .i64 3, .int .i64 0, .int .i64 0, .int .i64 rbk, .int .i64 2, .int .i64 sq, .int .i64 k, .int .i64 v] := hcr
        replace hpr : wr.rangeAt pg (i * 8) [.int .i64 3, .int .i64 0, .int .i64 0, .int .i64 rbk, .int .i64 1, .int .i64 sq, .int .i64 k, .int .i64 v] := hpr
        have c0 : wr.cell? ⟨sg, i1 * 8, none⟩ = some (.int .i64 3) := hcr 0 _ rfl
        have c1 : wr.cell? ⟨sg, i1 * 8 + 1, none⟩ = some (.int .i64 0) := hcr 1 _ rfl
        have c2 : wr.cell? ⟨sg, i1 * 8 + 2, none⟩ = some (.int .i64 0) := hcr 2 _ rfl
        have c3 : wr.cell? ⟨sg, i1 * 8 + 3, none⟩ = some (.int .i64 rbk) := hcr 3 _ rfl
        have c4 : wr.cell? ⟨sg, i1 * 8 + 4, none⟩ = some (.int .i64 2) := hcr 4 _ rfl
        have c5 : wr.cell? ⟨sg, i1 * 8 + 5, none⟩ = some (.int .i64 sq) := hcr 5 _ rfl
        have c6 : wr.cell? ⟨sg, i1 * 8 + 6, none⟩ = some (.int .i64 k) := hcr 6 _ rfl
        have c7 : wr.cell? ⟨sg, i1 * 8 + 7, none⟩ = some (.int .i64 v) := hcr 7 _ rfl
        clear HC HPC HGM HGI g1 g2 hlast
        go_upto_region 16 with fail
        have cN0 := CsAt.new wr [.int .i64 3, .int .i64 0, .int .i64 0, .int .i64 rbk, .int .i64 2, .int .i64 sq, .int .i64 k, .int .i64 v] 69
        have bA : Below wr.heap.size wr (wr.alloc (.cells #[.int .i64 3, .int .i64 0, .int .i64 0, .int .i64 rbk, .int .i64 2, .int .i64 sq, .int .i64 k, .int .i64 v] 69)) := (Below.refl _ _).alloc (Nat.le_refl _) _
        have hpc0 := rangeAt_below hpr bA hpgz
        have bz0 := bw.trans (bA.mono bw.size)
        have hnb := bw.size
        clear c0 c1 c2 c3 c4 c5 c6 c7 bA hcr hpr
        generalize wr.alloc (.cells #[.int .i64 3, .int .i64 0, .int .i64 0, .int .i64 rbk, .int .i64 2, .int .i64 sq, .int .i64 k, .int .i64 v] 69) = wz0 at *
        generalize wr.heap.size = nb at *
        have n4 := cN0.cell 4 _ rfl
        have z4 := cN0.frozen 4 (by simp)
        go_upto_region 19 with fail
        have cN : CsAt (wz0.setCell ⟨nb, 4, none⟩ (.int .i64 1)) nb [.int .i64 3, .int .i64 0, .int .i64 0, .int .i64 rbk, .int .i64 1, .int .i64 sq, .int .i64 k, .int .i64 v] := csAt_set cN0 4 (by simp) (.int .i64 1)
        have kz := kept_cell wz0 nb 4 (.int .i64 1)
        have hpgy : pg < wz0.heap.size := Nat.lt_of_lt_of_le hpg bz0.size
        have hpc := kz.range hpc0 hpgy (by simp; omega)
        have bz := ((Kept.of (L := []) bz0).setCell (p := ⟨nb, 4, none⟩) (.inr hnb) (.int .i64 1)).all (by simp)
        have hpgzz : pg < (wz0.setCell ⟨nb, 4, none⟩ (.int .i64 1)).heap.size := Nat.lt_of_lt_of_le hpgy kz.size
        clear cN0 kz hpc0 bz0 n4 z4 hpgz hpgy
        generalize wz0.setCell ⟨nb, 4, none⟩ (.int .i64 1) = wz at *
        refine wp_region_noPanic ?_
        refine wp_region_held_drew (S := fun w' => Kept [] wz w') (by kernel_rfl) (Kept.refl _ _).drew (fun hHeld => ?_)
        generalize wz.drew = y0 at *
        have z0 := hHeld.size
        refine takeL 0 (.agg #[.int .i64 3, .int .i64 0, .int .i64 0, .int .i64 rbk, .int .i64 1, .int .i64 sq, .int .i64 k, .int .i64 v]) rfl (by kernel_rfl) (by kernel_rfl) (by kernel_rfl) (fun _ _ _ h => h) (yieldsIf_load_mid rfl 69 _ rfl nb 0 rfl [.int .i64 3, .int .i64 0, .int .i64 0, .int .i64 rbk, .int .i64 1, .int .i64 sq, .int .i64 k, .int .i64 v] _ (fun _ h => (OrdL.ckept cN h (CsAt.lt cN (by simp)) (by simp)).cells) Try.underlying69 rfl (unhide HS8)) hHeld ?_
        try simp only [Act.put, List.setIfInBounds_toArray, List.set_cons_zero, List.set_cons_succ]
        refine takeL 1 (.slice (some ⟨pg, 0, none⟩) LP.length pc) rfl (by kernel_rfl) (by kernel_rfl) (by kernel_rfl) (fun _ _ _ h => h) (Or.inl ⟨rfl, fun _ _ => rfl⟩) hHeld ?_
        try simp only [Act.put, List.setIfInBounds_toArray, List.set_cons_zero, List.set_cons_succ]
        refine takeL 2 (.int .i64 i) rfl (by kernel_rfl) (by kernel_rfl) (by kernel_rfl) (fun _ _ _ h => h) (Or.inl ⟨rfl, fun _ _ => rfl⟩) hHeld ?_
        try simp only [Act.put, List.setIfInBounds_toArray, List.set_cons_zero, List.set_cons_succ]
        refine takeL 3 (.pointer (some ⟨pg, i * 8, none⟩)) rfl (by kernel_rfl) (by kernel_rfl) (by kernel_rfl) (fun _ _ _ h => h) (Or.inl ⟨rfl, fun w9 hSw => by go_simp⟩) hHeld ?_
        try simp only [Act.put, List.setIfInBounds_toArray, List.set_cons_zero, List.set_cons_succ]
        refine takeL 4 (.agg #[.int .i64 3, .int .i64 0, .int .i64 0, .int .i64 rbk, .int .i64 1, .int .i64 sq, .int .i64 k, .int .i64 v]) rfl (by kernel_rfl) (by kernel_rfl) (by kernel_rfl) (fun _ _ _ h => h) (yieldsIf_load_mid rfl 69 _ rfl pg (i * 8) rfl [.int .i64 3, .int .i64 0, .int .i64 0, .int .i64 rbk, .int .i64 1, .int .i64 sq, .int .i64 k, .int .i64 v] _ (fun _ h => h.range hpc hpgzz (by simp)) Try.underlying69 rfl (unhide HS8)) hHeld ?_
        try simp only [Act.put, List.setIfInBounds_toArray, List.set_cons_zero, List.set_cons_succ]
        refine takeL 5 (.bool false) rfl (by kernel_rfl) (by kernel_rfl) (by kernel_rfl) (fun _ _ _ h => h) (Or.inl ⟨rfl, fun w9 hSw => by go_simp⟩) hHeld ?_
        try simp only [Act.put, List.setIfInBounds_toArray, List.set_cons_zero, List.set_cons_succ]
        refine wpAnyH_done (by kernel_rfl) ?_ _
        refine NoPanic.normal ?_
        have K2 := bz.trans ((Kept.all hHeld (by simp)).mono bz.size)
        clear hHeld cN hpc
        go_wp2
        go_roundw
        case rel => exact ⟨i + 1, by omega, by first | rfl | go_num, K2⟩
        case measure => simp [intOf]; omega
      · have hlb : ((i : Int) == (LP.length : Int) - 1) = false := by simp; omega
        have hg := unhide HGI i (by omega)
        rw [← hi1, hg, hi1] at hcr
        obtain ⟨yk, ya, yv, yb, ye, ys, yx, yw, hy⟩ : ∃ yk ya yv yb ye ys yx yw, LP.getD i zSt = ⟨yk, ya, yv, yb, ⟨ye, ys, yx, yw⟩⟩ := ⟨_, _, _, _, _, _, _, _, rfl⟩
        rw [hy] at hcr hpr
        replace hcr : wr.rangeAt sg (i1 * 8) [.int .i64 yk, .int .i64 ya, .int .i64 yv, .int .i64 yb, .int .i64 ye, .int .i64 ys, .int .i64 yx, .int .i64 yw] := hcr
        replace hpr : wr.rangeAt pg (i * 8) [.int .i64 yk, .int .i64 ya, .int .i64 yv, .int .i64 yb, .int .i64 ye, .int .i64 ys, .int .i64 yx, .int .i64 yw] := hpr
        have c0 : wr.cell? ⟨sg, i1 * 8, none⟩ = some (.int .i64 yk) := hcr 0 _ rfl
        have c1 : wr.cell? ⟨sg, i1 * 8 + 1, none⟩ = some (.int .i64 ya) := hcr 1 _ rfl
        have c2 : wr.cell? ⟨sg, i1 * 8 + 2, none⟩ = some (.int .i64 yv) := hcr 2 _ rfl
        have c3 : wr.cell? ⟨sg, i1 * 8 + 3, none⟩ = some (.int .i64 yb) := hcr 3 _ rfl
        have c4 : wr.cell? ⟨sg, i1 * 8 + 4, none⟩ = some (.int .i64 ye) := hcr 4 _ rfl
        have c5 : wr.cell? ⟨sg, i1 * 8 + 5, none⟩ = some (.int .i64 ys) := hcr 5 _ rfl
        have c6 : wr.cell? ⟨sg, i1 * 8 + 6, none⟩ = some (.int .i64 yx) := hcr 6 _ rfl
        have c7 : wr.cell? ⟨sg, i1 * 8 + 7, none⟩ = some (.int .i64 yw) := hcr 7 _ rfl
        clear HC HPC HGM HGI hg hy hlast
        go_upto_region 19 with fail
        have cN := CsAt.new wr [.int .i64 yk, .int .i64 ya, .int .i64 yv, .int .i64 yb, .int .i64 ye, .int .i64 ys, .int .i64 yx, .int .i64 yw] 69
        have bA : Below wr.heap.size wr (wr.alloc (.cells #[.int .i64 yk, .int .i64 ya, .int .i64 yv, .int .i64 yb, .int .i64 ye, .int .i64 ys, .int .i64 yx, .int .i64 yw] 69)) := (Below.refl _ _).alloc (Nat.le_refl _) _
        have hpc := rangeAt_below hpr bA hpgz
        have bz := bw.trans (bA.mono bw.size)
        have hpgzz : pg < (wr.alloc (.cells #[.int .i64 yk, .int .i64 ya, .int .i64 yv, .int .i64 yb, .int .i64 ye, .int .i64 ys, .int .i64 yx, .int .i64 yw] 69)).heap.size := Nat.lt_of_lt_of_le hpgz bA.size
        clear c0 c1 c2 c3 c4 c5 c6 c7 bA hcr hpr
        generalize wr.alloc (.cells #[.int .i64 yk, .int .i64 ya, .int .i64 yv, .int .i64 yb, .int .i64 ye, .int .i64 ys, .int .i64 yx, .int .i64 yw] 69) = wz at *
        generalize wr.heap.size = nb at *
        refine wp_region_noPanic ?_
        refine wp_region_held_drew (S := fun w' => Kept [] wz w') (by kernel_rfl) (Kept.refl _ _).drew (fun hHeld => ?_)
        generalize wz.drew = y0 at *
        have z0 := hHeld.size
        refine takeL 0 (.agg #[.int .i64 yk, .int .i64 ya, .int .i64 yv, .int .i64 yb, .int .i64 ye, .int .i64 ys, .int .i64 yx, .int .i64 yw]) rfl (by kernel_rfl) (by kernel_rfl) (by kernel_rfl) (fun _ _ _ h => h) (yieldsIf_load_mid rfl 69 _ rfl nb 0 rfl [.int .i64 yk, .int .i64 ya, .int .i64 yv, .int .i64 yb, .int .i64 ye, .int .i64 ys, .int .i64 yx, .int .i64 yw] _ (fun _ h => (OrdL.ckept cN h (CsAt.lt cN (by simp)) (by simp)).cells) Try.underlying69 rfl (unhide HS8)) hHeld ?_
        try simp only [Act.put, List.setIfInBounds_toArray, List.set_cons_zero, List.set_cons_succ]
        refine takeL 1 (.slice (some ⟨pg, 0, none⟩) LP.length pc) rfl (by kernel_rfl) (by kernel_rfl) (by kernel_rfl) (fun _ _ _ h => h) (Or.inl ⟨rfl, fun _ _ => rfl⟩) hHeld ?_
        try simp only [Act.put, List.setIfInBounds_toArray, List.set_cons_zero, List.set_cons_succ]
        refine takeL 2 (.int .i64 i) rfl (by kernel_rfl) (by kernel_rfl) (by kernel_rfl) (fun _ _ _ h => h) (Or.inl ⟨rfl, fun _ _ => rfl⟩) hHeld ?_
        try simp only [Act.put, List.setIfInBounds_toArray, List.set_cons_zero, List.set_cons_succ]
        refine takeL 3 (.pointer (some ⟨pg, i * 8, none⟩)) rfl (by kernel_rfl) (by kernel_rfl) (by kernel_rfl) (fun _ _ _ h => h) (Or.inl ⟨rfl, fun w9 hSw => by go_simp⟩) hHeld ?_
        try simp only [Act.put, List.setIfInBounds_toArray, List.set_cons_zero, List.set_cons_succ]
        refine takeL 4 (.agg #[.int .i64 yk, .int .i64 ya, .int .i64 yv, .int .i64 yb, .int .i64 ye, .int .i64 ys, .int .i64 yx, .int .i64 yw]) rfl (by kernel_rfl) (by kernel_rfl) (by kernel_rfl) (fun _ _ _ h => h) (yieldsIf_load_mid rfl 69 _ rfl pg (i * 8) rfl [.int .i64 yk, .int .i64 ya, .int .i64 yv, .int .i64 yb, .int .i64 ye, .int .i64 ys, .int .i64 yx, .int .i64 yw] _ (fun _ h => h.range hpc hpgzz (by simp)) Try.underlying69 rfl (unhide HS8)) hHeld ?_
        try simp only [Act.put, List.setIfInBounds_toArray, List.set_cons_zero, List.set_cons_succ]
        refine takeL 5 (.bool false) rfl (by kernel_rfl) (by kernel_rfl) (by kernel_rfl) (fun _ _ _ h => h) (Or.inl ⟨rfl, fun w9 hSw => by go_simp⟩) hHeld ?_
        try simp only [Act.put, List.setIfInBounds_toArray, List.set_cons_zero, List.set_cons_succ]
        refine wpAnyH_done (by kernel_rfl) ?_ _
        refine NoPanic.normal ?_
        have K2 := bz.trans ((Kept.all hHeld (by simp)).mono bz.size)
        clear hHeld cN hpc
        go_wp2
        go_roundw
        case rel => exact ⟨i + 1, by omega, by first | rfl | go_num, K2⟩
        case measure => simp [intOf]; omega


set_option maxRecDepth 100000 in
theorem lifted (os : Os) (started : os.Started) (H : Type) (enc : TypeId × Value → H) :
    ReturnsInHanded {} Try.checked os 23 .any (Rows.fnFlushFewSpec.pre6 enc Try.prog Try.f23 Rows.fnFlushFewRow.domain false) (Rows.fnFlushFewSpec.post enc Try.prog Try.f23 false true false false) := by
  refine returnsInHanded_of_change (C := Try.checked) own started (by kernel_rfl) Try.func23
    (ChangeSpec.witness6 (enc := enc) (C := Try.checked) false ⟨#[], #[.slice none 0 0], []⟩ 8 (by kernel_rfl) (by kernel_rfl) (by kernel_rfl) (by kernel_rfl)) ?_
  intro W base args ds gs before hval0 hW hcnd _
  have hval : ∀ (j : Nat) t v, Try.f23.params[j]? = some t → args[j]? = some v → Value.okWide Try.prog W .any base t v := hval0
  have hW' := hW
  obtain ⟨p, q, hA0, hV, rfl, hfz, hnd⟩ := hW
  have hA : DataW.TrodAll enc Try.prog W 0 (fun _ => true) true Try.f23.params.toList args.toList ds p := hA0
  rw [Try.params23] at hA hval
  obtain ⟨v0, vs0, d0, ds0, p0, q0, hargs, rfl, rfl, h0, r0⟩ := trodAll_cons hA
  obtain ⟨rfl, rfl, rfl⟩ := trodAll_nil r0
  obtain rfl : args = #[v0] := by cases args; simp_all
  obtain ⟨rfl, rfl⟩ := trodVars_none hV
  have kk0 := h0
  have lt0 : ∀ x ∈ p0, x.block < W.heap.size := by obtain ⟨m, hm⟩ := kk0; exact DataW.trod_lt m _ _ _ hm
  obtain ⟨a0, len0, cap0, rfl⟩ := okWide_slice Try.underlying22 (hval 0 22 v0 rfl rfl)
  obtain ⟨z0, w0⟩ : ∃ zs, IsRow .u8 W a0 len0 cap0 zs := by
    obtain ⟨fuel, hf⟩ := h0
    rcases open_ints Try.underlying22 Try.underlying5 (by kernel_rfl) hf with ⟨hcs, _⟩ | ⟨x, l, c, zs, hcs, _, hl, hm, hz, _, hcell, hwz⟩
    · simp [Value.cells] at hcs
      obtain ⟨rfl, rfl, rfl⟩ := hcs
      exact ⟨[], .inl ⟨rfl, rfl, rfl, rfl⟩⟩
    · simp [Value.cells] at hcs
      obtain ⟨rfl, rfl, rfl⟩ := hcs
      exact ⟨zs, .inr ⟨_, rfl, hl, hm, by simpa using hz, hcell, hwz⟩⟩
  clear hA0
  refine (walk a0 len0 cap0 z0 W w0).mono fun e W' ⟨he, bel⟩ => ?_
  subst he
  exact ⟨_, rfl, _, _, _, [], _, [], hW', trodAll_mk1 (shut_bool Try.underlying4 _), (trodAll_cons_mk (Below.trod laidOut (by kernel_rfl) (of_decide_eq_true (by kernel_rfl)) kk0 bel lt0) trodAll_mk0), rfl, bel.frame _, fun h => by cases h⟩

set_option maxRecDepth 100000 in
theorem facts : joinedFacts Try.prog 23 Try.f23 Rows.fnFlushFewSpec Rows.fnFlushFewRow = true := by
  unfold joinedFacts
  refine Facts.and_t ?_ (by as_aux_lemma => kernel_rfl)
  refine Facts.and_t ?_ (by as_aux_lemma => kernel_rfl)
  refine Facts.and_t ?_ (by as_aux_lemma => kernel_rfl)
  refine Facts.and_t ?_ (by as_aux_lemma => kernel_rfl)
  refine Facts.and_t ?_ (by show (Try.prog.make == some Make.cut) = true; rw [Facts.made]; rfl)
  refine Facts.and_t ?_ (by show (false == Try.prog.liftsFinal) = true; rw [Facts.lifts]; rfl)
  refine Facts.and_t ?_ (Facts.enters)
  refine Facts.and_t ?_ (Facts.heard)
  refine Facts.and_t ?_ (rfl)
  refine Facts.and_t ?_ (by show (true == Try.prog.plainKeys) = true; rw [Facts.keys]; rfl)
  refine Facts.and_t ?_ (by as_aux_lemma => kernel_rfl)
  refine Facts.and_t ?_ (by as_aux_lemma => kernel_rfl)
  refine Facts.and_t ?_ (by as_aux_lemma => kernel_rfl)
  refine Facts.and_t ?_ (by as_aux_lemma => kernel_rfl)
  refine Facts.and_t ?_ (by as_aux_lemma => kernel_rfl)
  refine Facts.and_t ?_ (by as_aux_lemma => kernel_rfl)
  refine Facts.and_t ?_ (by as_aux_lemma => kernel_rfl)
  refine Facts.and_t ?_ (by as_aux_lemma => kernel_rfl)
  refine Facts.and_t ?_ (by as_aux_lemma => kernel_rfl)
  refine Facts.and_t ?_ (by as_aux_lemma => kernel_rfl)
  refine Facts.and_t ?_ (by as_aux_lemma => kernel_rfl)
  refine Facts.and_t ?_ (by as_aux_lemma => kernel_rfl)
  refine Facts.and_t ?_ (by as_aux_lemma => kernel_rfl)
  refine Facts.and_t ?_ (by as_aux_lemma => kernel_rfl)
  refine Facts.and_t ?_ (by as_aux_lemma => kernel_rfl)
  refine Facts.and_t ?_ (by as_aux_lemma => kernel_rfl)
  refine Facts.and_t ?_ (by as_aux_lemma => kernel_rfl)
  refine Facts.and_t ?_ (by as_aux_lemma => kernel_rfl)
  refine Facts.and_t ?_ (by as_aux_lemma => kernel_rfl)
  refine Facts.and_t ?_ (Facts.rowed)
  refine Facts.and_t ?_ (Facts.laidOut)
  kernel_rfl

theorem over : Rows.fnFlushFewRow.holds Try.pinned (OpenSpec.ofChange Rows.fnFlushFewSpec) :=
  OpenClaim.holds_of_wide 23 Try.f23 rfl rfl rfl rfl rfl rfl rfl ⟨rfl, rfl, rfl, rfl, rfl⟩ rfl rfl rfl rfl rfl (by kernel_rfl) Try.func23 facts
    (of_decide_eq_true (by kernel_rfl)) (by unfold Func.isWrapper; first | (rw [if_pos (by decide +kernel)]; kernel_rfl) | (rw [if_neg (by decide +kernel)]; exact ⟨rfl, rfl⟩))
    (fun os started H enc _ => lifted os started H enc)

end Go.Proofs.Ytiplhdcapnboaaa.FlushFew
namespace Go.Proofs.Ytiplhdcapnboaaa
theorem fnFlushFew_holds : Rows.FnFlushFewSaid := FlushFew.over
end Go.Proofs.Ytiplhdcapnboaaa
