/-
  Wherever it falls and torn or not, the store stays ok: so a drawn one does. The given statement, with no condition.
-/
import Derived.Test.YtogfelpdgeionaaGreatHbY
import Derived.Test.YtogfelpdgeionaaGreatHbR
import Derived.Test.YtogfelpdgeionaaGreatHaT
import Derived.Test.YtogfelpdgeionaaGreatHbZ
import Derived.Test.YtogfelpdgeionaaGreatHbS
import Derived.Test.YtogfelpdgeionaaGreatFacts
import Derived.Lib.SmallJoins
namespace Go.Proofs.YtogfelpdgeionaaGreat.StepsOk
open Go.ChangeShapes Go.WideShapes Go.ChangeAt Go.RowKit Go.Shelf Go.Joins OkA Big Fl ImplB ImplF ImplS ImplT ImplU SpecA SpecB SpecC SpecD SpecW SpecX SpecF SpecG SpecH FindP FindN FindO FindD ImplW ImplX Pick Draw ClA DrB PlB Pl FindL StA StB StC StD StE StF StG SpS SpT DrS Sv LqI Pw DrF RmA WrA FlA PlA SpU ToA DoA QuE LawT MkN Ct Cu Ps Py Pz TwC PaA Px NwA LqI Sn9 ImplL Kp DoA
open FlB (FsN)
open StN (SN)
open Facts (own laidOut)
set_option linter.unusedVariables false
set_option linter.unusedSimpArgs false
attribute [local go_sem ↓] Go.wp_at_zero Go.wp_at_succ

theorem iFill {fa da : Option Addr} {fc dc : Nat} {bs : List Bk} {dk : List Int} (k : Int) (w : World) (h : SAt w fa bs da dk) (h4 : bs.length ≤ 4) (h6 : dk.length ≤ 6) :
    Calls Tryz.prog 39 #[.agg #[.slice fa bs.length fc, .slice da dk.length dc], .int .i64 k] w fun e w' => SlPost w (fillS bs dk k) e w' := (TwC.implFill_any fa fc bs da dc dk k w h (by omega) (by omega)).mono fun _ _ q => slForm q
/-- What is asked of a list of steps. -/
def AnyL (bs : List Bk) (dk : List Int) (L : List Stp) : Prop := L.length ≤ 7 ∧ ∀ (ct : Int) (tt : Bool), 0 ≤ ct → toOk bs dk L ct = true ∧ stB (toB bs L ct tt) (toK dk L ct tt) = true
theorem any_of {bs : List Bk} {dk : List Int} (hs : stB bs dk = true) (k a b : Int) (h4 : ¬ k = 4) : AnyL bs dk (evS bs dk ⟨k, a, b, 0, false⟩) := by
  refine ⟨ev_len bs dk _, fun ct tt h0 => ?_⟩
  have e : evS bs dk ⟨k, a, b, 0, false⟩ = evP bs dk ⟨k, a, b, ct, tt⟩ := by unfold evS; rw [if_pos hs]; rfl
  rw [e]
  refine ⟨ev_tk hs _ ct h0, ?_⟩
  have := doP_st hs ⟨k, a, b, ct, tt⟩
  unfold DpX.doP at this
  rw [if_neg h4, if_neg (show ¬ ct < 0 by omega)] at this
  exact this
theorem any_put {bs : List Bk} {dk : List Int} (hs : stB bs dk = true) (a b : Int) : AnyL bs dk (putS bs dk a b) := by
  rw [evS_1 (x := ⟨1, a, b, 0, false⟩) rfl]; exact any_of hs 1 a b (by omega)
theorem any_flush {bs : List Bk} {dk : List Int} (hs : stB bs dk = true) (a : Int) : AnyL bs dk (flushS bs dk a) := by
  rw [evS_2 (x := ⟨2, a, 0, 0, false⟩) rfl]; exact any_of hs 2 a 0 (by omega)
theorem any_fill {bs : List Bk} {dk : List Int} (hs : stB bs dk = true) (a : Int) : AnyL bs dk (fillS bs dk a) := by
  rw [evS_3 (x := ⟨3, a, 0, 0, false⟩) rfl]; exact any_of hs 3 a 0 (by omega)

set_option maxRecDepth 100000 in
set_option maxHeartbeats 8000000 in
theorem walk (a0 : Option Addr) (len0 cap0 : Nat) (z0 : List Int) (a1 : Option Addr) (len1 cap1 : Nat) (z1 : List Int) (w : World) (h0 : IsRow .u8 w a0 len0 cap0 z0) (h1 : IsRow .u8 w a1 len1 cap1 z1) :
    Calls Tryz.prog 10 #[.slice a0 len0 cap0, .slice a1 len1 cap1] w fun e w' => e = .returned (.bool true) ∧ Below w.heap.size w w' := by
  have HD := hide (drawPut_any w a0 len0 cap0 z0 h0)
  clear h0
  clear h1
  go_enter Tryz.func10, Tryz.ntmps10
  by_cases hbig0 : 1048576 < (len0 : Int)
  · go_wp2
    go_ret
    exact ⟨rfl, Below.refl _ _⟩
  by_cases hbig1 : 1048576 < (len1 : Int)
  · go_wp2
    go_ret
    exact ⟨rfl, Below.refl _ _⟩
  go_wp2_with fail
  refine (unhide HD).mono ?_
  rintro e w1 ⟨g, o, c, bs, d, z, dc, dk, k, v, rfl, S1, k0, k1, v0, v1, B⟩
  have h4 := S1.fs.four
  have h6 := S1.six
  have hp4 := hide S1.fs.pgs
  have hs := S1.at
  clear HD S1
  generalize (some ⟨g, o, none⟩ : Option Addr) = fa at *
  generalize (some ⟨d, z, none⟩ : Option Addr) = da at *
  have bA : Below w1.heap.size w1 (w1.alloc (.cells #[.slice fa bs.length c, .slice da dk.length dc] 26)) := (Below.refl _ _).alloc (Nat.le_refl _) _
  have bx := Bx.new w1 (.slice fa bs.length c) (.slice da dk.length dc) 26
  replace hs := hs.below bA
  replace B := B.trans (bA.mono B.size)
  clear bA
  have y0 := bx.c0
  have y1 := bx.c1
  have HIP := hide (fun (w' : World) (h : SAt w' fa bs da dk) => iPut k v (fc := c) (dc := dc)  w' h h4 h6)
  have HSP := hide (fun (w' : World) (h : SAt w' fa bs da dk) => sPut k v (fc := c) (dc := dc)  w' h h4 h6 (unhide hp4))
  have HSO := hide (fun (w' : World) (h : SAt w' fa bs da dk) => sOk (fc := c) (dc := dc)  w' h h4 h6 (unhide hp4))
  have HSS := hide (show (Tryz.prog.info? 26).map (·.size) = some 2 by kernel_rfl)
  have HIF := hide (fun (w' : World) (h : SAt w' fa bs da dk) => iFlush (fc := c) (dc := dc) k (by omega) (by omega) w' h h4 h6)
  have HIG := hide (fun (w' : World) (h : SAt w' fa bs da dk) => iFill (fc := c) (dc := dc) k w' h h4 h6)
  have HA0 := hide (fun (h : stB bs dk = true) => any_put h k v)
  have HA1 := hide (fun (h : stB bs dk = true) => any_flush h k)
  have HA2 := hide (fun (h : stB bs dk = true) => any_fill h k)
  have HTO := hide (fun (L : List Stp) (h7 : L.length ≤ 7) (ct : Int) (tt : Bool) (q0 : 0 ≤ ct) (q1 : ct ≤ 1048576) (hok : toOk bs dk L ct = true) (w' : World) (sa : Option Addr) (sc : Nat) (h : SAt w' fa bs da dk) (hl : StAt w' sa L) => iToI (fc := c) (dc := dc) (sc := sc) ct tt w' h h4 h6 hl (by omega) q0 q1 hok)
  generalize putS bs dk k v = L0 at *
  generalize flushS bs dk k = L1 at *
  generalize fillS bs dk k = L2 at *
  go_wp2_with fail
  generalize w1.alloc (.cells #[.slice fa bs.length c, .slice da dk.length dc] 26) = w2 at *
  generalize w1.heap.size = sb at *
  refine (unhide HIP _ hs).mono ?_
  rintro e u1 ⟨la, lc, rfl, l, b⟩
  replace hs := hs.below b
  replace bx := bx.below b
  clear y0 y1
  have y0 := bx.c0
  have y1 := bx.c1
  replace B := B.trans (b.mono B.size)
  clear b
  go_wp2_with fail
  refine (unhide HSP _ hs).mono ?_
  rintro e u2 ⟨ma, mc, rfl, m, b⟩
  replace hs := hs.below b
  replace l := l.below b
  replace bx := bx.below b
  clear y0 y1
  have y0 := bx.c0
  have y1 := bx.c1
  replace B := B.trans (b.mono B.size)
  clear b
  clear m
  go_wp2_with fail
  refine (unhide HSO _ hs).mono ?_
  rintro e u3 ⟨rfl, b⟩
  replace hs := hs.below b
  replace l := l.below b
  replace bx := bx.below b
  clear y0 y1
  have y0 := bx.c0
  have y1 := bx.c1
  replace B := B.trans (b.mono B.size)
  clear b
  cases hst : stB bs dk
  · go_wp2_with fail
    refine (unhide HSP _ hs).mono ?_
    rintro e u4 ⟨ma, mc, rfl, m, b⟩
    replace hs := hs.below b
    replace l := l.below b
    replace bx := bx.below b
    clear y0 y1
    have y0 := bx.c0
    have y1 := bx.c1
    replace B := B.trans (b.mono B.size)
    clear b
    go_wp2
    go_ret
    exact ⟨rfl, B⟩
  have A0 := hide (unhide HA0 hst)
  have A1 := hide (unhide HA1 hst)
  have A2 := hide (unhide HA2 hst)
  clear HA0 HA1 HA2 HSO HSP HIP
  go_upto_region 7 with fail
  have y0' := y0
  have y1' := y1
  clear y0 y1
  refine wp_region_noPanic ?_
  refine wp_region_held_drew (S := fun w' => Kept [] u3 w') (by kernel_rfl) (Kept.refl _ _).drew (fun hHeld => ?_)
  generalize u3.drew = y0 at *
  have z0 := hHeld.size
  refine takeL 0 (.slice la L0.length lc) rfl (by kernel_rfl) (by kernel_rfl) (by kernel_rfl) (fun _ _ _ h => h) (Or.inl ⟨rfl, fun _ _ => rfl⟩) hHeld ?_
  try simp only [Act.put, List.setIfInBounds_toArray, List.set_cons_zero, List.set_cons_succ]
  refine takeL 1 (.agg #[.slice fa bs.length c, .slice da dk.length dc]) rfl (by kernel_rfl) (by kernel_rfl) (by kernel_rfl) (fun _ _ _ h => h) (yieldsIf_load_mid rfl 26 _ rfl sb 0 rfl [.slice fa bs.length c, .slice da dk.length dc] _ (fun _ h => rng2 (bx.below (Kept.all h (by simp)))) Tryz.underlying26 rfl (unhide HSS)) hHeld ?_
  try simp only [Act.put, List.setIfInBounds_toArray, List.set_cons_zero, List.set_cons_succ]
  refine takeL 2 (.int .i64 k) rfl (by kernel_rfl) (by kernel_rfl) (by kernel_rfl) (fun _ _ _ h => h) (Or.inl ⟨rfl, fun _ _ => rfl⟩) hHeld ?_
  try simp only [Act.put, List.setIfInBounds_toArray, List.set_cons_zero, List.set_cons_succ]
  refine takeL 4 (.agg #[.slice fa bs.length c, .slice da dk.length dc]) rfl (by kernel_rfl) (by kernel_rfl) (by kernel_rfl) (fun _ _ _ h => h) (yieldsIf_load_mid rfl 26 _ rfl sb 0 rfl [.slice fa bs.length c, .slice da dk.length dc] _ (fun _ h => rng2 (bx.below (Kept.all h (by simp)))) Tryz.underlying26 rfl (unhide HSS)) hHeld ?_
  try simp only [Act.put, List.setIfInBounds_toArray, List.set_cons_zero, List.set_cons_succ]
  refine takeL 5 (.int .i64 k) rfl (by kernel_rfl) (by kernel_rfl) (by kernel_rfl) (fun _ _ _ h => h) (Or.inl ⟨rfl, fun _ _ => rfl⟩) hHeld ?_
  try simp only [Act.put, List.setIfInBounds_toArray, List.set_cons_zero, List.set_cons_succ]
  refine oneL 3 rfl (by kernel_rfl) rfl (fun K hK => ?_)
  go_simp
  refine (unhide HIF _ (hs.below (Kept.all hHeld (by simp)))).mono ?_
  rintro e y1 ⟨ma, mc, rfl, m, b⟩
  go_wp2_with fail
  refine hK.out _ _ (hHeld.trans (Kept.of b)) (fun hHeld => ?_)
  clear hK K
  try simp only [Act.put, List.setIfInBounds_toArray, List.set_cons_zero, List.set_cons_succ]
  have z1 := b.size
  clear b
  refine oneL 6 rfl (by kernel_rfl) rfl (fun K hK => ?_)
  go_simp
  refine (unhide HIG _ (hs.below (Kept.all hHeld (by simp)))).mono ?_
  rintro e y2 ⟨na, nc, rfl, n, b⟩
  go_wp2_with fail
  replace m := m.below b
  refine hK.out _ _ (hHeld.trans (Kept.of b)) (fun hHeld => ?_)
  clear hK K
  try simp only [Act.put, List.setIfInBounds_toArray, List.set_cons_zero, List.set_cons_succ]
  have z2 := b.size
  clear b
  refine oneL 7 rfl (by kernel_rfl) rfl (fun K hK => ?_)
  go_simp
  have b : Below y2.heap.size y2 (y2.alloc (.cells #[.slice la L0.length lc, .slice ma L1.length mc, .slice na L2.length nc] 29)) := (Below.refl _ _).alloc (Nat.le_refl _) _
  have cG := CsAt.new y2 [.slice la L0.length lc, .slice ma L1.length mc, .slice na L2.length nc] 29
  replace m := m.below b
  replace n := n.below b
  refine hK.out _ _ (hHeld.trans (Kept.of b)) (fun hHeld => ?_)
  clear hK K
  try simp only [Act.put, List.setIfInBounds_toArray, List.set_cons_zero, List.set_cons_succ]
  have z3 := b.size
  generalize y2.alloc (.cells #[.slice la L0.length lc, .slice ma L1.length mc, .slice na L2.length nc] 29) = y3 at *
  generalize y2.heap.size = G at *
  clear b
  refine takeL 8 (.slice (some ⟨G, 0, none⟩) 3 3) rfl (by kernel_rfl) (by kernel_rfl) (by kernel_rfl) (fun _ _ _ h => h) (Or.inl ⟨rfl, fun _ _ => rfl⟩) hHeld ?_
  try simp only [Act.put, List.setIfInBounds_toArray, List.set_cons_zero, List.set_cons_succ]
  refine wpAnyH_done (by kernel_rfl) ?_ _
  refine NoPanic.normal ?_
  replace hs := hs.below (Kept.all hHeld (by simp))
  replace bx := bx.below (Kept.all hHeld (by simp))
  replace l := l.below (Kept.all hHeld (by simp))
  replace B := B.trans ((Kept.all hHeld (by simp)).mono B.size)
  clear hHeld y0' y1' HIF HIG
  have hG := CsAt.lt cG (by simp)
  generalize y3 = xN at *
  have g0 := cG.cell 0 _ rfl
  have g1 := cG.cell 1 _ rfl
  have g2 := cG.cell 2 _ rfl
  have HL3 : Hid (∀ j : Nat, j < 3 → ∃ sa sc L, xN.cell? ⟨G, j, none⟩ = some (.slice sa L.length sc) ∧ StAt xN sa L ∧ AnyL bs dk L) := fun j hj => by
    match j, hj with
    | 0, _ => exact ⟨la, lc, L0, g0, l, unhide A0⟩
    | 1, _ => exact ⟨ma, mc, L1, g1, m, unhide A1⟩
    | 2, _ => exact ⟨na, nc, L2, g2, n, unhide A2⟩
  clear g0 g1 g2 l m n A0 A1 A2 cG
  obtain ⟨ct, hct1, hct2, hct0, hctl⟩ : ∃ ct : Int, (len1 : Int).tmod 9 = ct ∧ (len1 : Int) % 9 = ct ∧ 0 ≤ ct ∧ ct < 9 := ⟨(len1 : Int) % 9, by rw [Int.tmod_eq_emod_of_nonneg (by omega)], rfl, Int.emod_nonneg _ (by omega), Int.emod_lt_of_pos _ (by omega)⟩
  obtain ⟨m2, hm1, hm2⟩ : ∃ m : Int, (len1 : Int).tmod 2 = m ∧ (len1 : Int) % 2 = m := ⟨(len1 : Int) % 2, by rw [Int.tmod_eq_emod_of_nonneg (by omega)], rfl⟩
  obtain ⟨tt, htt⟩ : ∃ t : Bool, (m2 == 0) = t := ⟨_, rfl⟩
  have x0 := bx.c0
  have x1 := bx.c1
  go_wp2
  go_loopw [10] (fun i w' => ∃ j : Nat, j ≤ 3 ∧ i = .int .i64 j ∧ Below xN.heap.size xN w') (fun i _ => 3 - (intOf i).toNat)
  case atStart => exact ⟨0, by omega, rfl, Below.refl _ _⟩
  case round =>
    obtain ⟨j, hj, rfl, bw⟩ := hrel
    by_cases h0 : j = 3
    · subst h0
      replace B := B.trans (bw.mono B.size)
      clear hs bx x0 x1 HL3 bw
      go_wp2
      go_ret
      exact ⟨rfl, B⟩
    · have hjl : j < 3 := by omega
      have hji : (j : Int) < 3 := by omega
      have hj0 : (0 : Int) ≤ (j : Int) := by omega
      have hwj : IntKind.i64.wrap ((j : Int) + 1) = (j : Int) + 1 := by rw [IntKind.wrap_i64] <;> omega
      obtain ⟨sa, sc, L, hcj, hl, hA⟩ := unhide HL3 j hjl
      have hcw := (bw.cell (p := ⟨G, j, none⟩) hG).trans hcj
      have hGw : G < wr.heap.size := Nat.lt_of_lt_of_le hG bw.size
      replace hl := hl.below bw
      replace hs := hs.below bw
      replace bx := bx.below bw
      obtain ⟨h7, hA⟩ := hA
      obtain ⟨hok, hst2⟩ := hA ct tt hct0
      have hT := hide (fun (w' : World) (h : SAt w' fa bs da dk) (q : StAt w' sa L) => unhide HTO L h7 ct tt hct0 (by omega) hok w' sa sc h q)
      have hXl := hide (toB_len4 hst2)
      have HXO := hide (fun (w' : World) (xa xd : Option Addr) (xc xe : Nat) (h : SAt w' xa (toB bs L ct tt) xd (toK dk L ct tt)) => iOk (fc := xc) (dc := xe) w' h (unhide hXl).1 (unhide hXl).2)
      rw [hst2] at HXO
      clear hcj hA hok hst2 hXl HL3 HTO x0 x1 h7 hst
      generalize toB bs L ct tt = XL at *
      generalize toK dk L ct tt = XK at *
      go_upto_region 11 with fail
      apply OrdM.join5 (F := fun (xa : Option Addr) (xd : Option Addr) (xc : Nat) (xe : Nat) (A : Nat) w' => Kept [] wr w' ∧ CsAt w' A [.slice xa XL.length xc, .slice xd XK.length xe] ∧ SAt w' xa XL xd XK)
      case h =>
        refine wp_region_noPanic ?_
        refine wp_region_held_drew (S := fun w' => Kept [] wr w') (by kernel_rfl) (Kept.refl _ _).drew (fun hHeld => ?_)
        generalize wr.drew = y0 at *
        have z0 := hHeld.size
        refine takeL 0 (.agg #[.slice fa bs.length c, .slice da dk.length dc]) rfl (by kernel_rfl) (by kernel_rfl) (by kernel_rfl) (fun _ _ _ h => h) (yieldsIf_load_mid rfl 26 _ rfl sb 0 rfl [.slice fa bs.length c, .slice da dk.length dc] _ (fun _ h => rng2 (bx.below (Kept.all h (by simp)))) Tryz.underlying26 rfl (unhide HSS)) hHeld ?_
        try simp only [Act.put, List.setIfInBounds_toArray, List.set_cons_zero, List.set_cons_succ]
        refine takeL 1 (.slice (some ⟨G, 0, none⟩) 3 3) rfl (by kernel_rfl) (by kernel_rfl) (by kernel_rfl) (fun _ _ _ h => h) (Or.inl ⟨rfl, fun _ _ => rfl⟩) hHeld ?_
        try simp only [Act.put, List.setIfInBounds_toArray, List.set_cons_zero, List.set_cons_succ]
        refine takeL 2 (.int .i64 (j : Int)) rfl (by kernel_rfl) (by kernel_rfl) (by kernel_rfl) (fun _ _ _ h => h) (Or.inl ⟨rfl, fun _ _ => rfl⟩) hHeld ?_
        try simp only [Act.put, List.setIfInBounds_toArray, List.set_cons_zero, List.set_cons_succ]
        refine takeL 3 (.pointer (some ⟨G, j, none⟩)) rfl (by kernel_rfl) (by kernel_rfl) (by kernel_rfl) (fun _ _ _ h => h) (Or.inl ⟨rfl, fun w9 hSw => by go_simp⟩) hHeld ?_
        try simp only [Act.put, List.setIfInBounds_toArray, List.set_cons_zero, List.set_cons_succ]
        refine takeL 4 (.slice sa L.length sc) rfl (by kernel_rfl) (by kernel_rfl) (by kernel_rfl) (fun _ _ _ h => h) (Or.inl ⟨rfl, fun w9 hSw => by have hc := (hSw.cell (b := G) j hGw (by simp)).trans hcw; go_simp⟩) hHeld ?_
        try simp only [Act.put, List.setIfInBounds_toArray, List.set_cons_zero, List.set_cons_succ]
        refine takeL 5 (.slice a1 len1 cap1) rfl (by kernel_rfl) (by kernel_rfl) (by kernel_rfl) (fun _ _ _ h => h) (Or.inl ⟨rfl, fun _ _ => rfl⟩) hHeld ?_
        try simp only [Act.put, List.setIfInBounds_toArray, List.set_cons_zero, List.set_cons_succ]
        refine takeL 6 (.int .i64 (len1 : Int)) rfl (by kernel_rfl) (by kernel_rfl) (by kernel_rfl) (fun _ _ _ h => h) (Or.inl ⟨rfl, fun w9 hSw => by go_simp⟩) hHeld ?_
        try simp only [Act.put, List.setIfInBounds_toArray, List.set_cons_zero, List.set_cons_succ]
        refine takeL 7 (.int .i64 ct) rfl (by kernel_rfl) (by kernel_rfl) (by kernel_rfl) (fun _ _ _ h => h) (Or.inl ⟨rfl, fun w9 hSw => by go_simp⟩) hHeld ?_
        try simp only [Act.put, List.setIfInBounds_toArray, List.set_cons_zero, List.set_cons_succ]
        refine takeL 8 (.slice a1 len1 cap1) rfl (by kernel_rfl) (by kernel_rfl) (by kernel_rfl) (fun _ _ _ h => h) (Or.inl ⟨rfl, fun _ _ => rfl⟩) hHeld ?_
        try simp only [Act.put, List.setIfInBounds_toArray, List.set_cons_zero, List.set_cons_succ]
        refine takeL 9 (.int .i64 (len1 : Int)) rfl (by kernel_rfl) (by kernel_rfl) (by kernel_rfl) (fun _ _ _ h => h) (Or.inl ⟨rfl, fun w9 hSw => by go_simp⟩) hHeld ?_
        try simp only [Act.put, List.setIfInBounds_toArray, List.set_cons_zero, List.set_cons_succ]
        refine takeL 10 (.int .i64 m2) rfl (by kernel_rfl) (by kernel_rfl) (by kernel_rfl) (fun _ _ _ h => h) (Or.inl ⟨rfl, fun w9 hSw => by go_simp⟩) hHeld ?_
        try simp only [Act.put, List.setIfInBounds_toArray, List.set_cons_zero, List.set_cons_succ]
        refine takeL 11 (.bool tt) rfl (by kernel_rfl) (by kernel_rfl) (by kernel_rfl) (fun _ _ _ h => h) (Or.inl ⟨rfl, fun w9 hSw => by go_simp⟩) hHeld ?_
        try simp only [Act.put, List.setIfInBounds_toArray, List.set_cons_zero, List.set_cons_succ]
        refine OrdL.twoL 12 16 rfl rfl (by kernel_rfl) rfl rfl  (fun K hK => ?_) (fun K hK => ?_) 
        · go_simp
          refine (unhide hT _ (hs.below (Kept.all hHeld (by simp))) (hl.below (Kept.all hHeld (by simp)))).mono ?_
          rintro e y1 ⟨xa, xc, xd, xe, rfl, hX, b⟩
          go_wp2_with fail
          refine hK.out _ _ (hHeld.trans (Kept.of b)) (fun hHeld => ?_)
          clear hK K
          try simp only [Act.put, List.setIfInBounds_toArray, List.set_cons_zero, List.set_cons_succ]
          have z1 := b.size
          clear b
          refine takeL 13 (.tuple #[.agg #[.slice xa XL.length xc, .slice xd XK.length xe], .bool true]) rfl (by kernel_rfl) (by kernel_rfl) (by kernel_rfl) (fun _ _ _ h => h) (Or.inl ⟨rfl, fun _ _ => rfl⟩) hHeld ?_
          try simp only [Act.put, List.setIfInBounds_toArray, List.set_cons_zero, List.set_cons_succ]
          refine takeL 14 (.agg #[.slice xa XL.length xc, .slice xd XK.length xe]) rfl (by kernel_rfl) (by kernel_rfl) (by kernel_rfl) (fun _ _ _ h => h) (Or.inl ⟨rfl, fun w9 hSw => by go_simp⟩) hHeld ?_
          try simp only [Act.put, List.setIfInBounds_toArray, List.set_cons_zero, List.set_cons_succ]
          refine takeL 15 (.bool true) rfl (by kernel_rfl) (by kernel_rfl) (by kernel_rfl) (fun _ _ _ h => h) (Or.inl ⟨rfl, fun w9 hSw => by go_simp⟩) hHeld ?_
          try simp only [Act.put, List.setIfInBounds_toArray, List.set_cons_zero, List.set_cons_succ]
          refine oneL 16 rfl (by kernel_rfl) rfl (fun K hK => ?_)
          go_simp
          have b : Below y1.heap.size y1 (y1.alloc (.cells #[.slice none 0 0, .slice none 0 0] 26)) := (Below.refl _ _).alloc (Nat.le_refl _) _
          have cN := CsAt.new y1 [.slice none 0 0, .slice none 0 0] 26
          have lcN := hHeld.size
          replace hX := hX.below b
          refine hK.out _ _ (hHeld.trans (Kept.of b)) (fun hHeld => ?_)
          clear hK K
          try simp only [Act.put, List.setIfInBounds_toArray, List.set_cons_zero, List.set_cons_succ]
          have z2 := b.size
          generalize y1.alloc (.cells #[.slice none 0 0, .slice none 0 0] 26) = y2 at *
          generalize y1.heap.size = A at *
          clear b
          have qcN := CsAt.lt cN (by simp)
          refine oneL 17 rfl (by kernel_rfl) rfl (fun K hK => ?_)
          have pcN := cN.put [.slice xa XL.length xc, .slice xd XK.length xe] rfl
          have kz := OrdL.kcells y2 A 0 [.slice xa XL.length xc, .slice xd XK.length xe]
          refine wp_store_mid 26 _ _ rfl A 0 [.slice xa XL.length xc, .slice xd XK.length xe].toArray rfl rfl cN.free (unhide HSS) (by kernel_rfl) ?_
          refine hK.out _ _ (hHeld.then kz (fun y hy => by simp at hy; subst hy; first | (left; simp; done) | (right; omega))) (fun hHeld => ?_)
          clear hK K
          try simp only [Act.put, List.setIfInBounds_toArray, List.set_cons_zero, List.set_cons_succ]
          replace hX := hX.only (OnlyG.kept kz) (fun z hz => by simp at hz; subst hz; omega)
          clear cN kz
          generalize y2.setCells A 0 [.slice xa XL.length xc, .slice xd XK.length xe] = y3 at *
          have cN := pcN
          clear pcN
          refine takeL 18 (.bool true) rfl (by kernel_rfl) (by kernel_rfl) (by kernel_rfl) (fun _ _ _ h => h) (Or.inl ⟨rfl, fun _ _ => rfl⟩) hHeld ?_
          try simp only [Act.put, List.setIfInBounds_toArray, List.set_cons_zero, List.set_cons_succ]
          refine wpAnyH_done (by kernel_rfl) ?_ _
          refine NoPanic.normal ?_
          exact ⟨rfl, xa, xd, xc, xe, A, rfl, hHeld, cN, sat_of hX⟩
        · go_simp
          have b : Below y0.heap.size y0 (y0.alloc (.cells #[.slice none 0 0, .slice none 0 0] 26)) := (Below.refl _ _).alloc (Nat.le_refl _) _
          have cN := CsAt.new y0 [.slice none 0 0, .slice none 0 0] 26
          have lcN := hHeld.size
          refine hK.out _ _ (hHeld.trans (Kept.of b)) (fun hHeld => ?_)
          clear hK K
          try simp only [Act.put, List.setIfInBounds_toArray, List.set_cons_zero, List.set_cons_succ]
          have z1 := b.size
          generalize y0.alloc (.cells #[.slice none 0 0, .slice none 0 0] 26) = y1 at *
          generalize y0.heap.size = A at *
          clear b
          have qcN := CsAt.lt cN (by simp)
          refine oneL 12 rfl (by kernel_rfl) rfl (fun K hK => ?_)
          go_simp
          refine (unhide hT _ (hs.below (Kept.all hHeld (by simp))) (hl.below (Kept.all hHeld (by simp)))).mono ?_
          rintro e y2 ⟨xa, xc, xd, xe, rfl, hX, b⟩
          go_wp2_with fail
          replace cN := CsAt.below cN b (CsAt.lt cN (by simp))
          refine hK.out _ _ (hHeld.trans (Kept.of b)) (fun hHeld => ?_)
          clear hK K
          try simp only [Act.put, List.setIfInBounds_toArray, List.set_cons_zero, List.set_cons_succ]
          have z2 := b.size
          clear b
          refine takeL 13 (.tuple #[.agg #[.slice xa XL.length xc, .slice xd XK.length xe], .bool true]) rfl (by kernel_rfl) (by kernel_rfl) (by kernel_rfl) (fun _ _ _ h => h) (Or.inl ⟨rfl, fun _ _ => rfl⟩) hHeld ?_
          try simp only [Act.put, List.setIfInBounds_toArray, List.set_cons_zero, List.set_cons_succ]
          refine takeL 14 (.agg #[.slice xa XL.length xc, .slice xd XK.length xe]) rfl (by kernel_rfl) (by kernel_rfl) (by kernel_rfl) (fun _ _ _ h => h) (Or.inl ⟨rfl, fun w9 hSw => by go_simp⟩) hHeld ?_
          try simp only [Act.put, List.setIfInBounds_toArray, List.set_cons_zero, List.set_cons_succ]
          refine takeL 15 (.bool true) rfl (by kernel_rfl) (by kernel_rfl) (by kernel_rfl) (fun _ _ _ h => h) (Or.inl ⟨rfl, fun w9 hSw => by go_simp⟩) hHeld ?_
          try simp only [Act.put, List.setIfInBounds_toArray, List.set_cons_zero, List.set_cons_succ]
          refine oneL 17 rfl (by kernel_rfl) rfl (fun K hK => ?_)
          have pcN := cN.put [.slice xa XL.length xc, .slice xd XK.length xe] rfl
          have kz := OrdL.kcells y2 A 0 [.slice xa XL.length xc, .slice xd XK.length xe]
          refine wp_store_mid 26 _ _ rfl A 0 [.slice xa XL.length xc, .slice xd XK.length xe].toArray rfl rfl cN.free (unhide HSS) (by kernel_rfl) ?_
          refine hK.out _ _ (hHeld.then kz (fun y hy => by simp at hy; subst hy; first | (left; simp; done) | (right; omega))) (fun hHeld => ?_)
          clear hK K
          try simp only [Act.put, List.setIfInBounds_toArray, List.set_cons_zero, List.set_cons_succ]
          replace hX := hX.only (OnlyG.kept kz) (fun z hz => by simp at hz; subst hz; omega)
          clear cN kz
          generalize y2.setCells A 0 [.slice xa XL.length xc, .slice xd XK.length xe] = y3 at *
          have cN := pcN
          clear pcN
          refine takeL 18 (.bool true) rfl (by kernel_rfl) (by kernel_rfl) (by kernel_rfl) (fun _ _ _ h => h) (Or.inl ⟨rfl, fun _ _ => rfl⟩) hHeld ?_
          try simp only [Act.put, List.setIfInBounds_toArray, List.set_cons_zero, List.set_cons_succ]
          refine wpAnyH_done (by kernel_rfl) ?_ _
          refine NoPanic.normal ?_
          exact ⟨rfl, xa, xd, xc, xe, A, rfl, hHeld, cN, sat_of hX⟩
      case k =>
        rintro xa xd xc xe A w8 ⟨K, cN, hX⟩
        have bw2 := bw.trans ((Kept.all K (by simp)).mono bw.size)
        clear K hs bx hl bw hcw
        have a0 := cN.cell 0 _ rfl
        have a1' := cN.cell 1 _ rfl
        go_wp2_with fail
        refine (unhide HXO _ _ _ _ _ hX).mono ?_
        rintro e w9 ⟨rfl, b⟩
        have bw3 := bw2.trans (b.mono bw2.size)
        clear a0 a1' cN hX bw2 b
        go_wp2
        go_roundw
        case rel => exact ⟨j + 1, by omega, by first | rfl | go_num, bw3⟩
        case measure => simp [intOf]; omega


set_option maxRecDepth 100000 in
theorem lifted (os : Os) (started : os.Started) (H : Type) (enc : TypeId × Value → H) :
    ReturnsInHanded {} Tryz.checked os 10 .any (Rows.fnStepsOkSpec.pre6 enc Tryz.prog Tryz.f10 Rows.fnStepsOkRow.domain false) (Rows.fnStepsOkSpec.post enc Tryz.prog Tryz.f10 false true false false) := by
  refine returnsInHanded_of_change (C := Tryz.checked) own started (by kernel_rfl) Tryz.func10
    (ChangeSpec.witness6 (enc := enc) (C := Tryz.checked) false ⟨#[], #[.slice none 0 0, .slice none 0 0], []⟩ 8 (by kernel_rfl) (by kernel_rfl) (by kernel_rfl) (by kernel_rfl)) ?_
  intro W base args ds gs before hval0 hW hcnd _
  have hval : ∀ (j : Nat) t v, Tryz.f10.params[j]? = some t → args[j]? = some v → Value.okWide Tryz.prog W .any base t v := hval0
  have hW' := hW
  obtain ⟨p, q, hA0, hV, rfl, hfz, hnd⟩ := hW
  have hA : DataW.TrodAll enc Tryz.prog W 0 (fun _ => true) true Tryz.f10.params.toList args.toList ds p := hA0
  rw [Tryz.params10] at hA hval
  obtain ⟨v0, vs0, d0, ds0, p0, q0, hargs, rfl, rfl, h0, r0⟩ := trodAll_cons hA
  obtain ⟨v1, vs1, d1, ds1, p1, q1, rfl, rfl, rfl, h1, r1⟩ := trodAll_cons r0
  obtain ⟨rfl, rfl, rfl⟩ := trodAll_nil r1
  obtain rfl : args = #[v0, v1] := by cases args; simp_all
  obtain ⟨rfl, rfl⟩ := trodVars_none hV
  have kk0 := h0
  have lt0 : ∀ x ∈ p0, x.block < W.heap.size := by obtain ⟨m, hm⟩ := kk0; exact DataW.trod_lt m _ _ _ hm
  obtain ⟨a0, len0, cap0, rfl⟩ := okWide_slice Tryz.underlying22 (hval 0 22 v0 rfl rfl)
  obtain ⟨z0, w0⟩ : ∃ zs, IsRow .u8 W a0 len0 cap0 zs := by
    obtain ⟨fuel, hf⟩ := h0
    rcases open_ints Tryz.underlying22 Tryz.underlying5 (by kernel_rfl) hf with ⟨hcs, _⟩ | ⟨x, l, c, zs, hcs, _, hl, hm, hz, _, hcell, hwz⟩
    · simp [Value.cells] at hcs
      obtain ⟨rfl, rfl, rfl⟩ := hcs
      exact ⟨[], .inl ⟨rfl, rfl, rfl, rfl⟩⟩
    · simp [Value.cells] at hcs
      obtain ⟨rfl, rfl, rfl⟩ := hcs
      exact ⟨zs, .inr ⟨_, rfl, hl, hm, by simpa using hz, hcell, hwz⟩⟩
  have kk1 := h1
  have lt1 : ∀ x ∈ p1, x.block < W.heap.size := by obtain ⟨m, hm⟩ := kk1; exact DataW.trod_lt m _ _ _ hm
  obtain ⟨a1, len1, cap1, rfl⟩ := okWide_slice Tryz.underlying22 (hval 1 22 v1 rfl rfl)
  obtain ⟨z1, w1⟩ : ∃ zs, IsRow .u8 W a1 len1 cap1 zs := by
    obtain ⟨fuel, hf⟩ := h1
    rcases open_ints Tryz.underlying22 Tryz.underlying5 (by kernel_rfl) hf with ⟨hcs, _⟩ | ⟨x, l, c, zs, hcs, _, hl, hm, hz, _, hcell, hwz⟩
    · simp [Value.cells] at hcs
      obtain ⟨rfl, rfl, rfl⟩ := hcs
      exact ⟨[], .inl ⟨rfl, rfl, rfl, rfl⟩⟩
    · simp [Value.cells] at hcs
      obtain ⟨rfl, rfl, rfl⟩ := hcs
      exact ⟨zs, .inr ⟨_, rfl, hl, hm, by simpa using hz, hcell, hwz⟩⟩
  clear hA0
  refine (walk a0 len0 cap0 z0 a1 len1 cap1 z1 W w0 w1).mono fun e W' ⟨he, bel⟩ => ?_
  subst he
  exact ⟨_, rfl, _, _, _, [], _, [], hW', trodAll_mk1 (shut_bool Tryz.underlying4 _), (trodAll_cons_mk (Below.trod laidOut (by kernel_rfl) (of_decide_eq_true (by kernel_rfl)) kk0 bel lt0) (trodAll_cons_mk (Below.trod laidOut (by kernel_rfl) (of_decide_eq_true (by kernel_rfl)) kk1 bel lt1) trodAll_mk0)), rfl, bel.frame _, fun h => by cases h⟩

set_option maxRecDepth 100000 in
set_option maxHeartbeats 8000000 in
theorem facts : joinedFacts Tryz.prog 10 Tryz.f10 Rows.fnStepsOkSpec Rows.fnStepsOkRow = true := by
  unfold joinedFacts
  refine Facts.and_t ?_ (by as_aux_lemma => kernel_rfl)
  refine Facts.and_t ?_ (by as_aux_lemma => kernel_rfl)
  refine Facts.and_t ?_ (by as_aux_lemma => kernel_rfl)
  refine Facts.and_t ?_ (by as_aux_lemma => kernel_rfl)
  refine Facts.and_t ?_ (by show (Tryz.prog.make == some Make.cut) = true; rw [Facts.made]; rfl)
  refine Facts.and_t ?_ (by show (false == Tryz.prog.liftsFinal) = true; rw [Facts.lifts]; rfl)
  refine Facts.and_t ?_ (Facts.enters)
  refine Facts.and_t ?_ (Facts.heard)
  refine Facts.and_t ?_ (rfl)
  refine Facts.and_t ?_ (by show (true == Tryz.prog.plainKeys) = true; rw [Facts.keys]; rfl)
  refine Facts.and_t ?_ (by as_aux_lemma => kernel_rfl)
  refine Facts.and_t ?_ (by as_aux_lemma => kernel_rfl)
  refine Facts.and_t ?_ (by as_aux_lemma => kernel_rfl)
  refine Facts.and_t ?_ (by as_aux_lemma => kernel_rfl)
  refine Facts.and_t ?_ (by as_aux_lemma => kernel_rfl)
  refine Facts.and_t ?_ (by as_aux_lemma => kernel_rfl)
  refine Facts.and_t ?_ (by as_aux_lemma => kernel_rfl)
  refine Facts.and_t ?_ (by as_aux_lemma => kernel_rfl)
  refine Facts.and_t ?_ (by as_aux_lemma => kernel_rfl)
  refine Facts.and_t ?_ (by as_aux_lemma => kernel_rfl)
  refine Facts.and_t ?_ (by as_aux_lemma => kernel_rfl)
  refine Facts.and_t ?_ (by as_aux_lemma => kernel_rfl)
  refine Facts.and_t ?_ (by as_aux_lemma => kernel_rfl)
  refine Facts.and_t ?_ (by as_aux_lemma => kernel_rfl)
  refine Facts.and_t ?_ (by as_aux_lemma => kernel_rfl)
  refine Facts.and_t ?_ (by as_aux_lemma => kernel_rfl)
  refine Facts.and_t ?_ (by as_aux_lemma => kernel_rfl)
  refine Facts.and_t ?_ (by as_aux_lemma => kernel_rfl)
  refine Facts.and_t ?_ (by as_aux_lemma => kernel_rfl)
  refine Facts.and_t ?_ (Facts.rowed)
  refine Facts.and_t ?_ (Facts.laidOut)
  kernel_rfl

theorem over : Rows.fnStepsOkRow.holds Tryz.pinned (OpenSpec.ofChange Rows.fnStepsOkSpec) :=
  OpenClaim.holds_of_wide_leaving 10 Tryz.f10 rfl rfl rfl rfl rfl rfl rfl ⟨rfl, rfl, rfl, rfl, rfl⟩ rfl rfl rfl rfl rfl (by kernel_rfl) Tryz.func10 facts
    (of_decide_eq_true (by kernel_rfl)) (by unfold Func.isWrapper; first | (rw [if_pos (by decide +kernel)]; kernel_rfl) | (rw [if_neg (by decide +kernel)]; exact ⟨rfl, rfl⟩))
    (fun os started H enc _ => Lv.leave_of (lifted os started H enc))

end Go.Proofs.YtogfelpdgeionaaGreat.StepsOk
namespace Go.Proofs.YtogfelpdgeionaaGreat
theorem fnStepsOk_holds : Rows.FnStepsOkSaid := StepsOk.over
end Go.Proofs.YtogfelpdgeionaaGreat
