/-
  What is filled is the slow disk's value, and no value changes: so it is in a drawn store. The given statement, with no condition.
-/
import Derived.Test.YtogfelpdgeionaaGreatHbV
import Derived.Test.YtogfelpdgeionaaGreatHbR
import Derived.Test.YtogfelpdgeionaaGreatHbY
import Derived.Test.YtogfelpdgeionaaGreatHbZ
import Derived.Test.YtogfelpdgeionaaGreatHbS
import Derived.Test.YtogfelpdgeionaaGreatHbU
import Derived.Test.YtogfelpdgeionaaGreatHaT
import Derived.Test.YtogfelpdgeionaaGreatFacts
import Derived.Lib.SmallJoins
namespace Go.Proofs.YtogfelpdgeionaaGreat.Fill
open Go.ChangeShapes Go.WideShapes Go.ChangeAt Go.RowKit Go.Shelf Go.Joins OkA Big Fl ImplB ImplF ImplS ImplT ImplU SpecA SpecB SpecC SpecD SpecW SpecX SpecF SpecG SpecH FindP FindN FindO FindD ImplW ImplX Pick Draw ClA DrB PlB Pl FindL StA StB StC StD StE StF StG SpS SpT DrS Sv LqI Pw Pv Py DrG RmA WrA FlA PlA SpU ToA SpecH DoA QuE LawT LawX MkN Ct Cu Ps Pz DrX Px NwA LqI Sn9 ImplL Kp DoA
open FlB (FsN)
open StN (SN)
open Facts (own laidOut)
set_option linter.unusedVariables false
set_option linter.unusedSimpArgs false
attribute [local go_sem ↓] Go.wp_at_zero Go.wp_at_succ

theorem iFill {fa da : Option Addr} {fc dc : Nat} {bs : List Bk} {dk : List Int} (k : Int) (w : World) (h : SAt w fa bs da dk) (h4 : bs.length ≤ 4) (h6 : dk.length ≤ 6) :
    Calls Tryz.prog 39 #[.agg #[.slice fa bs.length fc, .slice da dk.length dc], .int .i64 k] w fun e w' => SlPost w (fillS bs dk k) e w' := (TwC.implFill_any fa fc bs da dc dk k w h (by omega) (by omega)).mono fun _ _ q => slForm q
theorem sFill {fa da : Option Addr} {fc dc : Nat} {bs : List Bk} {dk : List Int} (k : Int) (w : World) (h : SAt w fa bs da dk) (h4 : bs.length ≤ 4) (h6 : dk.length ≤ 6) (hp : ∀ b ∈ bs, b.ps.length ≤ 4) :
    Calls Tryz.prog 40 #[.agg #[.slice fa bs.length fc, .slice da dk.length dc], .int .i64 k] w fun e w' => SlPost w (fillS bs dk k) e w' := (specFill_any fa fc bs da dc dk k w h (by omega) (fun b hb => by have := hp b hb; omega) (by omega)).mono fun _ _ q => slForm q
theorem fill_zero {bs : List Bk} {dk : List Int} (hs : stB bs dk = true) {k : Int} (h1 : 1 ≤ k) (h6 : k ≤ 6) (h : fillS bs dk k = []) (ho : flO bs k = false) : putS bs dk k 1 = [] := by
  have hok := (st_parts hs).1
  have hin : inB k 1 6 = true := by simp [inB]; omega
  have hl : lastO bs k = false := by unfold flO at ho; rw [hok, hin] at ho; simpa using ho
  have hd : 0 ≤ dk.getD (k - 1).toNat 0 ∧ dk.getD (k - 1).toNat 0 ≤ 9 := by
    unfold stB at hs
    rw [Bool.and_eq_true, List.all_eq_true] at hs
    have := hs.2 (k - 1).toNat (List.mem_range.2 (by omega))
    unfold badA at this
    rw [Bool.not_eq_true', Bool.or_eq_false_iff, Bool.not_eq_false'] at this
    have := this.1
    simp only [inB, Bool.and_eq_true, decide_eq_true_eq] at this
    exact this
  unfold fillS fillP at h
  rw [if_pos hs, hin, hl] at h
  replace h : writeP bs 2 k (dk.getD (k - 1).toNat 0) = [] := h
  unfold putS
  rw [if_pos hs]
  unfold writeP at h ⊢
  rw [rec_same h1 h6 hd.1 hd.2 (show (0 : Int) ≤ 1 by omega) (show (1 : Int) ≤ 9 by omega)] at h
  cases hc : roomO bs && recB 1 (mostB bs + 1) k 1
  · rfl
  · rw [hc] at h; simp at h
theorem flO_none {bs : List Bk} {k : Int} (h : lastO bs k = false) : flO bs k = false := by unfold flO; rw [h]; simp

set_option maxRecDepth 100000 in
set_option maxHeartbeats 8000000 in
theorem walk (a0 : Option Addr) (len0 cap0 : Nat) (z0 : List Int) (a1 : Option Addr) (len1 cap1 : Nat) (z1 : List Int) (w : World) (h0 : IsRow .u8 w a0 len0 cap0 z0) (h1 : IsRow .u8 w a1 len1 cap1 z1) :
    Calls Tryz.prog 7 #[.slice a0 len0 cap0, .slice a1 len1 cap1] w fun e w' => e = .returned (.bool true) ∧ Below w.heap.size w w' := by
  have HD := hide (drawFill_any w a0 len0 cap0 z0 h0)
  clear h0
  clear h1
  go_enter Tryz.func7, Tryz.ntmps7
  by_cases hbig0 : 1048576 < (len0 : Int)
  · go_wp2
    go_ret
    exact ⟨rfl, Below.refl _ _⟩
  by_cases hbig1 : 1048576 < (len1 : Int)
  · go_wp2
    go_ret
    exact ⟨rfl, Below.refl _ _⟩
  go_wp2_with fail
  refine (unhide HD).mono ?_
  rintro e w1 ⟨g, o, c, bs, d, z, dc, dk, k, rfl, S1, k0, k1, B⟩
  have h4 := S1.fs.four
  have h6 := S1.six
  have hp4 := hide S1.fs.pgs
  have hs := S1.at
  clear HD S1
  generalize (some ⟨g, o, none⟩ : Option Addr) = fa at *
  generalize (some ⟨d, z, none⟩ : Option Addr) = da at *
  have bA : Below w1.heap.size w1 (w1.alloc (.cells #[.slice fa bs.length c, .slice da dk.length dc] 26)) := (Below.refl _ _).alloc (Nat.le_refl _) _
  have bx := Bx.new w1 (.slice fa bs.length c) (.slice da dk.length dc) 26
  replace hs := hs.below bA
  replace B := B.trans (bA.mono B.size)
  clear bA
  have y0 := bx.c0
  have y1 := bx.c1
  have HIF := hide (fun (w' : World) (h : SAt w' fa bs da dk) => iFill k (fc := c) (dc := dc)  w' h h4 h6)
  have HSF := hide (fun (w' : World) (h : SAt w' fa bs da dk) => sFill k (fc := c) (dc := dc)  w' h h4 h6 (unhide hp4))
  have HSO := hide (fun (w' : World) (h : SAt w' fa bs da dk) => sOk (fc := c) (dc := dc)  w' h h4 h6 (unhide hp4))
  have HSS := hide (show (Tryz.prog.info? 26).map (·.size) = some 2 by kernel_rfl)
  have HLA := hide (fun (w' : World) (h : SAt w' fa bs da dk) => iLast (fc := c) k _ _ rfl rfl w' h.fs h4)
  have HFE := hide (fun (hne : fillS bs dk k ≠ []) => fill_e hne)
  have HL6 := hide (fill_len bs dk k)
  have HSM := hide (fun (h : FillE bs dk k) => h.part)
  have HTK := hide (fun (h : FillE bs dk k) => h.tk)
  have HM0 := hide (mostB_0 bs)
  have HZ : Hid (stB bs dk = true → fillS bs dk k = [] → flO bs k = false → ∀ (w' : World), SAt w' fa bs da dk → Calls Tryz.prog 26 #[.agg #[.slice fa bs.length c, .slice da dk.length dc], .int .i64 k, .int .i64 1] w' fun e w'' => ∃ p q, e = .returned (.slice p 0 q) ∧ Below w'.heap.size w' w'') := fun q1 q2 q3 w' h => by
    have := iPut (fc := c) (dc := dc) k 1 w' h h4 h6
    rw [fill_zero q1 k0 k1 q2 q3] at this
    refine this.mono ?_
    rintro e w'' ⟨p, q, he, _, b⟩
    exact ⟨p, q, he, b⟩
  have HTF := hide (fun (hok : ∀ cut : Int, 0 ≤ cut → toOk bs dk (fillS bs dk k) cut = true) (w' : World) (sa : Option Addr) (sc : Nat) (h : SAt w' fa bs da dk) (hl : StAt w' sa (fillS bs dk k)) => iTo (fc := c) (dc := dc) (sc := sc) ((fillS bs dk k).length : Int) false w' h h4 h6 hl (by have := fill_len bs dk k; omega) (by omega) (by have := fill_len bs dk k; omega) (hok _ (by omega)))
  obtain ⟨XF, hXF⟩ : ∃ x, x = toB bs (fillS bs dk k) ((fillS bs dk k).length : Int) false := ⟨_, rfl⟩
  obtain ⟨FK, hFK⟩ : ∃ x, x = toK dk (fillS bs dk k) ((fillS bs dk k).length : Int) false := ⟨_, rfl⟩
  have HFU := hide (fun (h : FillE bs dk k) => h.full)
  rw [← hXF, ← hFK] at HTF HFU
  clear hXF hFK
  have HTO := hide (fun (ct : Int) (tt : Bool) (h0 : 0 ≤ ct) (h1 : ct ≤ 1048576) (hok : toOk bs dk (fillS bs dk k) ct = true) (w' : World) (sa : Option Addr) (sc : Nat) (h : SAt w' fa bs da dk) (hl : StAt w' sa (fillS bs dk k)) => iToI (fc := c) (dc := dc) (sc := sc) ct tt w' h h4 h6 hl (by have := unhide HL6; omega) h0 h1 hok)
  have HIA := hide (fun (w' : World) (h : SAt w' fa bs da dk) => iAll2 (fc := c) (dc := dc) w' h h4 h6)
  generalize fillS bs dk k = L at *
  go_wp2_with fail
  generalize w1.alloc (.cells #[.slice fa bs.length c, .slice da dk.length dc] 26) = w2 at *
  generalize w1.heap.size = sb at *
  refine (unhide HIF _ hs).mono ?_
  rintro e u1 ⟨la, lc, rfl, l, b⟩
  replace hs := hs.below b
  replace bx := bx.below b
  clear y0 y1
  have y0 := bx.c0
  have y1 := bx.c1
  replace B := B.trans (b.mono B.size)
  clear b
  go_wp2_with fail
  refine (unhide HSF _ hs).mono ?_
  rintro e u2 ⟨ma, mc, rfl, m, b⟩
  replace hs := hs.below b
  replace l := l.below b
  replace bx := bx.below b
  clear y0 y1
  have y0 := bx.c0
  have y1 := bx.c1
  replace B := B.trans (b.mono B.size)
  clear b
  clear m
  go_wp2_with fail
  refine (unhide HSO _ hs).mono ?_
  rintro e u3 ⟨rfl, b⟩
  replace hs := hs.below b
  replace l := l.below b
  replace bx := bx.below b
  clear y0 y1
  have y0 := bx.c0
  have y1 := bx.c1
  replace B := B.trans (b.mono B.size)
  clear b
  cases hst : stB bs dk
  · go_wp2_with fail
    refine (unhide HSF _ hs).mono ?_
    rintro e u4 ⟨ma, mc, rfl, m, b⟩
    replace hs := hs.below b
    replace l := l.below b
    replace bx := bx.below b
    clear y0 y1
    have y0 := bx.c0
    have y1 := bx.c1
    replace B := B.trans (b.mono B.size)
    clear b
    go_wp2
    go_ret
    exact ⟨rfl, B⟩
  have HZ2 := hide (unhide HZ hst)
  have hrr := rfl (a := flR bs k)
  have HNO := hide (fun (h : FillE bs dk k) => flO_none h.none)
  clear hrr HZ HSO
  generalize flR bs k = rr at *
  generalize flO bs k = oo at *
  go_wp2_with fail
  refine (unhide HLA _ hs).mono ?_
  rintro e u5 ⟨rfl, b⟩
  replace hs := hs.below b
  replace l := l.below b
  replace bx := bx.below b
  clear y0 y1
  have y0 := bx.c0
  have y1 := bx.c1
  replace B := B.trans (b.mono B.size)
  clear b
  have b : Below u5.heap.size u5 (u5.alloc (.cells #[.int .i64 rr.k, .int .i64 rr.s, .int .i64 rr.a, .int .i64 rr.v] 35)) := (Below.refl _ _).alloc (Nat.le_refl _) _
  replace l := l.below b
  replace hs := hs.below b
  replace bx := bx.below b
  clear y0 y1
  have y0 := bx.c0
  have y1 := bx.c1
  replace B := B.trans (b.mono B.size)
  clear b HLA
  by_cases hL0 : L.length = 0
  · have hLi : (L.length : Int) = 0 := by omega
    have hLe : L = [] := List.length_eq_zero_iff.1 hL0
    have HZ3 := hide (unhide HZ2 hLe)
    cases oo
    · go_wp2_with fail
      refine (unhide HZ3 (by trivial) _ hs).mono ?_
      rintro e x1 ⟨p, q, rfl, b⟩
      replace B := B.trans (b.mono B.size)
      clear hs l bx y0 y1 b
      go_wp2
      go_ret
      exact ⟨rfl, B⟩
    · clear hs l bx y0 y1
      go_wp2
      go_ret
      exact ⟨rfl, B⟩
  have hL6 := unhide HL6
  have hLn : ((L.length : Int) = 0) = False := eq_false (by omega)
  have hne : L ≠ [] := fun q => hL0 (by rw [q]; rfl)
  obtain ⟨ct, hct1, hct2, hct0, hctl⟩ : ∃ ct : Int, (len1 : Int).tmod ((L.length : Int) + 1) = ct ∧ (len1 : Int) % ((L.length : Int) + 1) = ct ∧ 0 ≤ ct ∧ ct < ((L.length : Int) + 1) := ⟨(len1 : Int) % ((L.length : Int) + 1), by rw [Int.tmod_eq_emod_of_nonneg (by omega)], rfl, Int.emod_nonneg _ (by omega), Int.emod_lt_of_pos _ (by omega)⟩
  obtain ⟨m2, hm1, hm2⟩ : ∃ m : Int, (len1 : Int).tmod 2 = m ∧ (len1 : Int) % 2 = m := ⟨(len1 : Int) % 2, by rw [Int.tmod_eq_emod_of_nonneg (by omega)], rfl⟩
  obtain ⟨tt, htt⟩ : ∃ t : Bool, (m2 == 0) = t := ⟨_, rfl⟩
  have hL1n : ((L.length : Int) + 1 = 0) = False := eq_false (by omega)
  have hwl : IntKind.i64.wrap ((L.length : Int) + 1) = (L.length : Int) + 1 := by rw [IntKind.wrap_i64] <;> omega
  have hFE := unhide HFE hne
  have hS0 := hFE.hs
  have hno := unhide HNO hFE
  subst hno
  have hE := unhide HFU hFE
  obtain ⟨hr, ho⟩ := fl_en hE k0 k1 (by have := unhide HM0; omega)
  have hSF : Sm bs dk XF FK := En.sm hE rfl
  have hXl0 : XF.length ≤ 4 := by have := ok_len (st_parts hE.st).1; omega
  have hXk0 : FK.length ≤ 6 := by have := (st_parts hE.st).2; omega
  have hSM := unhide HSM hFE ct tt hct0
  have HTO2 := hide (unhide HTO ct tt hct0 (by omega) (unhide HTK hFE ct hct0))
  have HTF2 := hide (unhide HTF (unhide HTK hFE))
  clear HTO HTF HSM HTK HFE hFE HNO HZ2 HFU hE
  have HTO := HTO2
  have HTF := HTF2
  clear HTO2 HTF2 HSF HIF HL6
  have HFL := hide (fun (w' : World) (xa xd : Option Addr) (xc xe : Nat) (h : SAt w' xa XF xd FK) => iLast (fc := xc) k _ true hr ho w' h.fs hXl0)
  have HFA := hide (fun (w' : World) (xa xd : Option Addr) (xc xe : Nat) (h : SAt w' xa XF xd FK) => iAll2 (fc := xc) (dc := xe) w' h hXl0 hXk0)
  rw [hSF.al hS0] at HFA
  clear hSF hr ho hXl0 hXk0 HM0
  generalize toB bs L ct tt = XL at *
  generalize toK dk L ct tt = XK at *
  generalize mostB bs + 1 = sq at *
  generalize readI bs dk k = v at *
  have hXl : XL.length ≤ 4 := by have := ok_len (st_parts hSM.1).1; omega
  have hXk : XK.length ≤ 6 := by have := (st_parts hSM.1).2; omega
  have HXO := hide (fun (w' : World) (xa xd : Option Addr) (xc xe : Nat) (h : SAt w' xa XL xd XK) => iOk (fc := xc) (dc := xe) w' h hXl hXk)
  rw [hSM.1] at HXO
  have HXA := hide (fun (w' : World) (xa xd : Option Addr) (xc xe : Nat) (h : SAt w' xa XL xd XK) => iAll2 (fc := xc) (dc := xe) w' h hXl hXk)
  rw [hSM.al hS0] at HXA
  have HQ := hide (fun (a1 a2 : Option Addr) (c1 c2 : Nat) (w' : World) (h1 : DkAt w' a1 (alS bs dk)) (h2 : DkAt w' a2 (alS bs dk)) => lqSame a1 a2 c1 c2 (alS bs dk) w' h1 h2 al_le)
  clear hSM
  generalize alS bs dk = LL at *
  go_upto_region 11 with fail
  generalize u5.alloc (.cells #[.int .i64 rr.k, .int .i64 rr.s, .int .i64 rr.a, .int .i64 rr.v] 35) = wz at *
  apply OrdM.join5 (F := fun (xa : Option Addr) (xd : Option Addr) (xc : Nat) (xe : Nat) (A : Nat) w' => Kept [] wz w' ∧ CsAt w' A [.slice xa XL.length xc, .slice xd XK.length xe] ∧ SAt w' xa XL xd XK)
  case h =>
    refine wp_region_noPanic ?_
    refine wp_region_held_drew (S := fun w' => Kept [] wz w') (by kernel_rfl) (Kept.refl _ _).drew (fun hHeld => ?_)
    generalize wz.drew = y0 at *
    have z0 := hHeld.size
    refine takeL 0 (.agg #[.slice fa bs.length c, .slice da dk.length dc]) rfl (by kernel_rfl) (by kernel_rfl) (by kernel_rfl) (fun _ _ _ h => h) (yieldsIf_load_mid rfl 26 _ rfl sb 0 rfl [.slice fa bs.length c, .slice da dk.length dc] _ (fun _ h => rng2 (bx.below (Kept.all h (by simp)))) Tryz.underlying26 rfl (unhide HSS)) hHeld ?_
    try simp only [Act.put, List.setIfInBounds_toArray, List.set_cons_zero, List.set_cons_succ]
    refine takeL 1 (.slice la L.length lc) rfl (by kernel_rfl) (by kernel_rfl) (by kernel_rfl) (fun _ _ _ h => h) (Or.inl ⟨rfl, fun _ _ => rfl⟩) hHeld ?_
    try simp only [Act.put, List.setIfInBounds_toArray, List.set_cons_zero, List.set_cons_succ]
    refine takeL 2 (.slice a1 len1 cap1) rfl (by kernel_rfl) (by kernel_rfl) (by kernel_rfl) (fun _ _ _ h => h) (Or.inl ⟨rfl, fun _ _ => rfl⟩) hHeld ?_
    try simp only [Act.put, List.setIfInBounds_toArray, List.set_cons_zero, List.set_cons_succ]
    refine takeL 3 (.int .i64 (len1 : Int)) rfl (by kernel_rfl) (by kernel_rfl) (by kernel_rfl) (fun _ _ _ h => h) (Or.inl ⟨rfl, fun w9 hSw => by go_simp⟩) hHeld ?_
    try simp only [Act.put, List.setIfInBounds_toArray, List.set_cons_zero, List.set_cons_succ]
    refine takeL 4 (.int .i64 (L.length : Int)) rfl (by kernel_rfl) (by kernel_rfl) (by kernel_rfl) (fun _ _ _ h => h) (Or.inl ⟨rfl, fun _ _ => rfl⟩) hHeld ?_
    try simp only [Act.put, List.setIfInBounds_toArray, List.set_cons_zero, List.set_cons_succ]
    refine takeL 5 (.int .i64 ((L.length : Int) + 1)) rfl (by kernel_rfl) (by kernel_rfl) (by kernel_rfl) (fun _ _ _ h => h) (Or.inl ⟨rfl, fun w9 hSw => by go_simp⟩) hHeld ?_
    try simp only [Act.put, List.setIfInBounds_toArray, List.set_cons_zero, List.set_cons_succ]
    refine takeL 6 (.int .i64 ct) rfl (by kernel_rfl) (by kernel_rfl) (by kernel_rfl) (fun _ _ _ h => h) (Or.inl ⟨rfl, fun w9 hSw => by go_simp⟩) hHeld ?_
    try simp only [Act.put, List.setIfInBounds_toArray, List.set_cons_zero, List.set_cons_succ]
    refine takeL 7 (.slice a1 len1 cap1) rfl (by kernel_rfl) (by kernel_rfl) (by kernel_rfl) (fun _ _ _ h => h) (Or.inl ⟨rfl, fun _ _ => rfl⟩) hHeld ?_
    try simp only [Act.put, List.setIfInBounds_toArray, List.set_cons_zero, List.set_cons_succ]
    refine takeL 8 (.int .i64 (len1 : Int)) rfl (by kernel_rfl) (by kernel_rfl) (by kernel_rfl) (fun _ _ _ h => h) (Or.inl ⟨rfl, fun w9 hSw => by go_simp⟩) hHeld ?_
    try simp only [Act.put, List.setIfInBounds_toArray, List.set_cons_zero, List.set_cons_succ]
    refine takeL 9 (.int .i64 m2) rfl (by kernel_rfl) (by kernel_rfl) (by kernel_rfl) (fun _ _ _ h => h) (Or.inl ⟨rfl, fun w9 hSw => by go_simp⟩) hHeld ?_
    try simp only [Act.put, List.setIfInBounds_toArray, List.set_cons_zero, List.set_cons_succ]
    refine takeL 10 (.bool tt) rfl (by kernel_rfl) (by kernel_rfl) (by kernel_rfl) (fun _ _ _ h => h) (Or.inl ⟨rfl, fun w9 hSw => by go_simp⟩) hHeld ?_
    try simp only [Act.put, List.setIfInBounds_toArray, List.set_cons_zero, List.set_cons_succ]
    refine OrdL.twoL 11 15 rfl rfl (by kernel_rfl) rfl rfl  (fun K hK => ?_) (fun K hK => ?_) 
    · go_simp
      refine (unhide HTO _ _ _ (hs.below (Kept.all hHeld (by simp))) (l.below (Kept.all hHeld (by simp)))).mono ?_
      rintro e y1 ⟨xa, xc, xd, xe, rfl, hX, b⟩
      go_wp2_with fail
      refine hK.out _ _ (hHeld.trans (Kept.of b)) (fun hHeld => ?_)
      clear hK K
      try simp only [Act.put, List.setIfInBounds_toArray, List.set_cons_zero, List.set_cons_succ]
      have z1 := b.size
      clear b
      refine takeL 12 (.tuple #[.agg #[.slice xa XL.length xc, .slice xd XK.length xe], .bool true]) rfl (by kernel_rfl) (by kernel_rfl) (by kernel_rfl) (fun _ _ _ h => h) (Or.inl ⟨rfl, fun _ _ => rfl⟩) hHeld ?_
      try simp only [Act.put, List.setIfInBounds_toArray, List.set_cons_zero, List.set_cons_succ]
      refine takeL 13 (.agg #[.slice xa XL.length xc, .slice xd XK.length xe]) rfl (by kernel_rfl) (by kernel_rfl) (by kernel_rfl) (fun _ _ _ h => h) (Or.inl ⟨rfl, fun w9 hSw => by go_simp⟩) hHeld ?_
      try simp only [Act.put, List.setIfInBounds_toArray, List.set_cons_zero, List.set_cons_succ]
      refine takeL 14 (.bool true) rfl (by kernel_rfl) (by kernel_rfl) (by kernel_rfl) (fun _ _ _ h => h) (Or.inl ⟨rfl, fun w9 hSw => by go_simp⟩) hHeld ?_
      try simp only [Act.put, List.setIfInBounds_toArray, List.set_cons_zero, List.set_cons_succ]
      refine oneL 15 rfl (by kernel_rfl) rfl (fun K hK => ?_)
      go_simp
      have b : Below y1.heap.size y1 (y1.alloc (.cells #[.slice none 0 0, .slice none 0 0] 26)) := (Below.refl _ _).alloc (Nat.le_refl _) _
      have cN := CsAt.new y1 [.slice none 0 0, .slice none 0 0] 26
      have lcN := hHeld.size
      replace hX := hX.below b
      refine hK.out _ _ (hHeld.trans (Kept.of b)) (fun hHeld => ?_)
      clear hK K
      try simp only [Act.put, List.setIfInBounds_toArray, List.set_cons_zero, List.set_cons_succ]
      have z2 := b.size
      generalize y1.alloc (.cells #[.slice none 0 0, .slice none 0 0] 26) = y2 at *
      generalize y1.heap.size = A at *
      clear b
      have qcN := CsAt.lt cN (by simp)
      refine oneL 16 rfl (by kernel_rfl) rfl (fun K hK => ?_)
      have pcN := cN.put [.slice xa XL.length xc, .slice xd XK.length xe] rfl
      have kz := OrdL.kcells y2 A 0 [.slice xa XL.length xc, .slice xd XK.length xe]
      refine wp_store_mid 26 _ _ rfl A 0 [.slice xa XL.length xc, .slice xd XK.length xe].toArray rfl rfl cN.free (unhide HSS) (by kernel_rfl) ?_
      refine hK.out _ _ (hHeld.then kz (fun y hy => by simp at hy; subst hy; first | (left; simp; done) | (right; omega))) (fun hHeld => ?_)
      clear hK K
      try simp only [Act.put, List.setIfInBounds_toArray, List.set_cons_zero, List.set_cons_succ]
      replace hX := hX.only (OnlyG.kept kz) (fun z hz => by simp at hz; subst hz; omega)
      clear cN kz
      generalize y2.setCells A 0 [.slice xa XL.length xc, .slice xd XK.length xe] = y3 at *
      have cN := pcN
      clear pcN
      refine takeL 17 (.bool true) rfl (by kernel_rfl) (by kernel_rfl) (by kernel_rfl) (fun _ _ _ h => h) (Or.inl ⟨rfl, fun _ _ => rfl⟩) hHeld ?_
      try simp only [Act.put, List.setIfInBounds_toArray, List.set_cons_zero, List.set_cons_succ]
      refine wpAnyH_done (by kernel_rfl) ?_ _
      refine NoPanic.normal ?_
      exact ⟨rfl, xa, xd, xc, xe, A, rfl, hHeld, cN, sat_of hX⟩
    · go_simp
      have b : Below y0.heap.size y0 (y0.alloc (.cells #[.slice none 0 0, .slice none 0 0] 26)) := (Below.refl _ _).alloc (Nat.le_refl _) _
      have cN := CsAt.new y0 [.slice none 0 0, .slice none 0 0] 26
      have lcN := hHeld.size
      refine hK.out _ _ (hHeld.trans (Kept.of b)) (fun hHeld => ?_)
      clear hK K
      try simp only [Act.put, List.setIfInBounds_toArray, List.set_cons_zero, List.set_cons_succ]
      have z1 := b.size
      generalize y0.alloc (.cells #[.slice none 0 0, .slice none 0 0] 26) = y1 at *
      generalize y0.heap.size = A at *
      clear b
      have qcN := CsAt.lt cN (by simp)
      refine oneL 11 rfl (by kernel_rfl) rfl (fun K hK => ?_)
      go_simp
      refine (unhide HTO _ _ _ (hs.below (Kept.all hHeld (by simp))) (l.below (Kept.all hHeld (by simp)))).mono ?_
      rintro e y2 ⟨xa, xc, xd, xe, rfl, hX, b⟩
      go_wp2_with fail
      replace cN := CsAt.below cN b (CsAt.lt cN (by simp))
      refine hK.out _ _ (hHeld.trans (Kept.of b)) (fun hHeld => ?_)
      clear hK K
      try simp only [Act.put, List.setIfInBounds_toArray, List.set_cons_zero, List.set_cons_succ]
      have z2 := b.size
      clear b
      refine takeL 12 (.tuple #[.agg #[.slice xa XL.length xc, .slice xd XK.length xe], .bool true]) rfl (by kernel_rfl) (by kernel_rfl) (by kernel_rfl) (fun _ _ _ h => h) (Or.inl ⟨rfl, fun _ _ => rfl⟩) hHeld ?_
      try simp only [Act.put, List.setIfInBounds_toArray, List.set_cons_zero, List.set_cons_succ]
      refine takeL 13 (.agg #[.slice xa XL.length xc, .slice xd XK.length xe]) rfl (by kernel_rfl) (by kernel_rfl) (by kernel_rfl) (fun _ _ _ h => h) (Or.inl ⟨rfl, fun w9 hSw => by go_simp⟩) hHeld ?_
      try simp only [Act.put, List.setIfInBounds_toArray, List.set_cons_zero, List.set_cons_succ]
      refine takeL 14 (.bool true) rfl (by kernel_rfl) (by kernel_rfl) (by kernel_rfl) (fun _ _ _ h => h) (Or.inl ⟨rfl, fun w9 hSw => by go_simp⟩) hHeld ?_
      try simp only [Act.put, List.setIfInBounds_toArray, List.set_cons_zero, List.set_cons_succ]
      refine oneL 16 rfl (by kernel_rfl) rfl (fun K hK => ?_)
      have pcN := cN.put [.slice xa XL.length xc, .slice xd XK.length xe] rfl
      have kz := OrdL.kcells y2 A 0 [.slice xa XL.length xc, .slice xd XK.length xe]
      refine wp_store_mid 26 _ _ rfl A 0 [.slice xa XL.length xc, .slice xd XK.length xe].toArray rfl rfl cN.free (unhide HSS) (by kernel_rfl) ?_
      refine hK.out _ _ (hHeld.then kz (fun y hy => by simp at hy; subst hy; first | (left; simp; done) | (right; omega))) (fun hHeld => ?_)
      clear hK K
      try simp only [Act.put, List.setIfInBounds_toArray, List.set_cons_zero, List.set_cons_succ]
      replace hX := hX.only (OnlyG.kept kz) (fun z hz => by simp at hz; subst hz; omega)
      clear cN kz
      generalize y2.setCells A 0 [.slice xa XL.length xc, .slice xd XK.length xe] = y3 at *
      have cN := pcN
      clear pcN
      refine takeL 17 (.bool true) rfl (by kernel_rfl) (by kernel_rfl) (by kernel_rfl) (fun _ _ _ h => h) (Or.inl ⟨rfl, fun _ _ => rfl⟩) hHeld ?_
      try simp only [Act.put, List.setIfInBounds_toArray, List.set_cons_zero, List.set_cons_succ]
      refine wpAnyH_done (by kernel_rfl) ?_ _
      refine NoPanic.normal ?_
      exact ⟨rfl, xa, xd, xc, xe, A, rfl, hHeld, cN, sat_of hX⟩
  case k =>
    rintro xa xd xc xe A w8 ⟨K, cN, hX⟩
    replace hs := hs.below (Kept.all K (by simp))
    replace bx := bx.below (Kept.all K (by simp))
    replace l := l.below (Kept.all K (by simp))
    replace B := B.trans ((Kept.all K (by simp)).mono B.size)
    clear K y0 y1
    have y0 := bx.c0
    have y1 := bx.c1
    go_wp2_with fail
    refine (unhide HTF _ _ _ hs l).mono ?_
    rintro e x1 ⟨ga, gc, gd, ge, rfl, hF, b⟩
    replace hs := hs.below b
    replace bx := bx.below b
    replace hX := hX.below b
    replace cN := cN.below b (CsAt.lt cN (by simp))
    clear y0 y1
    have y0 := bx.c0
    have y1 := bx.c1
    replace B := B.trans (b.mono B.size)
    clear b l
    have b : Below x1.heap.size x1 (x1.alloc (.cells #[.slice ga XF.length gc, .slice gd FK.length ge] 26)) := (Below.refl _ _).alloc (Nat.le_refl _) _
    have bn := Bx.new x1 (.slice ga XF.length gc) (.slice gd FK.length ge) 26
    replace hs := hs.below b
    replace bx := bx.below b
    replace hX := hX.below b
    replace cN := cN.below b (CsAt.lt cN (by simp))
    replace hF := hF.below b
    clear y0 y1
    have y0 := bx.c0
    have y1 := bx.c1
    replace B := B.trans (b.mono B.size)
    clear b
    have n0 := bn.c0
    go_wp2_with fail
    generalize x1.alloc (.cells #[.slice ga XF.length gc, .slice gd FK.length ge] 26) = x2 at *
    generalize x1.heap.size = nb at *
    refine (unhide HFL _ ga gd gc ge hF).mono ?_
    rintro e x3 ⟨rfl, b⟩
    replace hs := hs.below b
    replace bx := bx.below b
    replace hX := hX.below b
    replace cN := cN.below b (CsAt.lt cN (by simp))
    replace hF := hF.below b
    replace bn := bn.below b
    clear y0 y1
    have y0 := bx.c0
    have y1 := bx.c1
    replace B := B.trans (b.mono B.size)
    clear b n0
    have b : Below x3.heap.size x3 (x3.alloc (.cells #[.int .i64 2, .int .i64 sq, .int .i64 k, .int .i64 v] 35)) := (Below.refl _ _).alloc (Nat.le_refl _) _
    have cR := CsAt.new x3 [.int .i64 2, .int .i64 sq, .int .i64 k, .int .i64 v] 35
    replace hs := hs.below b
    replace bx := bx.below b
    replace hX := hX.below b
    replace cN := cN.below b (CsAt.lt cN (by simp))
    replace hF := hF.below b
    replace bn := bn.below b
    clear y0 y1
    have y0 := bx.c0
    have y1 := bx.c1
    replace B := B.trans (b.mono B.size)
    clear b
    go_upto_region 14 with fail
    generalize x3.alloc (.cells #[.int .i64 2, .int .i64 sq, .int .i64 k, .int .i64 v] 35) = x4 at *
    generalize x3.heap.size = rb at *
    have cr0 := cR.cell 0 _ rfl
    refine wp_region_noPanic ?_
    refine wp_region_held_drew (S := fun w' => Kept [] x4 w') (by kernel_rfl) (Kept.refl _ _).drew (fun hHeld => ?_)
    generalize x4.drew = y0 at *
    have z0 := hHeld.size
    refine takeL 0 (.bool false) rfl (by kernel_rfl) (by kernel_rfl) (by kernel_rfl) (fun _ _ _ h => h) (Or.inl ⟨rfl, fun _ _ => rfl⟩) hHeld ?_
    try simp only [Act.put, List.setIfInBounds_toArray, List.set_cons_zero, List.set_cons_succ]
    refine takeL 1 (.bool true) rfl (by kernel_rfl) (by kernel_rfl) (by kernel_rfl) (fun _ _ _ h => h) (Or.inl ⟨rfl, fun w9 hSw => by go_simp⟩) hHeld ?_
    try simp only [Act.put, List.setIfInBounds_toArray, List.set_cons_zero, List.set_cons_succ]
    refine takeL 2 (.bool true) rfl (by kernel_rfl) (by kernel_rfl) (by kernel_rfl) (fun _ _ _ h => h) (Or.inl ⟨rfl, fun _ _ => rfl⟩) hHeld ?_
    try simp only [Act.put, List.setIfInBounds_toArray, List.set_cons_zero, List.set_cons_succ]
    refine takeL 3 (.bool true) rfl (by kernel_rfl) (by kernel_rfl) (by kernel_rfl) (fun _ _ _ h => h) (Or.inl ⟨rfl, fun _ _ => rfl⟩) hHeld ?_
    try simp only [Act.put, List.setIfInBounds_toArray, List.set_cons_zero, List.set_cons_succ]
    refine takeL 4 (.bool true) rfl (by kernel_rfl) (by kernel_rfl) (by kernel_rfl) (fun _ _ _ h => h) (Or.inl ⟨rfl, fun w9 hSw => by go_simp⟩) hHeld ?_
    try simp only [Act.put, List.setIfInBounds_toArray, List.set_cons_zero, List.set_cons_succ]
    refine takeL 5 (.bool true) rfl (by kernel_rfl) (by kernel_rfl) (by kernel_rfl) (fun _ _ _ h => h) (Or.inl ⟨rfl, fun _ _ => rfl⟩) hHeld ?_
    try simp only [Act.put, List.setIfInBounds_toArray, List.set_cons_zero, List.set_cons_succ]
    refine takeL 6 (.bool true) rfl (by kernel_rfl) (by kernel_rfl) (by kernel_rfl) (fun _ _ _ h => h) (Or.inl ⟨rfl, fun _ _ => rfl⟩) hHeld ?_
    try simp only [Act.put, List.setIfInBounds_toArray, List.set_cons_zero, List.set_cons_succ]
    refine takeL 7 (.bool true) rfl (by kernel_rfl) (by kernel_rfl) (by kernel_rfl) (fun _ _ _ h => h) (Or.inl ⟨rfl, fun w9 hSw => by go_simp⟩) hHeld ?_
    try simp only [Act.put, List.setIfInBounds_toArray, List.set_cons_zero, List.set_cons_succ]
    refine takeL 8 (.bool true) rfl (by kernel_rfl) (by kernel_rfl) (by kernel_rfl) (fun _ _ _ h => h) (Or.inl ⟨rfl, fun _ _ => rfl⟩) hHeld ?_
    try simp only [Act.put, List.setIfInBounds_toArray, List.set_cons_zero, List.set_cons_succ]
    refine takeL 9 (.agg #[.slice xa XL.length xc, .slice xd XK.length xe]) rfl (by kernel_rfl) (by kernel_rfl) (by kernel_rfl) (fun _ _ _ h => h) (yieldsIf_load_mid rfl 26 _ rfl A 0 rfl [.slice xa XL.length xc, .slice xd XK.length xe] _ (fun _ h => (CsAt.below cN (Kept.all h (by simp)) (CsAt.lt cN (by simp))).cells) Tryz.underlying26 rfl (unhide HSS)) hHeld ?_
    try simp only [Act.put, List.setIfInBounds_toArray, List.set_cons_zero, List.set_cons_succ]
    refine takeL 11 (.agg #[.slice fa bs.length c, .slice da dk.length dc]) rfl (by kernel_rfl) (by kernel_rfl) (by kernel_rfl) (fun _ _ _ h => h) (yieldsIf_load_mid rfl 26 _ rfl sb 0 rfl [.slice fa bs.length c, .slice da dk.length dc] _ (fun _ h => rng2 (bx.below (Kept.all h (by simp)))) Tryz.underlying26 rfl (unhide HSS)) hHeld ?_
    try simp only [Act.put, List.setIfInBounds_toArray, List.set_cons_zero, List.set_cons_succ]
    refine oneL 10 rfl (by kernel_rfl) rfl (fun K hK => ?_)
    go_simp
    refine (unhide HXA _ _ _ _ _ (hX.below (Kept.all hHeld (by simp)))).mono ?_
    rintro e y1 ⟨zaa, zac, rfl, hza, b⟩
    go_wp2_with fail
    refine hK.out _ _ (hHeld.trans (Kept.of b)) (fun hHeld => ?_)
    clear hK K
    try simp only [Act.put, List.setIfInBounds_toArray, List.set_cons_zero, List.set_cons_succ]
    have z1 := b.size
    clear b
    refine oneL 12 rfl (by kernel_rfl) rfl (fun K hK => ?_)
    go_simp
    refine (unhide HIA _ (hs.below (Kept.all hHeld (by simp)))).mono ?_
    rintro e y2 ⟨yaa, yac, rfl, hya, b⟩
    go_wp2_with fail
    replace hza := hza.below b
    refine hK.out _ _ (hHeld.trans (Kept.of b)) (fun hHeld => ?_)
    clear hK K
    try simp only [Act.put, List.setIfInBounds_toArray, List.set_cons_zero, List.set_cons_succ]
    have z2 := b.size
    clear b
    refine oneL 13 rfl (by kernel_rfl) rfl (fun K hK => ?_)
    go_simp
    refine (unhide HQ _ _ _ _ _ hza hya).mono ?_
    rintro e y3 ⟨rfl, b⟩
    go_wp2_with fail
    replace hza := hza.below b
    replace hya := hya.below b
    refine hK.out _ _ (hHeld.trans (Kept.of b)) (fun hHeld => ?_)
    clear hK K
    try simp only [Act.put, List.setIfInBounds_toArray, List.set_cons_zero, List.set_cons_succ]
    have z3 := b.size
    clear b
    refine takeL 14 (.bool true) rfl (by kernel_rfl) (by kernel_rfl) (by kernel_rfl) (fun _ _ _ h => h) (Or.inl ⟨rfl, fun w9 hSw => by go_simp⟩) hHeld ?_
    try simp only [Act.put, List.setIfInBounds_toArray, List.set_cons_zero, List.set_cons_succ]
    refine takeL 15 (.bool true) rfl (by kernel_rfl) (by kernel_rfl) (by kernel_rfl) (fun _ _ _ h => h) (Or.inl ⟨rfl, fun _ _ => rfl⟩) hHeld ?_
    try simp only [Act.put, List.setIfInBounds_toArray, List.set_cons_zero, List.set_cons_succ]
    refine takeL 16 (.agg #[.slice xa XL.length xc, .slice xd XK.length xe]) rfl (by kernel_rfl) (by kernel_rfl) (by kernel_rfl) (fun _ _ _ h => h) (yieldsIf_load_mid rfl 26 _ rfl A 0 rfl [.slice xa XL.length xc, .slice xd XK.length xe] _ (fun _ h => (CsAt.below cN (Kept.all h (by simp)) (CsAt.lt cN (by simp))).cells) Tryz.underlying26 rfl (unhide HSS)) hHeld ?_
    try simp only [Act.put, List.setIfInBounds_toArray, List.set_cons_zero, List.set_cons_succ]
    refine oneL 17 rfl (by kernel_rfl) rfl (fun K hK => ?_)
    go_simp
    refine (unhide HXO _ _ _ _ _ (hX.below (Kept.all hHeld (by simp)))).mono ?_
    rintro e y4 ⟨rfl, b⟩
    go_wp2_with fail
    replace hza := hza.below b
    replace hya := hya.below b
    refine hK.out _ _ (hHeld.trans (Kept.of b)) (fun hHeld => ?_)
    clear hK K
    try simp only [Act.put, List.setIfInBounds_toArray, List.set_cons_zero, List.set_cons_succ]
    have z4 := b.size
    clear b
    refine takeL 18 (.bool true) rfl (by kernel_rfl) (by kernel_rfl) (by kernel_rfl) (fun _ _ _ h => h) (Or.inl ⟨rfl, fun w9 hSw => by go_simp⟩) hHeld ?_
    try simp only [Act.put, List.setIfInBounds_toArray, List.set_cons_zero, List.set_cons_succ]
    refine takeL 19 (.bool true) rfl (by kernel_rfl) (by kernel_rfl) (by kernel_rfl) (fun _ _ _ h => h) (Or.inl ⟨rfl, fun _ _ => rfl⟩) hHeld ?_
    try simp only [Act.put, List.setIfInBounds_toArray, List.set_cons_zero, List.set_cons_succ]
    refine takeL 20 (.bool true) rfl (by kernel_rfl) (by kernel_rfl) (by kernel_rfl) (fun _ _ _ h => h) (Or.inl ⟨rfl, fun _ _ => rfl⟩) hHeld ?_
    try simp only [Act.put, List.setIfInBounds_toArray, List.set_cons_zero, List.set_cons_succ]
    refine takeL 21 (.bool true) rfl (by kernel_rfl) (by kernel_rfl) (by kernel_rfl) (fun _ _ _ h => h) (Or.inl ⟨rfl, fun w9 hSw => by go_simp⟩) hHeld ?_
    try simp only [Act.put, List.setIfInBounds_toArray, List.set_cons_zero, List.set_cons_succ]
    refine takeL 22 (.bool true) rfl (by kernel_rfl) (by kernel_rfl) (by kernel_rfl) (fun _ _ _ h => h) (Or.inl ⟨rfl, fun _ _ => rfl⟩) hHeld ?_
    try simp only [Act.put, List.setIfInBounds_toArray, List.set_cons_zero, List.set_cons_succ]
    refine takeL 23 (.pointer (some ⟨rb, 0, none⟩)) rfl (by kernel_rfl) (by kernel_rfl) (by kernel_rfl) (fun _ _ _ h => h) (Or.inl ⟨rfl, fun w9 hSw => by go_simp⟩) hHeld ?_
    try simp only [Act.put, List.setIfInBounds_toArray, List.set_cons_zero, List.set_cons_succ]
    refine takeL 24 (.int .i64 2) rfl (by kernel_rfl) (by kernel_rfl) (by kernel_rfl) (fun _ _ _ h => h) (Or.inl ⟨rfl, fun w9 hSw => by have hc := (hSw.cell (b := rb) 0 (CsAt.lt cR (by simp)) (by simp)).trans cr0; go_simp⟩) hHeld ?_
    try simp only [Act.put, List.setIfInBounds_toArray, List.set_cons_zero, List.set_cons_succ]
    refine takeL 25 (.bool true) rfl (by kernel_rfl) (by kernel_rfl) (by kernel_rfl) (fun _ _ _ h => h) (Or.inl ⟨rfl, fun w9 hSw => by go_simp⟩) hHeld ?_
    try simp only [Act.put, List.setIfInBounds_toArray, List.set_cons_zero, List.set_cons_succ]
    refine takeL 26 (.bool true) rfl (by kernel_rfl) (by kernel_rfl) (by kernel_rfl) (fun _ _ _ h => h) (Or.inl ⟨rfl, fun w9 hSw => by go_simp⟩) hHeld ?_
    try simp only [Act.put, List.setIfInBounds_toArray, List.set_cons_zero, List.set_cons_succ]
    refine takeL 27 (.bool true) rfl (by kernel_rfl) (by kernel_rfl) (by kernel_rfl) (fun _ _ _ h => h) (Or.inl ⟨rfl, fun _ _ => rfl⟩) hHeld ?_
    try simp only [Act.put, List.setIfInBounds_toArray, List.set_cons_zero, List.set_cons_succ]
    refine takeL 28 (.agg #[.slice ga XF.length gc, .slice gd FK.length ge]) rfl (by kernel_rfl) (by kernel_rfl) (by kernel_rfl) (fun _ _ _ h => h) (yieldsIf_load_mid rfl 26 _ rfl nb 0 rfl [.slice ga XF.length gc, .slice gd FK.length ge] _ (fun _ h => rng2 (bn.below (Kept.all h (by simp)))) Tryz.underlying26 rfl (unhide HSS)) hHeld ?_
    try simp only [Act.put, List.setIfInBounds_toArray, List.set_cons_zero, List.set_cons_succ]
    refine takeL 30 (.agg #[.slice fa bs.length c, .slice da dk.length dc]) rfl (by kernel_rfl) (by kernel_rfl) (by kernel_rfl) (fun _ _ _ h => h) (yieldsIf_load_mid rfl 26 _ rfl sb 0 rfl [.slice fa bs.length c, .slice da dk.length dc] _ (fun _ h => rng2 (bx.below (Kept.all h (by simp)))) Tryz.underlying26 rfl (unhide HSS)) hHeld ?_
    try simp only [Act.put, List.setIfInBounds_toArray, List.set_cons_zero, List.set_cons_succ]
    refine oneL 29 rfl (by kernel_rfl) rfl (fun K hK => ?_)
    go_simp
    refine (unhide HFA _ _ _ _ _ (hF.below (Kept.all hHeld (by simp)))).mono ?_
    rintro e y5 ⟨zba, zbc, rfl, hzb, b⟩
    go_wp2_with fail
    replace hza := hza.below b
    replace hya := hya.below b
    refine hK.out _ _ (hHeld.trans (Kept.of b)) (fun hHeld => ?_)
    clear hK K
    try simp only [Act.put, List.setIfInBounds_toArray, List.set_cons_zero, List.set_cons_succ]
    have z5 := b.size
    clear b
    refine oneL 31 rfl (by kernel_rfl) rfl (fun K hK => ?_)
    go_simp
    refine (unhide HIA _ (hs.below (Kept.all hHeld (by simp)))).mono ?_
    rintro e y6 ⟨yba, ybc, rfl, hyb, b⟩
    go_wp2_with fail
    replace hza := hza.below b
    replace hya := hya.below b
    replace hzb := hzb.below b
    refine hK.out _ _ (hHeld.trans (Kept.of b)) (fun hHeld => ?_)
    clear hK K
    try simp only [Act.put, List.setIfInBounds_toArray, List.set_cons_zero, List.set_cons_succ]
    have z6 := b.size
    clear b
    refine oneL 32 rfl (by kernel_rfl) rfl (fun K hK => ?_)
    go_simp
    refine (unhide HQ _ _ _ _ _ hzb hyb).mono ?_
    rintro e y7 ⟨rfl, b⟩
    go_wp2_with fail
    replace hza := hza.below b
    replace hya := hya.below b
    replace hzb := hzb.below b
    replace hyb := hyb.below b
    refine hK.out _ _ (hHeld.trans (Kept.of b)) (fun hHeld => ?_)
    clear hK K
    try simp only [Act.put, List.setIfInBounds_toArray, List.set_cons_zero, List.set_cons_succ]
    have z7 := b.size
    clear b
    refine takeL 33 (.bool true) rfl (by kernel_rfl) (by kernel_rfl) (by kernel_rfl) (fun _ _ _ h => h) (Or.inl ⟨rfl, fun w9 hSw => by go_simp⟩) hHeld ?_
    try simp only [Act.put, List.setIfInBounds_toArray, List.set_cons_zero, List.set_cons_succ]
    refine takeL 34 (.bool true) rfl (by kernel_rfl) (by kernel_rfl) (by kernel_rfl) (fun _ _ _ h => h) (Or.inl ⟨rfl, fun _ _ => rfl⟩) hHeld ?_
    try simp only [Act.put, List.setIfInBounds_toArray, List.set_cons_zero, List.set_cons_succ]
    refine wpAnyH_done (by kernel_rfl) ?_ _
    refine NoPanic.normal ?_
    have B2 := B.trans ((Kept.all hHeld (by simp)).mono B.size)
    clear hHeld
    go_wp2
    go_ret
    exact ⟨rfl, B2⟩
    


set_option maxRecDepth 100000 in
theorem lifted (os : Os) (started : os.Started) (H : Type) (enc : TypeId × Value → H) :
    ReturnsInHanded {} Tryz.checked os 7 .any (Rows.fnFillSpec.pre6 enc Tryz.prog Tryz.f7 Rows.fnFillRow.domain false) (Rows.fnFillSpec.post enc Tryz.prog Tryz.f7 false true false false) := by
  refine returnsInHanded_of_change (C := Tryz.checked) own started (by kernel_rfl) Tryz.func7
    (ChangeSpec.witness6 (enc := enc) (C := Tryz.checked) false ⟨#[], #[.slice none 0 0, .slice none 0 0], []⟩ 8 (by kernel_rfl) (by kernel_rfl) (by kernel_rfl) (by kernel_rfl)) ?_
  intro W base args ds gs before hval0 hW hcnd _
  have hval : ∀ (j : Nat) t v, Tryz.f7.params[j]? = some t → args[j]? = some v → Value.okWide Tryz.prog W .any base t v := hval0
  have hW' := hW
  obtain ⟨p, q, hA0, hV, rfl, hfz, hnd⟩ := hW
  have hA : DataW.TrodAll enc Tryz.prog W 0 (fun _ => true) true Tryz.f7.params.toList args.toList ds p := hA0
  rw [Tryz.params7] at hA hval
  obtain ⟨v0, vs0, d0, ds0, p0, q0, hargs, rfl, rfl, h0, r0⟩ := trodAll_cons hA
  obtain ⟨v1, vs1, d1, ds1, p1, q1, rfl, rfl, rfl, h1, r1⟩ := trodAll_cons r0
  obtain ⟨rfl, rfl, rfl⟩ := trodAll_nil r1
  obtain rfl : args = #[v0, v1] := by cases args; simp_all
  obtain ⟨rfl, rfl⟩ := trodVars_none hV
  have kk0 := h0
  have lt0 : ∀ x ∈ p0, x.block < W.heap.size := by obtain ⟨m, hm⟩ := kk0; exact DataW.trod_lt m _ _ _ hm
  obtain ⟨a0, len0, cap0, rfl⟩ := okWide_slice Tryz.underlying22 (hval 0 22 v0 rfl rfl)
  obtain ⟨z0, w0⟩ : ∃ zs, IsRow .u8 W a0 len0 cap0 zs := by
    obtain ⟨fuel, hf⟩ := h0
    rcases open_ints Tryz.underlying22 Tryz.underlying5 (by kernel_rfl) hf with ⟨hcs, _⟩ | ⟨x, l, c, zs, hcs, _, hl, hm, hz, _, hcell, hwz⟩
    · simp [Value.cells] at hcs
      obtain ⟨rfl, rfl, rfl⟩ := hcs
      exact ⟨[], .inl ⟨rfl, rfl, rfl, rfl⟩⟩
    · simp [Value.cells] at hcs
      obtain ⟨rfl, rfl, rfl⟩ := hcs
      exact ⟨zs, .inr ⟨_, rfl, hl, hm, by simpa using hz, hcell, hwz⟩⟩
  have kk1 := h1
  have lt1 : ∀ x ∈ p1, x.block < W.heap.size := by obtain ⟨m, hm⟩ := kk1; exact DataW.trod_lt m _ _ _ hm
  obtain ⟨a1, len1, cap1, rfl⟩ := okWide_slice Tryz.underlying22 (hval 1 22 v1 rfl rfl)
  obtain ⟨z1, w1⟩ : ∃ zs, IsRow .u8 W a1 len1 cap1 zs := by
    obtain ⟨fuel, hf⟩ := h1
    rcases open_ints Tryz.underlying22 Tryz.underlying5 (by kernel_rfl) hf with ⟨hcs, _⟩ | ⟨x, l, c, zs, hcs, _, hl, hm, hz, _, hcell, hwz⟩
    · simp [Value.cells] at hcs
      obtain ⟨rfl, rfl, rfl⟩ := hcs
      exact ⟨[], .inl ⟨rfl, rfl, rfl, rfl⟩⟩
    · simp [Value.cells] at hcs
      obtain ⟨rfl, rfl, rfl⟩ := hcs
      exact ⟨zs, .inr ⟨_, rfl, hl, hm, by simpa using hz, hcell, hwz⟩⟩
  clear hA0
  refine (walk a0 len0 cap0 z0 a1 len1 cap1 z1 W w0 w1).mono fun e W' ⟨he, bel⟩ => ?_
  subst he
  exact ⟨_, rfl, _, _, _, [], _, [], hW', trodAll_mk1 (shut_bool Tryz.underlying4 _), (trodAll_cons_mk (Below.trod laidOut (by kernel_rfl) (of_decide_eq_true (by kernel_rfl)) kk0 bel lt0) (trodAll_cons_mk (Below.trod laidOut (by kernel_rfl) (of_decide_eq_true (by kernel_rfl)) kk1 bel lt1) trodAll_mk0)), rfl, bel.frame _, fun h => by cases h⟩

set_option maxRecDepth 100000 in
set_option maxHeartbeats 8000000 in
theorem facts : joinedFacts Tryz.prog 7 Tryz.f7 Rows.fnFillSpec Rows.fnFillRow = true := by
  unfold joinedFacts
  refine Facts.and_t ?_ (by as_aux_lemma => kernel_rfl)
  refine Facts.and_t ?_ (by as_aux_lemma => kernel_rfl)
  refine Facts.and_t ?_ (by as_aux_lemma => kernel_rfl)
  refine Facts.and_t ?_ (by as_aux_lemma => kernel_rfl)
  refine Facts.and_t ?_ (by show (Tryz.prog.make == some Make.cut) = true; rw [Facts.made]; rfl)
  refine Facts.and_t ?_ (by show (false == Tryz.prog.liftsFinal) = true; rw [Facts.lifts]; rfl)
  refine Facts.and_t ?_ (Facts.enters)
  refine Facts.and_t ?_ (Facts.heard)
  refine Facts.and_t ?_ (rfl)
  refine Facts.and_t ?_ (by show (true == Tryz.prog.plainKeys) = true; rw [Facts.keys]; rfl)
  refine Facts.and_t ?_ (by as_aux_lemma => kernel_rfl)
  refine Facts.and_t ?_ (by as_aux_lemma => kernel_rfl)
  refine Facts.and_t ?_ (by as_aux_lemma => kernel_rfl)
  refine Facts.and_t ?_ (by as_aux_lemma => kernel_rfl)
  refine Facts.and_t ?_ (by as_aux_lemma => kernel_rfl)
  refine Facts.and_t ?_ (by as_aux_lemma => kernel_rfl)
  refine Facts.and_t ?_ (by as_aux_lemma => kernel_rfl)
  refine Facts.and_t ?_ (by as_aux_lemma => kernel_rfl)
  refine Facts.and_t ?_ (by as_aux_lemma => kernel_rfl)
  refine Facts.and_t ?_ (by as_aux_lemma => kernel_rfl)
  refine Facts.and_t ?_ (by as_aux_lemma => kernel_rfl)
  refine Facts.and_t ?_ (by as_aux_lemma => kernel_rfl)
  refine Facts.and_t ?_ (by as_aux_lemma => kernel_rfl)
  refine Facts.and_t ?_ (by as_aux_lemma => kernel_rfl)
  refine Facts.and_t ?_ (by as_aux_lemma => kernel_rfl)
  refine Facts.and_t ?_ (by as_aux_lemma => kernel_rfl)
  refine Facts.and_t ?_ (by as_aux_lemma => kernel_rfl)
  refine Facts.and_t ?_ (by as_aux_lemma => kernel_rfl)
  refine Facts.and_t ?_ (by as_aux_lemma => kernel_rfl)
  refine Facts.and_t ?_ (Facts.rowed)
  refine Facts.and_t ?_ (Facts.laidOut)
  kernel_rfl

theorem over : Rows.fnFillRow.holds Tryz.pinned (OpenSpec.ofChange Rows.fnFillSpec) :=
  OpenClaim.holds_of_wide_leaving 7 Tryz.f7 rfl rfl rfl rfl rfl rfl rfl ⟨rfl, rfl, rfl, rfl, rfl⟩ rfl rfl rfl rfl rfl (by kernel_rfl) Tryz.func7 facts
    (of_decide_eq_true (by kernel_rfl)) (by unfold Func.isWrapper; first | (rw [if_pos (by decide +kernel)]; kernel_rfl) | (rw [if_neg (by decide +kernel)]; exact ⟨rfl, rfl⟩))
    (fun os started H enc _ => Lv.leave_of (lifted os started H enc))

end Go.Proofs.YtogfelpdgeionaaGreat.Fill
namespace Go.Proofs.YtogfelpdgeionaaGreat
theorem fnFill_holds : Rows.FnFillSaid := Fill.over
end Go.Proofs.YtogfelpdgeionaaGreat
