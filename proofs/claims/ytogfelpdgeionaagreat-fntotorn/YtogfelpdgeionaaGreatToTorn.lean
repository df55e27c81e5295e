/-
  The first step torn: told, nothing is changed; else one page is torn or one block wiped, and no value changes: so it is in a drawn store. The given statement, with no condition.
-/
import Derived.Test.YtogfelpdgeionaaGreatHbY
import Derived.Test.YtogfelpdgeionaaGreatHbR
import Derived.Test.YtogfelpdgeionaaGreatHaT
import Derived.Test.YtogfelpdgeionaaGreatHbZ
import Derived.Test.YtogfelpdgeionaaGreatLqF
import Derived.Test.YtogfelpdgeionaaGreatFacts
import Derived.Lib.SmallJoins
namespace Go.Proofs.YtogfelpdgeionaaGreat.ToTorn
open Go.ChangeShapes Go.WideShapes Go.ChangeAt Go.RowKit Go.Shelf Go.Joins OkA Big Fl ImplB ImplF ImplS ImplT ImplU SpecA SpecB SpecC SpecD SpecW SpecX SpecF SpecG SpecH FindP FindN FindO FindD ImplW ImplX Pick Draw ClA DrB PlB Pl FindL StA StB StC StD StE StF StG SpS SpT DrS Sv LqI Pw DrF RmA WrA FlA PlA SpU ToA DoA QuE LawT MkN Ct Cu Ps Py Pz LqF Px NwA LqI Sn9 ImplL Kp DoA
open FlB (FsN)
open StN (SN)
open Facts (own laidOut)
set_option linter.unusedVariables false
set_option linter.unusedSimpArgs false
attribute [local go_sem ↓] Go.wp_at_zero Go.wp_at_succ

theorem doF_1 (bs : List Bk) (x : Stp) (torn : Bool) (h : x.kind = 1) : doF bs x torn = bs := by unfold doF; rw [if_neg (by omega), if_neg (by omega)]
theorem wi_ne {bs : List Bk} {kb : Nat} (hk : kb < bs.length) (t : Bool) : wiL bs kb t ≠ bs := fun e => by
  have := congrArg (fun b : List Bk => (b.getD kb zBk).wn) e
  simp only [wiL] at this
  rw [List.getD_eq_getElem?_getD, List.getElem?_set_self hk] at this
  simp [wiB] at this
  omega
theorem set_ne (P : List Pg) (h : usedN P < P.length) (p : Pg) (hp : clB p = false) : P.set (usedN P) p ≠ P := fun e => by
  have hc := Ok2.used_clean P h
  have h2 := congrArg (fun Q : List Pg => Q[usedN P]?) e
  simp only [List.getElem?_set_self h, List.getElem?_eq_getElem h] at h2
  injection h2 with h2
  rw [← h2, hp] at hc
  cases hc
theorem wr_ne {bs : List Bk} {kb : Nat} (hk : kb < bs.length) (h4 : (bs.getD kb zBk).ps.length = 4) (hu : usedN (bs.getD kb zBk).ps < 4) (rk rs ra rv : Int) : wrL bs kb (pgW true rk rs ra rv) ≠ bs := fun e => by
  have h1 := congrArg (fun b : List Bk => (b.getD kb zBk).ps) e
  simp only [wrL] at h1
  rw [List.getD_eq_getElem?_getD, List.getElem?_set_self hk] at h1
  simp only [Option.getD_some] at h1
  exact set_ne _ (by omega) _ (Ok2.pgW_st true rk rs ra rv) h1
/-- The first step, torn. -/
theorem torn_first {bs : List Bk} {dk : List Int} {L T : List Stp} {wp : Bool} {kb : Nat} {rk ra rv : Int} (P : Pn bs dk L T wp kb rk ra rv) (hL : L ≠ []) : toK dk L 0 true = dk ∧ (((L.getD 0 zSt).kind = 1 ∧ toB bs L 0 true = bs) ∨ ((L.getD 0 zSt).kind ≠ 1 ∧ toB bs L 0 true ≠ bs)) := by
  have hlen : 0 < L.length := List.length_pos_iff.2 hL
  have hf : fell L 0 true = true := by simp [fell, inB]; omega
  have hok := (st_parts P.st).1
  have hkl : kb < bs.length := by have := ok_len hok; have := P.kb4; omega
  have eB : toB bs L 0 true = doF bs (L.getD 0 zSt) true := by unfold toB; rw [if_pos hf]; rfl
  have eK : toK dk L 0 true = dk := by unfold toK; rw [if_pos hf]; exact doD_torn _ _
  refine ⟨eK, ?_⟩
  rw [eB]
  have he := P.eq
  cases hT : T with
  | cons x T' =>
    have hx : L.getD 0 zSt = x := by rw [he, hT]; rfl
    have hk := P.tl.kind x (by rw [hT]; simp)
    rw [hx]
    exact .inl ⟨hk, doF_1 _ _ _ hk⟩
  | nil =>
    right
    cases hw : wp
    · subst hw
      have hx : L.getD 0 zSt = writeS (kb : Int) ⟨rk, mostB bs + 1, ra, rv⟩ := by rw [he, hT]; rfl
      rw [hx]
      refine ⟨by show ¬ ((3 : Int) = 1); omega, ?_⟩
      have hF := P.wrF true
      have hW := P.wr
      rw [show wpF bs false kb = bs from rfl] at hF hW
      rw [hF]
      have hg : (bs.getD kb zBk).ps.length = 4 := by rw [Ok2.getD_in bs kb hkl]; exact ok_fours hok _ (List.getElem_mem hkl)
      have hu := (Ok2.wrN_no hW.yes.2).1
      exact wr_ne hkl hg (by have := usedN_le (bs.getD kb zBk).ps; omega) _ _ _ _
    · subst hw
      have hx : L.getD 0 zSt = wipeS (kb : Int) := by rw [he, hT]; rfl
      rw [hx, P.wiF true]
      exact ⟨by show ¬ ((2 : Int) = 1); omega, wi_ne hkl true⟩

set_option maxRecDepth 100000 in
set_option maxHeartbeats 8000000 in
theorem walk (a0 : Option Addr) (len0 cap0 : Nat) (z0 : List Int) (w : World) (h0 : IsRow .u8 w a0 len0 cap0 z0) :
    Calls Tryz.prog 11 #[.slice a0 len0 cap0] w fun e w' => e = .returned (.bool true) ∧ Below w.heap.size w w' := by
  have HD := hide (drawPut_any w a0 len0 cap0 z0 h0)
  clear h0
  go_enter Tryz.func11, Tryz.ntmps11
  by_cases hbig0 : 1048576 < (len0 : Int)
  · go_wp2
    go_ret
    exact ⟨rfl, Below.refl _ _⟩
  go_wp2_with fail
  refine (unhide HD).mono ?_
  rintro e w1 ⟨g, o, c, bs, d, z, dc, dk, k, v, rfl, S1, k0, k1, v0, v1, B⟩
  have h4 := S1.fs.four
  have h6 := S1.six
  have hp4 := hide S1.fs.pgs
  have hs := S1.at
  clear HD S1
  generalize (some ⟨g, o, none⟩ : Option Addr) = fa at *
  generalize (some ⟨d, z, none⟩ : Option Addr) = da at *
  have bA : Below w1.heap.size w1 (w1.alloc (.cells #[.slice fa bs.length c, .slice da dk.length dc] 26)) := (Below.refl _ _).alloc (Nat.le_refl _) _
  have bx := Bx.new w1 (.slice fa bs.length c) (.slice da dk.length dc) 26
  replace hs := hs.below bA
  replace B := B.trans (bA.mono B.size)
  clear bA
  have y0 := bx.c0
  have y1 := bx.c1
  have HIP := hide (fun (w' : World) (h : SAt w' fa bs da dk) => iPut k v (fc := c) (dc := dc)  w' h h4 h6)
  have HSP := hide (fun (w' : World) (h : SAt w' fa bs da dk) => sPut k v (fc := c) (dc := dc)  w' h h4 h6 (unhide hp4))
  have HSO := hide (fun (w' : World) (h : SAt w' fa bs da dk) => sOk (fc := c) (dc := dc)  w' h h4 h6 (unhide hp4))
  have HSS := hide (show (Tryz.prog.info? 26).map (·.size) = some 2 by kernel_rfl)
  have HPE := hide (fun (hne : putS bs dk k v ≠ []) => put_e hne)
  have HPP := hide (fun (hne : putS bs dk k v ≠ []) => by obtain ⟨T, wp, kb, P⟩ := put_plan hne; exact torn_first P hne)
  have HL6 := hide (put_len (bs := bs) (dk := dk) k v)
  have HSM := hide (fun (h : PutE bs dk k v) => h.part)
  have HTK := hide (fun (h : PutE bs dk k v) => h.tk)
  have HTO := hide (fun (ct : Int) (tt : Bool) (h0 : 0 ≤ ct) (h1 : ct ≤ 1048576) (hok : toOk bs dk (putS bs dk k v) ct = true) (w' : World) (sa : Option Addr) (sc : Nat) (h : SAt w' fa bs da dk) (hl : StAt w' sa (putS bs dk k v)) => iTo (fc := c) (dc := dc) (sc := sc) ct tt w' h h4 h6 hl (by have := unhide HL6; omega) h0 h1 hok)
  have HIA := hide (fun (w' : World) (h : SAt w' fa bs da dk) => iAll2 (fc := c) (dc := dc) w' h h4 h6)
  generalize putS bs dk k v = L at *
  go_wp2_with fail
  generalize w1.alloc (.cells #[.slice fa bs.length c, .slice da dk.length dc] 26) = w2 at *
  generalize w1.heap.size = sb at *
  refine (unhide HIP _ hs).mono ?_
  rintro e u1 ⟨la, lc, rfl, l, b⟩
  replace hs := hs.below b
  replace bx := bx.below b
  clear y0 y1
  have y0 := bx.c0
  have y1 := bx.c1
  replace B := B.trans (b.mono B.size)
  clear b
  go_wp2_with fail
  refine (unhide HSP _ hs).mono ?_
  rintro e u2 ⟨ma, mc, rfl, m, b⟩
  replace hs := hs.below b
  replace l := l.below b
  replace bx := bx.below b
  clear y0 y1
  have y0 := bx.c0
  have y1 := bx.c1
  replace B := B.trans (b.mono B.size)
  clear b
  clear m
  by_cases hL0 : L.length = 0
  · have hLi : (L.length : Int) = 0 := by omega
    go_wp2_with fail
    refine (unhide HSP _ hs).mono ?_
    rintro e u3 ⟨ma, mc, rfl, m, b⟩
    replace hs := hs.below b
    replace l := l.below b
    replace bx := bx.below b
    clear y0 y1
    have y0 := bx.c0
    have y1 := bx.c1
    replace B := B.trans (b.mono B.size)
    clear b
    go_wp2
    go_ret
    exact ⟨rfl, B⟩
  have hL6 := unhide HL6
  have hLn : ((L.length : Int) = 0) = False := eq_false (by omega)
  have hne : L ≠ [] := fun q => hL0 (by rw [q]; rfl)
  have hPE := unhide HPE hne
  have hS0 := hPE.hs
  have hSM := unhide HSM hPE 0 true (by omega) (by omega)
  have HTO2 := hide (unhide HTO 0 true (by omega) (by omega) (unhide HTK hPE 0 (by omega)))
  obtain ⟨hK, hB⟩ := unhide HPP hne
  have HK0 : Hid (∀ (w' : World), StAt w' la L → ∃ g, la = some ⟨g, 0, none⟩ ∧ w'.cell? ⟨g, 0, none⟩ = some (.int .i64 (L.getD 0 zSt).kind)) := fun w' q => by
    rcases q with q | ⟨g, rfl, hg, hr⟩
    · exact absurd q hne
    · refine ⟨g, rfl, ?_⟩
      have := stp_at hr 0 (by omega) 0 (.int .i64 (L[0]'(by omega)).kind) rfl
      rw [List.getD_eq_getElem?_getD, List.getElem?_eq_getElem (by omega)]
      simpa using this
  clear HTO HSM HTK HPE hPE HPP
  have HTO := HTO2
  clear HTO2 HSP HIP HSO
  rw [hK] at HTO hSM
  clear hK
  generalize toB bs L 0 true = XL at *
  generalize (L.getD 0 zSt).kind = kd at *
  have hXl : XL.length ≤ 4 := by have := ok_len (st_parts hSM.1).1; omega
  have hXk : dk.length ≤ 6 := by omega
  have hX4 : ∀ b ∈ XL, b.ps.length = 4 := fun b hb => ok_fours (st_parts hSM.1).1 b hb
  have HLQ := hide (fun (w' : World) (xa xd : Option Addr) (xc xe : Nat) (h : SAt w' xa XL xd dk) (h' : SAt w' fa bs da dk) => lqStore_any xa fa xd da xc c xe dc XL bs dk dk w' h.fs h'.fs h.ds h'.ds (by omega) (by omega) (fun b hb => by have := hX4 b hb; omega) (fun b hb => by have := unhide hp4 b hb; omega) (by omega) (by omega))
  have HXA := hide (fun (w' : World) (xa xd : Option Addr) (xc xe : Nat) (h : SAt w' xa XL xd dk) => iAll2 (fc := xc) (dc := xe) w' h hXl hXk)
  rw [hSM.al hS0] at HXA
  have HQ := hide (fun (a1 a2 : Option Addr) (c1 c2 : Nat) (w' : World) (h1 : DkAt w' a1 (alS bs dk)) (h2 : DkAt w' a2 (alS bs dk)) => lqSame a1 a2 c1 c2 (alS bs dk) w' h1 h2 al_le)
  have HQD := hide (fun (a1 a2 : Option Addr) (c1 c2 : Nat) (w' : World) (h1 : DkAt w' a1 dk) (h2 : DkAt w' a2 dk) => lqSame a1 a2 c1 c2 dk w' h1 h2 (by omega))
  clear hSM hX4
  generalize alS bs dk = LL at *
  go_wp2_with fail
  refine (unhide HTO _ _ _ hs l).mono ?_
  rintro e x1 ⟨xa, xc, xd, xe, rfl, hX, b⟩
  replace hs := hs.below b
  replace bx := bx.below b
  replace l := l.below b
  clear y0 y1
  have y0 := bx.c0
  have y1 := bx.c1
  replace B := B.trans (b.mono B.size)
  clear b
  have b : Below x1.heap.size x1 (x1.alloc (.cells #[.slice xa XL.length xc, .slice xd dk.length xe] 26)) := (Below.refl _ _).alloc (Nat.le_refl _) _
  have bn := Bx.new x1 (.slice xa XL.length xc) (.slice xd dk.length xe) 26
  replace hs := hs.below b
  replace bx := bx.below b
  replace l := l.below b
  replace hX := hX.below b
  clear y0 y1
  have y0 := bx.c0
  have y1 := bx.c1
  replace B := B.trans (b.mono B.size)
  clear b
  obtain ⟨g, rfl, hkd⟩ := unhide HK0 _ l
  have n0 := bn.c0
  have n1 := bn.c1
  have hLp : (0 : Int) < (L.length : Int) := by omega
  clear HK0
  rcases hB with ⟨h1, hB⟩ | ⟨h1, hB⟩
  · have h1b : (kd == 1) = true := by simpa using h1
    have HB := hide hB
    clear h1 hB
    go_wp2_with fail
    refine (unhide HLQ _ _ _ _ _ hX hs).mono ?_
    rintro e x4 ⟨⟨r, rfl, hr⟩, b⟩
    replace B := B.trans (b.mono B.size)
    have hrt : r = true := hr.2 ⟨unhide HB, by trivial⟩
    subst hrt
    clear b hX hs bn bx y0 y1 n0 n1 hkd l
    go_wp2
    go_ret
    exact ⟨rfl, B⟩
  have h1b : (kd == 1) = false := by simpa using h1
  have HLN : Hid (∀ (w' : World) (xa xd : Option Addr) (xc xe : Nat), SAt w' xa XL xd dk → SAt w' fa bs da dk → Calls Tryz.prog 44 #[.agg #[.slice xa XL.length xc, .slice xd dk.length xe], .agg #[.slice fa bs.length c, .slice da dk.length dc]] w' fun e w'' => e = .returned (.bool false) ∧ Below w'.heap.size w' w'') := fun w' xa xd xc xe q1 q2 => by
    refine (unhide HLQ w' xa xd xc xe q1 q2).mono ?_
    rintro e w'' ⟨⟨r, rfl, hr⟩, b⟩
    cases r
    · exact ⟨rfl, b⟩
    · exact absurd (hr.1 rfl).1 hB
  clear h1 hB HLQ
  go_upto_region 10 with fail
  generalize x1.alloc (.cells #[.slice xa XL.length xc, .slice xd dk.length xe] 26) = x2 at *
  generalize x1.heap.size = nb at *
  clear hkd l
  refine wp_region_noPanic ?_
  refine wp_region_held_drew (S := fun w' => Kept [] x2 w') (by kernel_rfl) (Kept.refl _ _).drew (fun hHeld => ?_)
  generalize x2.drew = y0 at *
  have z0 := hHeld.size
  refine takeL 0 (.bool true) rfl (by kernel_rfl) (by kernel_rfl) (by kernel_rfl) (fun _ _ _ h => h) (Or.inl ⟨rfl, fun _ _ => rfl⟩) hHeld ?_
  try simp only [Act.put, List.setIfInBounds_toArray, List.set_cons_zero, List.set_cons_succ]
  refine takeL 1 (.bool true) rfl (by kernel_rfl) (by kernel_rfl) (by kernel_rfl) (fun _ _ _ h => h) (Or.inl ⟨rfl, fun _ _ => rfl⟩) hHeld ?_
  try simp only [Act.put, List.setIfInBounds_toArray, List.set_cons_zero, List.set_cons_succ]
  refine takeL 2 (.pointer (some ⟨nb, 1, none⟩)) rfl (by kernel_rfl) (by kernel_rfl) (by kernel_rfl) (fun _ _ _ h => h) (Or.inl ⟨rfl, fun w9 hSw => by go_simp⟩) hHeld ?_
  try simp only [Act.put, List.setIfInBounds_toArray, List.set_cons_zero, List.set_cons_succ]
  refine takeL 3 (.slice xd dk.length xe) rfl (by kernel_rfl) (by kernel_rfl) (by kernel_rfl) (fun _ _ _ h => h) (Or.inl ⟨rfl, fun w9 hSw => by have hc := (hSw.cell (b := nb) 1 bn.lt (by simp)).trans bn.c1; go_simp⟩) hHeld ?_
  try simp only [Act.put, List.setIfInBounds_toArray, List.set_cons_zero, List.set_cons_succ]
  refine takeL 4 (.pointer (some ⟨sb, 1, none⟩)) rfl (by kernel_rfl) (by kernel_rfl) (by kernel_rfl) (fun _ _ _ h => h) (Or.inl ⟨rfl, fun w9 hSw => by go_simp⟩) hHeld ?_
  try simp only [Act.put, List.setIfInBounds_toArray, List.set_cons_zero, List.set_cons_succ]
  refine takeL 5 (.slice da dk.length dc) rfl (by kernel_rfl) (by kernel_rfl) (by kernel_rfl) (fun _ _ _ h => h) (Or.inl ⟨rfl, fun w9 hSw => by have hc := (hSw.cell (b := sb) 1 bx.lt (by simp)).trans bx.c1; go_simp⟩) hHeld ?_
  try simp only [Act.put, List.setIfInBounds_toArray, List.set_cons_zero, List.set_cons_succ]
  refine oneL 6 rfl (by kernel_rfl) rfl (fun K hK => ?_)
  go_simp
  refine (unhide HQD _ _ _ _ _ (hX.below (Kept.all hHeld (by simp))).ds (hs.below (Kept.all hHeld (by simp))).ds).mono ?_
  rintro e y1 ⟨rfl, b⟩
  go_wp2_with fail
  refine hK.out _ _ (hHeld.trans (Kept.of b)) (fun hHeld => ?_)
  clear hK K
  try simp only [Act.put, List.setIfInBounds_toArray, List.set_cons_zero, List.set_cons_succ]
  have z1 := b.size
  clear b
  refine takeL 7 (.bool true) rfl (by kernel_rfl) (by kernel_rfl) (by kernel_rfl) (fun _ _ _ h => h) (Or.inl ⟨rfl, fun w9 hSw => by go_simp⟩) hHeld ?_
  try simp only [Act.put, List.setIfInBounds_toArray, List.set_cons_zero, List.set_cons_succ]
  refine takeL 8 (.bool true) rfl (by kernel_rfl) (by kernel_rfl) (by kernel_rfl) (fun _ _ _ h => h) (Or.inl ⟨rfl, fun _ _ => rfl⟩) hHeld ?_
  try simp only [Act.put, List.setIfInBounds_toArray, List.set_cons_zero, List.set_cons_succ]
  refine takeL 9 (.agg #[.slice xa XL.length xc, .slice xd dk.length xe]) rfl (by kernel_rfl) (by kernel_rfl) (by kernel_rfl) (fun _ _ _ h => h) (yieldsIf_load_mid rfl 26 _ rfl nb 0 rfl [.slice xa XL.length xc, .slice xd dk.length xe] _ (fun _ h => rng2 (bn.below (Kept.all h (by simp)))) Tryz.underlying26 rfl (unhide HSS)) hHeld ?_
  try simp only [Act.put, List.setIfInBounds_toArray, List.set_cons_zero, List.set_cons_succ]
  refine takeL 11 (.agg #[.slice fa bs.length c, .slice da dk.length dc]) rfl (by kernel_rfl) (by kernel_rfl) (by kernel_rfl) (fun _ _ _ h => h) (yieldsIf_load_mid rfl 26 _ rfl sb 0 rfl [.slice fa bs.length c, .slice da dk.length dc] _ (fun _ h => rng2 (bx.below (Kept.all h (by simp)))) Tryz.underlying26 rfl (unhide HSS)) hHeld ?_
  try simp only [Act.put, List.setIfInBounds_toArray, List.set_cons_zero, List.set_cons_succ]
  refine oneL 10 rfl (by kernel_rfl) rfl (fun K hK => ?_)
  go_simp
  refine (unhide HXA _ _ _ _ _ (hX.below (Kept.all hHeld (by simp)))).mono ?_
  rintro e y2 ⟨zaa, zac, rfl, hza, b⟩
  go_wp2_with fail
  refine hK.out _ _ (hHeld.trans (Kept.of b)) (fun hHeld => ?_)
  clear hK K
  try simp only [Act.put, List.setIfInBounds_toArray, List.set_cons_zero, List.set_cons_succ]
  have z2 := b.size
  clear b
  refine oneL 12 rfl (by kernel_rfl) rfl (fun K hK => ?_)
  go_simp
  refine (unhide HIA _ (hs.below (Kept.all hHeld (by simp)))).mono ?_
  rintro e y3 ⟨yaa, yac, rfl, hya, b⟩
  go_wp2_with fail
  replace hza := hza.below b
  refine hK.out _ _ (hHeld.trans (Kept.of b)) (fun hHeld => ?_)
  clear hK K
  try simp only [Act.put, List.setIfInBounds_toArray, List.set_cons_zero, List.set_cons_succ]
  have z3 := b.size
  clear b
  refine oneL 13 rfl (by kernel_rfl) rfl (fun K hK => ?_)
  go_simp
  refine (unhide HQ _ _ _ _ _ hza hya).mono ?_
  rintro e y4 ⟨rfl, b⟩
  go_wp2_with fail
  replace hza := hza.below b
  replace hya := hya.below b
  refine hK.out _ _ (hHeld.trans (Kept.of b)) (fun hHeld => ?_)
  clear hK K
  try simp only [Act.put, List.setIfInBounds_toArray, List.set_cons_zero, List.set_cons_succ]
  have z4 := b.size
  clear b
  refine takeL 14 (.bool true) rfl (by kernel_rfl) (by kernel_rfl) (by kernel_rfl) (fun _ _ _ h => h) (Or.inl ⟨rfl, fun w9 hSw => by go_simp⟩) hHeld ?_
  try simp only [Act.put, List.setIfInBounds_toArray, List.set_cons_zero, List.set_cons_succ]
  refine takeL 15 (.bool true) rfl (by kernel_rfl) (by kernel_rfl) (by kernel_rfl) (fun _ _ _ h => h) (Or.inl ⟨rfl, fun _ _ => rfl⟩) hHeld ?_
  try simp only [Act.put, List.setIfInBounds_toArray, List.set_cons_zero, List.set_cons_succ]
  refine takeL 16 (.agg #[.slice xa XL.length xc, .slice xd dk.length xe]) rfl (by kernel_rfl) (by kernel_rfl) (by kernel_rfl) (fun _ _ _ h => h) (yieldsIf_load_mid rfl 26 _ rfl nb 0 rfl [.slice xa XL.length xc, .slice xd dk.length xe] _ (fun _ h => rng2 (bn.below (Kept.all h (by simp)))) Tryz.underlying26 rfl (unhide HSS)) hHeld ?_
  try simp only [Act.put, List.setIfInBounds_toArray, List.set_cons_zero, List.set_cons_succ]
  refine takeL 17 (.agg #[.slice fa bs.length c, .slice da dk.length dc]) rfl (by kernel_rfl) (by kernel_rfl) (by kernel_rfl) (fun _ _ _ h => h) (yieldsIf_load_mid rfl 26 _ rfl sb 0 rfl [.slice fa bs.length c, .slice da dk.length dc] _ (fun _ h => rng2 (bx.below (Kept.all h (by simp)))) Tryz.underlying26 rfl (unhide HSS)) hHeld ?_
  try simp only [Act.put, List.setIfInBounds_toArray, List.set_cons_zero, List.set_cons_succ]
  refine oneL 18 rfl (by kernel_rfl) rfl (fun K hK => ?_)
  go_simp
  refine (unhide HLN _ _ _ _ _ (hX.below (Kept.all hHeld (by simp))) (hs.below (Kept.all hHeld (by simp)))).mono ?_
  rintro e y5 ⟨rfl, b⟩
  go_wp2_with fail
  replace hza := hza.below b
  replace hya := hya.below b
  refine hK.out _ _ (hHeld.trans (Kept.of b)) (fun hHeld => ?_)
  clear hK K
  try simp only [Act.put, List.setIfInBounds_toArray, List.set_cons_zero, List.set_cons_succ]
  have z5 := b.size
  clear b
  refine takeL 19 (.bool true) rfl (by kernel_rfl) (by kernel_rfl) (by kernel_rfl) (fun _ _ _ h => h) (Or.inl ⟨rfl, fun w9 hSw => by go_simp⟩) hHeld ?_
  try simp only [Act.put, List.setIfInBounds_toArray, List.set_cons_zero, List.set_cons_succ]
  refine takeL 20 (.bool true) rfl (by kernel_rfl) (by kernel_rfl) (by kernel_rfl) (fun _ _ _ h => h) (Or.inl ⟨rfl, fun w9 hSw => by go_simp⟩) hHeld ?_
  try simp only [Act.put, List.setIfInBounds_toArray, List.set_cons_zero, List.set_cons_succ]
  refine takeL 21 (.bool true) rfl (by kernel_rfl) (by kernel_rfl) (by kernel_rfl) (fun _ _ _ h => h) (Or.inl ⟨rfl, fun _ _ => rfl⟩) hHeld ?_
  try simp only [Act.put, List.setIfInBounds_toArray, List.set_cons_zero, List.set_cons_succ]
  refine wpAnyH_done (by kernel_rfl) ?_ _
  refine NoPanic.normal ?_
  have B2 := B.trans ((Kept.all hHeld (by simp)).mono B.size)
  clear hHeld
  go_wp2
  go_ret
  exact ⟨rfl, B2⟩


set_option maxRecDepth 100000 in
theorem lifted (os : Os) (started : os.Started) (H : Type) (enc : TypeId × Value → H) :
    ReturnsInHanded {} Tryz.checked os 11 .any (Rows.fnToTornSpec.pre6 enc Tryz.prog Tryz.f11 Rows.fnToTornRow.domain false) (Rows.fnToTornSpec.post enc Tryz.prog Tryz.f11 false true false false) := by
  refine returnsInHanded_of_change (C := Tryz.checked) own started (by kernel_rfl) Tryz.func11
    (ChangeSpec.witness6 (enc := enc) (C := Tryz.checked) false ⟨#[], #[.slice none 0 0], []⟩ 8 (by kernel_rfl) (by kernel_rfl) (by kernel_rfl) (by kernel_rfl)) ?_
  intro W base args ds gs before hval0 hW hcnd _
  have hval : ∀ (j : Nat) t v, Tryz.f11.params[j]? = some t → args[j]? = some v → Value.okWide Tryz.prog W .any base t v := hval0
  have hW' := hW
  obtain ⟨p, q, hA0, hV, rfl, hfz, hnd⟩ := hW
  have hA : DataW.TrodAll enc Tryz.prog W 0 (fun _ => true) true Tryz.f11.params.toList args.toList ds p := hA0
  rw [Tryz.params11] at hA hval
  obtain ⟨v0, vs0, d0, ds0, p0, q0, hargs, rfl, rfl, h0, r0⟩ := trodAll_cons hA
  obtain ⟨rfl, rfl, rfl⟩ := trodAll_nil r0
  obtain rfl : args = #[v0] := by cases args; simp_all
  obtain ⟨rfl, rfl⟩ := trodVars_none hV
  have kk0 := h0
  have lt0 : ∀ x ∈ p0, x.block < W.heap.size := by obtain ⟨m, hm⟩ := kk0; exact DataW.trod_lt m _ _ _ hm
  obtain ⟨a0, len0, cap0, rfl⟩ := okWide_slice Tryz.underlying22 (hval 0 22 v0 rfl rfl)
  obtain ⟨z0, w0⟩ : ∃ zs, IsRow .u8 W a0 len0 cap0 zs := by
    obtain ⟨fuel, hf⟩ := h0
    rcases open_ints Tryz.underlying22 Tryz.underlying5 (by kernel_rfl) hf with ⟨hcs, _⟩ | ⟨x, l, c, zs, hcs, _, hl, hm, hz, _, hcell, hwz⟩
    · simp [Value.cells] at hcs
      obtain ⟨rfl, rfl, rfl⟩ := hcs
      exact ⟨[], .inl ⟨rfl, rfl, rfl, rfl⟩⟩
    · simp [Value.cells] at hcs
      obtain ⟨rfl, rfl, rfl⟩ := hcs
      exact ⟨zs, .inr ⟨_, rfl, hl, hm, by simpa using hz, hcell, hwz⟩⟩
  clear hA0
  refine (walk a0 len0 cap0 z0 W w0).mono fun e W' ⟨he, bel⟩ => ?_
  subst he
  exact ⟨_, rfl, _, _, _, [], _, [], hW', trodAll_mk1 (shut_bool Tryz.underlying4 _), (trodAll_cons_mk (Below.trod laidOut (by kernel_rfl) (of_decide_eq_true (by kernel_rfl)) kk0 bel lt0) trodAll_mk0), rfl, bel.frame _, fun h => by cases h⟩

set_option maxRecDepth 100000 in
set_option maxHeartbeats 8000000 in
theorem facts : joinedFacts Tryz.prog 11 Tryz.f11 Rows.fnToTornSpec Rows.fnToTornRow = true := by
  unfold joinedFacts
  refine Facts.and_t ?_ (by as_aux_lemma => kernel_rfl)
  refine Facts.and_t ?_ (by as_aux_lemma => kernel_rfl)
  refine Facts.and_t ?_ (by as_aux_lemma => kernel_rfl)
  refine Facts.and_t ?_ (by as_aux_lemma => kernel_rfl)
  refine Facts.and_t ?_ (by show (Tryz.prog.make == some Make.cut) = true; rw [Facts.made]; rfl)
  refine Facts.and_t ?_ (by show (false == Tryz.prog.liftsFinal) = true; rw [Facts.lifts]; rfl)
  refine Facts.and_t ?_ (Facts.enters)
  refine Facts.and_t ?_ (Facts.heard)
  refine Facts.and_t ?_ (rfl)
  refine Facts.and_t ?_ (by show (true == Tryz.prog.plainKeys) = true; rw [Facts.keys]; rfl)
  refine Facts.and_t ?_ (by as_aux_lemma => kernel_rfl)
  refine Facts.and_t ?_ (by as_aux_lemma => kernel_rfl)
  refine Facts.and_t ?_ (by as_aux_lemma => kernel_rfl)
  refine Facts.and_t ?_ (by as_aux_lemma => kernel_rfl)
  refine Facts.and_t ?_ (by as_aux_lemma => kernel_rfl)
  refine Facts.and_t ?_ (by as_aux_lemma => kernel_rfl)
  refine Facts.and_t ?_ (by as_aux_lemma => kernel_rfl)
  refine Facts.and_t ?_ (by as_aux_lemma => kernel_rfl)
  refine Facts.and_t ?_ (by as_aux_lemma => kernel_rfl)
  refine Facts.and_t ?_ (by as_aux_lemma => kernel_rfl)
  refine Facts.and_t ?_ (by as_aux_lemma => kernel_rfl)
  refine Facts.and_t ?_ (by as_aux_lemma => kernel_rfl)
  refine Facts.and_t ?_ (by as_aux_lemma => kernel_rfl)
  refine Facts.and_t ?_ (by as_aux_lemma => kernel_rfl)
  refine Facts.and_t ?_ (by as_aux_lemma => kernel_rfl)
  refine Facts.and_t ?_ (by as_aux_lemma => kernel_rfl)
  refine Facts.and_t ?_ (by as_aux_lemma => kernel_rfl)
  refine Facts.and_t ?_ (by as_aux_lemma => kernel_rfl)
  refine Facts.and_t ?_ (by as_aux_lemma => kernel_rfl)
  refine Facts.and_t ?_ (Facts.rowed)
  refine Facts.and_t ?_ (Facts.laidOut)
  kernel_rfl

theorem over : Rows.fnToTornRow.holds Tryz.pinned (OpenSpec.ofChange Rows.fnToTornSpec) :=
  OpenClaim.holds_of_wide_leaving 11 Tryz.f11 rfl rfl rfl rfl rfl rfl rfl ⟨rfl, rfl, rfl, rfl, rfl⟩ rfl rfl rfl rfl rfl (by kernel_rfl) Tryz.func11 facts
    (of_decide_eq_true (by kernel_rfl)) (by unfold Func.isWrapper; first | (rw [if_pos (by decide +kernel)]; kernel_rfl) | (rw [if_neg (by decide +kernel)]; exact ⟨rfl, rfl⟩))
    (fun os started H enc _ => Lv.leave_of (lifted os started H enc))

end Go.Proofs.YtogfelpdgeionaaGreat.ToTorn
namespace Go.Proofs.YtogfelpdgeionaaGreat
theorem fnToTorn_holds : Rows.FnToTornSaid := ToTorn.over
end Go.Proofs.YtogfelpdgeionaaGreat
