/-
  What is flushed the slow disk has: so it has of a drawn store. The given statement, with no condition.
-/
import Derived.Test.YtogfelpdgeionaaGreatHbV
import Derived.Test.YtogfelpdgeionaaGreatHbR
import Derived.Test.YtogfelpdgeionaaGreatHbY
import Derived.Test.YtogfelpdgeionaaGreatHbZ
import Derived.Test.YtogfelpdgeionaaGreatHaT
import Derived.Test.YtogfelpdgeionaaGreatFacts
import Derived.Lib.SmallJoins
namespace Go.Proofs.YtogfelpdgeionaaGreat.FlushAll
open Go.ChangeShapes Go.WideShapes Go.ChangeAt Go.RowKit Go.Shelf Go.Joins OkA Big Fl ImplB ImplF ImplS ImplT ImplU SpecA SpecB SpecC SpecD SpecW SpecX SpecF SpecG SpecH FindP FindN FindO FindD ImplW ImplX Pick Draw ClA DrB PlB Pl FindL StA StB StC StD StE StF StG SpS SpT DrS Sv LqI Pw Pv Py DrG RmA WrA FlA PlA SpU ToA SpecH DoA QuE LawT MkN Ct Cu Ps Pz Px NwA LqI Sn9 ImplL Kp DoA
open FlB (FsN)
open StN (SN)
open Facts (own laidOut)
set_option linter.unusedVariables false
set_option linter.unusedSimpArgs false
attribute [local go_sem ↓] Go.wp_at_zero Go.wp_at_succ

set_option maxRecDepth 100000 in
set_option maxHeartbeats 8000000 in
theorem walk (a0 : Option Addr) (len0 cap0 : Nat) (z0 : List Int) (w : World) (h0 : IsRow .u8 w a0 len0 cap0 z0) :
    Calls Tryz.prog 5 #[.slice a0 len0 cap0] w fun e w' => e = .returned (.bool true) ∧ Below w.heap.size w w' := by
  have HD := hide (drawFlush_any w a0 len0 cap0 z0 h0)
  clear h0
  go_enter Tryz.func5, Tryz.ntmps5
  by_cases hbig0 : 1048576 < (len0 : Int)
  · go_wp2
    go_ret
    exact ⟨rfl, Below.refl _ _⟩
  go_wp2_with fail
  refine (unhide HD).mono ?_
  rintro e w1 ⟨g, o, c, bs, d, z, dc, dk, k, rfl, S1, k0, k1, B⟩
  have h4 := S1.fs.four
  have h6 := S1.six
  have hp4 := hide S1.fs.pgs
  have hs := S1.at
  clear HD S1
  generalize (some ⟨g, o, none⟩ : Option Addr) = fa at *
  generalize (some ⟨d, z, none⟩ : Option Addr) = da at *
  have bA : Below w1.heap.size w1 (w1.alloc (.cells #[.slice fa bs.length c, .slice da dk.length dc] 26)) := (Below.refl _ _).alloc (Nat.le_refl _) _
  have bx := Bx.new w1 (.slice fa bs.length c) (.slice da dk.length dc) 26
  replace hs := hs.below bA
  replace B := B.trans (bA.mono B.size)
  clear bA
  have y0 := bx.c0
  have y1 := bx.c1
  have HIF := hide (fun (w' : World) (h : SAt w' fa bs da dk) => iFlush (fc := c) (dc := dc) k (by omega) (by omega) w' h h4 h6)
  have HSF := hide (fun (w' : World) (h : SAt w' fa bs da dk) => sFlush k (fc := c) (dc := dc)  w' h h4 h6 (unhide hp4))
  have HIR := hide (fun (w' : World) (h : SAt w' fa bs da dk) => iRead k (fc := c) (dc := dc)  w' h h4 h6)
  have HIA := hide (fun (w' : World) (h : SAt w' fa bs da dk) => iAll2 (fc := c) (dc := dc)  w' h h4 h6)
  have HSS := hide (show (Tryz.prog.info? 26).map (·.size) = some 2 by kernel_rfl)
  have HTKP := hide (fun (h : FlushE bs dk k) => h.tk)
  have HFE := hide (fun (hne : flushS bs dk k ≠ []) => flush_e hne)
  have HL6 := hide (flush_len (bs := bs) (dk := dk) k)
  have HTO := hide (fun (hok : ∀ cut : Int, 0 ≤ cut → toOk bs dk (flushS bs dk k) cut = true) (w' : World) (sa : Option Addr) (sc : Nat) (h : SAt w' fa bs da dk) (hl : StAt w' sa (flushS bs dk k)) => iTo (fc := c) (dc := dc) (sc := sc) ((flushS bs dk k).length : Int) false w' h h4 h6 hl (by have := flush_len (bs := bs) (dk := dk) k; omega) (by omega) (by have := flush_len (bs := bs) (dk := dk) k; omega) (hok _ (by omega)))
  obtain ⟨XL, hXL⟩ : ∃ x, x = toB bs (flushS bs dk k) ((flushS bs dk k).length : Int) false := ⟨_, rfl⟩
  obtain ⟨XK, hXK⟩ : ∃ x, x = toK dk (flushS bs dk k) ((flushS bs dk k).length : Int) false := ⟨_, rfl⟩
  have HFU := hide (fun (h : FlushE bs dk k) => (⟨h.full, h.disk⟩ : En bs dk 2 k (readI bs dk k) _ _ ∧ _ = readI bs dk k))
  rw [← hXL, ← hXK] at HTO HFU
  clear hXL hXK
  generalize flushS bs dk k = L at *
  go_wp2_with fail
  generalize w1.alloc (.cells #[.slice fa bs.length c, .slice da dk.length dc] 26) = w2 at *
  generalize w1.heap.size = sb at *
  refine (unhide HIF _ hs).mono ?_
  rintro e u1 ⟨la, lc, rfl, l, b⟩
  replace hs := hs.below b
  replace bx := bx.below b
  clear y0 y1
  have y0 := bx.c0
  have y1 := bx.c1
  replace B := B.trans (b.mono B.size)
  clear b
  go_wp2_with fail
  refine (unhide HSF _ hs).mono ?_
  rintro e u2 ⟨ma, mc, rfl, m, b⟩
  replace hs := hs.below b
  replace l := l.below b
  replace bx := bx.below b
  clear y0 y1
  have y0 := bx.c0
  have y1 := bx.c1
  replace B := B.trans (b.mono B.size)
  clear b
  clear m
  by_cases hL0 : L.length = 0
  · have hLi : (L.length : Int) = 0 := by omega
    go_wp2_with fail
    refine (unhide HSF _ hs).mono ?_
    rintro e u3 ⟨ma, mc, rfl, m, b⟩
    replace hs := hs.below b
    replace l := l.below b
    replace bx := bx.below b
    clear y0 y1
    have y0 := bx.c0
    have y1 := bx.c1
    replace B := B.trans (b.mono B.size)
    clear b
    go_wp2
    go_ret
    exact ⟨rfl, B⟩
  have hL6 := unhide HL6
  have hLn : ((L.length : Int) = 0) = False := eq_false (by omega)
  have hne : L ≠ [] := fun q => hL0 (by rw [q]; rfl)
  have hFE := unhide HFE hne
  have hS0 := hFE.hs
  have hn := hFE.num
  obtain ⟨hE, hD⟩ := unhide HFU hFE
  have hSM : Sm bs dk XL XK := En.sm hE rfl
  have hcl := en_clean hE
  have hfl := flush_no (dk := XK) hcl
  have hany := any_dy hSM.1 k
  have hdt : dtB XL k = false := by unfold dtB; rw [hcl]; simp
  rw [hdt] at hany
  have hrd : rdS bs dk k = readI bs dk k := by unfold rdS; rw [if_pos]; rw [hS0]; simp [inB]; omega
  rw [hrd] at HIR
  have HD6 := hide (DrG.dy_le6 XL XK)
  have HXK6 := hide (st_parts hSM.1).2
  have HTO2 := hide (unhide HTO (unhide HTKP hFE))
  clear HTO HFU HFE HTKP
  have HTO := HTO2
  clear HTO2 hFE hE hdt hcl hrd HSF HIF HL6
  have hXl : XL.length ≤ 4 := by have := ok_len (st_parts hSM.1).1; omega
  have hXk : XK.length ≤ 6 := by have := (st_parts hSM.1).2; omega
  have HXO := hide (fun (w' : World) (xa xd : Option Addr) (xc xe : Nat) (h : SAt w' xa XL xd XK) => iOk (fc := xc) (dc := xe) w' h hXl hXk)
  rw [hSM.1] at HXO
  have HXA := hide (fun (w' : World) (xa xd : Option Addr) (xc xe : Nat) (h : SAt w' xa XL xd XK) => iAll2 (fc := xc) (dc := xe) w' h hXl hXk)
  rw [hSM.al hS0] at HXA
  have HQ := hide (fun (a1 a2 : Option Addr) (c1 c2 : Nat) (w' : World) (h1 : DkAt w' a1 (alS bs dk)) (h2 : DkAt w' a2 (alS bs dk)) => lqSame a1 a2 c1 c2 (alS bs dk) w' h1 h2 al_le)
  have HXD := hide (fun (w' : World) (xa xd : Option Addr) (xc xe : Nat) (h : SAt w' xa XL xd XK) => iDirty2 (fc := xc) (dc := xe) w' h hXl hXk)
  have HXF : Hid (∀ (w' : World) (xa xd : Option Addr) (xc xe : Nat), SAt w' xa XL xd XK → Calls Tryz.prog 34 #[.agg #[.slice xa XL.length xc, .slice xd XK.length xe], .int .i64 k] w' fun e w'' => ∃ p q, e = .returned (.slice p 0 q) ∧ True ∧ Below w'.heap.size w' w'') := fun w' xa xd xc xe h => by
    have := iFlush (fc := xc) (dc := xe) k (by omega) (by omega) w' h hXl hXk
    rw [hfl] at this
    refine this.mono ?_
    rintro e w'' ⟨p, q, he, _, b⟩
    exact ⟨p, q, he, trivial, b⟩
  clear hSM hfl
  generalize alS bs dk = LL at *
  generalize readI bs dk k = v at *
  generalize dyS XL XK = LD at *
  have HNE : Hid (∀ j, j < LD.length → (LD.getD j 0 == k) = false) := fun j hj => by
    have h1 : (LD.take LD.length).any (fun x => x == k) = false := hany
    rw [List.take_length, List.any_eq_false] at h1
    rw [List.getD_eq_getElem?_getD, List.getElem?_eq_getElem hj]
    have := h1 _ (List.getElem_mem hj)
    simpa using this
  clear hany
  go_wp2_with fail
  refine (unhide HTO _ _ _ hs l).mono ?_
  rintro e x1 ⟨xa, xc, xd, xe, rfl, hX, b⟩
  replace hs := hs.below b
  replace bx := bx.below b
  clear y0 y1
  have y0 := bx.c0
  have y1 := bx.c1
  replace B := B.trans (b.mono B.size)
  clear b l
  have b : Below x1.heap.size x1 (x1.alloc (.cells #[.slice xa XL.length xc, .slice xd XK.length xe] 26)) := (Below.refl _ _).alloc (Nat.le_refl _) _
  have bn := Bx.new x1 (.slice xa XL.length xc) (.slice xd XK.length xe) 26
  replace hX := hX.below b
  replace hs := hs.below b
  replace bx := bx.below b
  clear y0 y1
  have y0 := bx.c0
  have y1 := bx.c1
  replace B := B.trans (b.mono B.size)
  clear b
  go_wp2_with fail
  generalize x1.alloc (.cells #[.slice xa XL.length xc, .slice xd XK.length xe] 26) = x2 at *
  generalize x1.heap.size = nb at *
  refine (unhide HXD _ _ _ _ _ hX).mono ?_
  rintro e x3 ⟨qa, qc, rfl, q, b⟩
  replace hX := hX.below b
  replace bn := bn.below b
  replace hs := hs.below b
  replace bx := bx.below b
  clear y0 y1
  replace B := B.trans (b.mono B.size)
  clear b
  have HQC : Hid (∀ j, j < LD.length → ∃ qb qo, qa = some ⟨qb, qo, none⟩ ∧ qb < x3.heap.size ∧ x3.cell? ⟨qb, qo + j, none⟩ = some (.int .i64 (LD.getD j 0))) := fun j hj => by
    obtain ⟨qb, qo, e, hc⟩ := q.lies (by omega)
    exact ⟨qb, qo, e, by have := Fl.cell_lt (hc j hj); simpa using this, hc j hj⟩
  have hD6 := unhide HD6
  clear q
  go_wp2
  go_loopw [9] (fun i w' => ∃ j : Nat, j ≤ LD.length ∧ i = .int .i64 j ∧ Below x3.heap.size x3 w') (fun i _ => LD.length - (intOf i).toNat)
  case atStart => exact ⟨0, by omega, rfl, Below.refl _ _⟩
  case round =>
    obtain ⟨j, hj, rfl, bw⟩ := hrel
    by_cases h0 : j = LD.length
    · subst h0
      replace hs := hs.below bw
      replace hX := hX.below bw
      replace bx := bx.below bw
      replace bn := bn.below bw
      replace B := B.trans (bw.mono B.size)
      clear HQC bw HNE
      obtain ⟨q, rfl, hq⟩ : ∃ q : Nat, k = (q : Int) + 1 ∧ q < 6 := ⟨(k - 1).toNat, by omega, by omega⟩
      rw [show ((q : Int) + 1 - 1).toNat = q by omega] at hD
      have hXk6 := unhide HXK6
      obtain ⟨db, do_, hxd, hdc⟩ := hX.ds.lies (by omega)
      have hdq := hdc q (by omega)
      rw [hD] at hdq
      subst hxd
      have dbl : db < wr.heap.size := by have := Fl.cell_lt hdq; simpa using this
      have hqq : (q : Int) + 1 - 1 = q := by omega
      have hql : (q : Int) < (XK.length : Int) := by omega
      have hq0 : (0 : Int) ≤ (q : Int) := by omega
      clear hXk6
      have hqw : IntKind.i64.wrap (q : Int) = (q : Int) := by rw [IntKind.wrap_i64]; omega
      clear hdc hD HXD
      go_upto_region 14 with fail
      refine wp_region_noPanic ?_
      refine wp_region_held_drew (S := fun w' => Kept [] wr w') (by kernel_rfl) (Kept.refl _ _).drew (fun hHeld => ?_)
      generalize wr.drew = y0 at *
      have z0 := hHeld.size
      refine takeL 0 (.bool true) rfl (by kernel_rfl) (by kernel_rfl) (by kernel_rfl) (fun _ _ _ h => h) (Or.inl ⟨rfl, fun _ _ => rfl⟩) hHeld ?_
      try simp only [Act.put, List.setIfInBounds_toArray, List.set_cons_zero, List.set_cons_succ]
      refine takeL 1 (.bool true) rfl (by kernel_rfl) (by kernel_rfl) (by kernel_rfl) (fun _ _ _ h => h) (Or.inl ⟨rfl, fun _ _ => rfl⟩) hHeld ?_
      try simp only [Act.put, List.setIfInBounds_toArray, List.set_cons_zero, List.set_cons_succ]
      refine takeL 2 (.pointer (some ⟨nb, 1, none⟩)) rfl (by kernel_rfl) (by kernel_rfl) (by kernel_rfl) (fun _ _ _ h => h) (Or.inl ⟨rfl, fun w9 hSw => by go_simp⟩) hHeld ?_
      try simp only [Act.put, List.setIfInBounds_toArray, List.set_cons_zero, List.set_cons_succ]
      refine takeL 3 (.slice (some ⟨db, do_, none⟩) XK.length xe) rfl (by kernel_rfl) (by kernel_rfl) (by kernel_rfl) (fun _ _ _ h => h) (Or.inl ⟨rfl, fun w9 hSw => by have hc := (hSw.cell (b := nb) 1 bn.lt (by simp)).trans bn.c1; go_simp⟩) hHeld ?_
      try simp only [Act.put, List.setIfInBounds_toArray, List.set_cons_zero, List.set_cons_succ]
      refine takeL 4 (.int .i64 ((q : Int) + 1)) rfl (by kernel_rfl) (by kernel_rfl) (by kernel_rfl) (fun _ _ _ h => h) (Or.inl ⟨rfl, fun _ _ => rfl⟩) hHeld ?_
      try simp only [Act.put, List.setIfInBounds_toArray, List.set_cons_zero, List.set_cons_succ]
      refine takeL 5 (.int .i64 (q : Int)) rfl (by kernel_rfl) (by kernel_rfl) (by kernel_rfl) (fun _ _ _ h => h) (Or.inl ⟨rfl, fun w9 hSw => by go_simp⟩) hHeld ?_
      try simp only [Act.put, List.setIfInBounds_toArray, List.set_cons_zero, List.set_cons_succ]
      refine takeL 6 (.pointer (some ⟨db, do_ + q, none⟩)) rfl (by kernel_rfl) (by kernel_rfl) (by kernel_rfl) (fun _ _ _ h => h) (Or.inl ⟨rfl, fun w9 hSw => by go_simp⟩) hHeld ?_
      try simp only [Act.put, List.setIfInBounds_toArray, List.set_cons_zero, List.set_cons_succ]
      refine takeL 7 (.int .i64 v) rfl (by kernel_rfl) (by kernel_rfl) (by kernel_rfl) (fun _ _ _ h => h) (Or.inl ⟨rfl, fun w9 hSw => by have hc := (hSw.cell (b := db) (do_ + q) dbl (by simp)).trans hdq; go_simp⟩) hHeld ?_
      try simp only [Act.put, List.setIfInBounds_toArray, List.set_cons_zero, List.set_cons_succ]
      refine takeL 8 (.agg #[.slice fa bs.length c, .slice da dk.length dc]) rfl (by kernel_rfl) (by kernel_rfl) (by kernel_rfl) (fun _ _ _ h => h) (yieldsIf_load_mid rfl 26 _ rfl sb 0 rfl [.slice fa bs.length c, .slice da dk.length dc] _ (fun _ h => rng2 (bx.below (Kept.all h (by simp)))) Tryz.underlying26 rfl (unhide HSS)) hHeld ?_
      try simp only [Act.put, List.setIfInBounds_toArray, List.set_cons_zero, List.set_cons_succ]
      refine takeL 9 (.int .i64 ((q : Int) + 1)) rfl (by kernel_rfl) (by kernel_rfl) (by kernel_rfl) (fun _ _ _ h => h) (Or.inl ⟨rfl, fun _ _ => rfl⟩) hHeld ?_
      try simp only [Act.put, List.setIfInBounds_toArray, List.set_cons_zero, List.set_cons_succ]
      refine oneL 10 rfl (by kernel_rfl) rfl (fun K hK => ?_)
      go_simp
      refine (unhide HIR _ (hs.below (Kept.all hHeld (by simp)))).mono ?_
      rintro e y1 ⟨rfl, b⟩
      go_wp2_with fail
      refine hK.out _ _ (hHeld.trans (Kept.of b)) (fun hHeld => ?_)
      clear hK K
      try simp only [Act.put, List.setIfInBounds_toArray, List.set_cons_zero, List.set_cons_succ]
      have z1 := b.size
      clear b
      refine takeL 11 (.bool true) rfl (by kernel_rfl) (by kernel_rfl) (by kernel_rfl) (fun _ _ _ h => h) (Or.inl ⟨rfl, fun w9 hSw => by go_simp⟩) hHeld ?_
      try simp only [Act.put, List.setIfInBounds_toArray, List.set_cons_zero, List.set_cons_succ]
      refine takeL 12 (.bool true) rfl (by kernel_rfl) (by kernel_rfl) (by kernel_rfl) (fun _ _ _ h => h) (Or.inl ⟨rfl, fun w9 hSw => by go_simp⟩) hHeld ?_
      try simp only [Act.put, List.setIfInBounds_toArray, List.set_cons_zero, List.set_cons_succ]
      refine takeL 13 (.bool true) rfl (by kernel_rfl) (by kernel_rfl) (by kernel_rfl) (fun _ _ _ h => h) (Or.inl ⟨rfl, fun _ _ => rfl⟩) hHeld ?_
      try simp only [Act.put, List.setIfInBounds_toArray, List.set_cons_zero, List.set_cons_succ]
      refine takeL 14 (.agg #[.slice xa XL.length xc, .slice (some ⟨db, do_, none⟩) XK.length xe]) rfl (by kernel_rfl) (by kernel_rfl) (by kernel_rfl) (fun _ _ _ h => h) (yieldsIf_load_mid rfl 26 _ rfl nb 0 rfl [.slice xa XL.length xc, .slice (some ⟨db, do_, none⟩) XK.length xe] _ (fun _ h => rng2 (bn.below (Kept.all h (by simp)))) Tryz.underlying26 rfl (unhide HSS)) hHeld ?_
      try simp only [Act.put, List.setIfInBounds_toArray, List.set_cons_zero, List.set_cons_succ]
      refine takeL 16 (.agg #[.slice fa bs.length c, .slice da dk.length dc]) rfl (by kernel_rfl) (by kernel_rfl) (by kernel_rfl) (fun _ _ _ h => h) (yieldsIf_load_mid rfl 26 _ rfl sb 0 rfl [.slice fa bs.length c, .slice da dk.length dc] _ (fun _ h => rng2 (bx.below (Kept.all h (by simp)))) Tryz.underlying26 rfl (unhide HSS)) hHeld ?_
      try simp only [Act.put, List.setIfInBounds_toArray, List.set_cons_zero, List.set_cons_succ]
      refine oneL 15 rfl (by kernel_rfl) rfl (fun K hK => ?_)
      go_simp
      refine (unhide HXA _ _ _ _ _ (hX.below (Kept.all hHeld (by simp)))).mono ?_
      rintro e y2 ⟨za, zc, rfl, hza, b⟩
      go_wp2_with fail
      refine hK.out _ _ (hHeld.trans (Kept.of b)) (fun hHeld => ?_)
      clear hK K
      try simp only [Act.put, List.setIfInBounds_toArray, List.set_cons_zero, List.set_cons_succ]
      have z2 := b.size
      clear b
      refine oneL 17 rfl (by kernel_rfl) rfl (fun K hK => ?_)
      go_simp
      refine (unhide HIA _ (hs.below (Kept.all hHeld (by simp)))).mono ?_
      rintro e y3 ⟨ya, yc, rfl, hya, b⟩
      go_wp2_with fail
      replace hza := hza.below b
      refine hK.out _ _ (hHeld.trans (Kept.of b)) (fun hHeld => ?_)
      clear hK K
      try simp only [Act.put, List.setIfInBounds_toArray, List.set_cons_zero, List.set_cons_succ]
      have z3 := b.size
      clear b
      refine oneL 18 rfl (by kernel_rfl) rfl (fun K hK => ?_)
      go_simp
      refine (unhide HQ _ _ _ _ _ hza hya).mono ?_
      rintro e y4 ⟨rfl, b⟩
      go_wp2_with fail
      replace hza := hza.below b
      replace hya := hya.below b
      refine hK.out _ _ (hHeld.trans (Kept.of b)) (fun hHeld => ?_)
      clear hK K
      try simp only [Act.put, List.setIfInBounds_toArray, List.set_cons_zero, List.set_cons_succ]
      have z4 := b.size
      clear b
      refine takeL 19 (.bool true) rfl (by kernel_rfl) (by kernel_rfl) (by kernel_rfl) (fun _ _ _ h => h) (Or.inl ⟨rfl, fun w9 hSw => by go_simp⟩) hHeld ?_
      try simp only [Act.put, List.setIfInBounds_toArray, List.set_cons_zero, List.set_cons_succ]
      refine takeL 20 (.bool true) rfl (by kernel_rfl) (by kernel_rfl) (by kernel_rfl) (fun _ _ _ h => h) (Or.inl ⟨rfl, fun _ _ => rfl⟩) hHeld ?_
      try simp only [Act.put, List.setIfInBounds_toArray, List.set_cons_zero, List.set_cons_succ]
      refine takeL 21 (.agg #[.slice xa XL.length xc, .slice (some ⟨db, do_, none⟩) XK.length xe]) rfl (by kernel_rfl) (by kernel_rfl) (by kernel_rfl) (fun _ _ _ h => h) (yieldsIf_load_mid rfl 26 _ rfl nb 0 rfl [.slice xa XL.length xc, .slice (some ⟨db, do_, none⟩) XK.length xe] _ (fun _ h => rng2 (bn.below (Kept.all h (by simp)))) Tryz.underlying26 rfl (unhide HSS)) hHeld ?_
      try simp only [Act.put, List.setIfInBounds_toArray, List.set_cons_zero, List.set_cons_succ]
      refine oneL 22 rfl (by kernel_rfl) rfl (fun K hK => ?_)
      go_simp
      refine (unhide HXO _ _ _ _ _ (hX.below (Kept.all hHeld (by simp)))).mono ?_
      rintro e y5 ⟨rfl, b⟩
      go_wp2_with fail
      replace hza := hza.below b
      replace hya := hya.below b
      refine hK.out _ _ (hHeld.trans (Kept.of b)) (fun hHeld => ?_)
      clear hK K
      try simp only [Act.put, List.setIfInBounds_toArray, List.set_cons_zero, List.set_cons_succ]
      have z5 := b.size
      clear b
      refine takeL 23 (.bool true) rfl (by kernel_rfl) (by kernel_rfl) (by kernel_rfl) (fun _ _ _ h => h) (Or.inl ⟨rfl, fun w9 hSw => by go_simp⟩) hHeld ?_
      try simp only [Act.put, List.setIfInBounds_toArray, List.set_cons_zero, List.set_cons_succ]
      refine takeL 24 (.bool true) rfl (by kernel_rfl) (by kernel_rfl) (by kernel_rfl) (fun _ _ _ h => h) (Or.inl ⟨rfl, fun _ _ => rfl⟩) hHeld ?_
      try simp only [Act.put, List.setIfInBounds_toArray, List.set_cons_zero, List.set_cons_succ]
      refine takeL 25 (.agg #[.slice xa XL.length xc, .slice (some ⟨db, do_, none⟩) XK.length xe]) rfl (by kernel_rfl) (by kernel_rfl) (by kernel_rfl) (fun _ _ _ h => h) (yieldsIf_load_mid rfl 26 _ rfl nb 0 rfl [.slice xa XL.length xc, .slice (some ⟨db, do_, none⟩) XK.length xe] _ (fun _ h => rng2 (bn.below (Kept.all h (by simp)))) Tryz.underlying26 rfl (unhide HSS)) hHeld ?_
      try simp only [Act.put, List.setIfInBounds_toArray, List.set_cons_zero, List.set_cons_succ]
      refine takeL 26 (.int .i64 ((q : Int) + 1)) rfl (by kernel_rfl) (by kernel_rfl) (by kernel_rfl) (fun _ _ _ h => h) (Or.inl ⟨rfl, fun _ _ => rfl⟩) hHeld ?_
      try simp only [Act.put, List.setIfInBounds_toArray, List.set_cons_zero, List.set_cons_succ]
      refine oneL 27 rfl (by kernel_rfl) rfl (fun K hK => ?_)
      go_simp
      refine (unhide HXF _ _ _ _ _ (hX.below (Kept.all hHeld (by simp)))).mono ?_
      rintro e y6 ⟨pa, pc, rfl, _, b⟩
      go_wp2_with fail
      replace hza := hza.below b
      replace hya := hya.below b
      refine hK.out _ _ (hHeld.trans (Kept.of b)) (fun hHeld => ?_)
      clear hK K
      try simp only [Act.put, List.setIfInBounds_toArray, List.set_cons_zero, List.set_cons_succ]
      have z6 := b.size
      clear b
      refine takeL 28 (.int .i64 0) rfl (by kernel_rfl) (by kernel_rfl) (by kernel_rfl) (fun _ _ _ h => h) (Or.inl ⟨rfl, fun w9 hSw => by go_simp⟩) hHeld ?_
      try simp only [Act.put, List.setIfInBounds_toArray, List.set_cons_zero, List.set_cons_succ]
      refine takeL 29 (.bool true) rfl (by kernel_rfl) (by kernel_rfl) (by kernel_rfl) (fun _ _ _ h => h) (Or.inl ⟨rfl, fun w9 hSw => by go_simp⟩) hHeld ?_
      try simp only [Act.put, List.setIfInBounds_toArray, List.set_cons_zero, List.set_cons_succ]
      refine takeL 30 (.bool true) rfl (by kernel_rfl) (by kernel_rfl) (by kernel_rfl) (fun _ _ _ h => h) (Or.inl ⟨rfl, fun w9 hSw => by go_simp⟩) hHeld ?_
      try simp only [Act.put, List.setIfInBounds_toArray, List.set_cons_zero, List.set_cons_succ]
      refine takeL 31 (.bool true) rfl (by kernel_rfl) (by kernel_rfl) (by kernel_rfl) (fun _ _ _ h => h) (Or.inl ⟨rfl, fun _ _ => rfl⟩) hHeld ?_
      try simp only [Act.put, List.setIfInBounds_toArray, List.set_cons_zero, List.set_cons_succ]
      refine wpAnyH_done (by kernel_rfl) ?_ _
      refine NoPanic.normal ?_
      have B2 := B.trans ((Kept.all hHeld (by simp)).mono B.size)
      clear hHeld
      go_wp2
      go_ret
      exact ⟨rfl, B2⟩
    · have hjl : j < LD.length := by omega
      have hji : (j : Int) < (LD.length : Int) := by omega
      have hj0 : (0 : Int) ≤ (j : Int) := by omega
      obtain ⟨qb, qo, rfl, hqb, hqc⟩ := unhide HQC j hjl
      have hc := (bw.cell (p := ⟨qb, qo + j, none⟩) hqb).trans hqc
      have hne2 := unhide HNE j hjl
      have hwj : IntKind.i64.wrap ((j : Int) + 1) = (j : Int) + 1 := by rw [IntKind.wrap_i64] <;> omega
      clear hqc HQC HNE hs bx hX bn
      generalize LD.getD j 0 = x at *
      go_wp2
      go_roundw
      case rel => exact ⟨j + 1, by omega, by first | rfl | go_num, bw⟩
      case measure => simp [intOf]; omega


set_option maxRecDepth 100000 in
theorem lifted (os : Os) (started : os.Started) (H : Type) (enc : TypeId × Value → H) :
    ReturnsInHanded {} Tryz.checked os 5 .any (Rows.fnFlushAllSpec.pre6 enc Tryz.prog Tryz.f5 Rows.fnFlushAllRow.domain false) (Rows.fnFlushAllSpec.post enc Tryz.prog Tryz.f5 false true false false) := by
  refine returnsInHanded_of_change (C := Tryz.checked) own started (by kernel_rfl) Tryz.func5
    (ChangeSpec.witness6 (enc := enc) (C := Tryz.checked) false ⟨#[], #[.slice none 0 0], []⟩ 8 (by kernel_rfl) (by kernel_rfl) (by kernel_rfl) (by kernel_rfl)) ?_
  intro W base args ds gs before hval0 hW hcnd _
  have hval : ∀ (j : Nat) t v, Tryz.f5.params[j]? = some t → args[j]? = some v → Value.okWide Tryz.prog W .any base t v := hval0
  have hW' := hW
  obtain ⟨p, q, hA0, hV, rfl, hfz, hnd⟩ := hW
  have hA : DataW.TrodAll enc Tryz.prog W 0 (fun _ => true) true Tryz.f5.params.toList args.toList ds p := hA0
  rw [Tryz.params5] at hA hval
  obtain ⟨v0, vs0, d0, ds0, p0, q0, hargs, rfl, rfl, h0, r0⟩ := trodAll_cons hA
  obtain ⟨rfl, rfl, rfl⟩ := trodAll_nil r0
  obtain rfl : args = #[v0] := by cases args; simp_all
  obtain ⟨rfl, rfl⟩ := trodVars_none hV
  have kk0 := h0
  have lt0 : ∀ x ∈ p0, x.block < W.heap.size := by obtain ⟨m, hm⟩ := kk0; exact DataW.trod_lt m _ _ _ hm
  obtain ⟨a0, len0, cap0, rfl⟩ := okWide_slice Tryz.underlying22 (hval 0 22 v0 rfl rfl)
  obtain ⟨z0, w0⟩ : ∃ zs, IsRow .u8 W a0 len0 cap0 zs := by
    obtain ⟨fuel, hf⟩ := h0
    rcases open_ints Tryz.underlying22 Tryz.underlying5 (by kernel_rfl) hf with ⟨hcs, _⟩ | ⟨x, l, c, zs, hcs, _, hl, hm, hz, _, hcell, hwz⟩
    · simp [Value.cells] at hcs
      obtain ⟨rfl, rfl, rfl⟩ := hcs
      exact ⟨[], .inl ⟨rfl, rfl, rfl, rfl⟩⟩
    · simp [Value.cells] at hcs
      obtain ⟨rfl, rfl, rfl⟩ := hcs
      exact ⟨zs, .inr ⟨_, rfl, hl, hm, by simpa using hz, hcell, hwz⟩⟩
  clear hA0
  refine (walk a0 len0 cap0 z0 W w0).mono fun e W' ⟨he, bel⟩ => ?_
  subst he
  exact ⟨_, rfl, _, _, _, [], _, [], hW', trodAll_mk1 (shut_bool Tryz.underlying4 _), (trodAll_cons_mk (Below.trod laidOut (by kernel_rfl) (of_decide_eq_true (by kernel_rfl)) kk0 bel lt0) trodAll_mk0), rfl, bel.frame _, fun h => by cases h⟩

set_option maxRecDepth 100000 in
set_option maxHeartbeats 8000000 in
theorem facts : joinedFacts Tryz.prog 5 Tryz.f5 Rows.fnFlushAllSpec Rows.fnFlushAllRow = true := by
  unfold joinedFacts
  refine Facts.and_t ?_ (by as_aux_lemma => kernel_rfl)
  refine Facts.and_t ?_ (by as_aux_lemma => kernel_rfl)
  refine Facts.and_t ?_ (by as_aux_lemma => kernel_rfl)
  refine Facts.and_t ?_ (by as_aux_lemma => kernel_rfl)
  refine Facts.and_t ?_ (by show (Tryz.prog.make == some Make.cut) = true; rw [Facts.made]; rfl)
  refine Facts.and_t ?_ (by show (false == Tryz.prog.liftsFinal) = true; rw [Facts.lifts]; rfl)
  refine Facts.and_t ?_ (Facts.enters)
  refine Facts.and_t ?_ (Facts.heard)
  refine Facts.and_t ?_ (rfl)
  refine Facts.and_t ?_ (by show (true == Tryz.prog.plainKeys) = true; rw [Facts.keys]; rfl)
  refine Facts.and_t ?_ (by as_aux_lemma => kernel_rfl)
  refine Facts.and_t ?_ (by as_aux_lemma => kernel_rfl)
  refine Facts.and_t ?_ (by as_aux_lemma => kernel_rfl)
  refine Facts.and_t ?_ (by as_aux_lemma => kernel_rfl)
  refine Facts.and_t ?_ (by as_aux_lemma => kernel_rfl)
  refine Facts.and_t ?_ (by as_aux_lemma => kernel_rfl)
  refine Facts.and_t ?_ (by as_aux_lemma => kernel_rfl)
  refine Facts.and_t ?_ (by as_aux_lemma => kernel_rfl)
  refine Facts.and_t ?_ (by as_aux_lemma => kernel_rfl)
  refine Facts.and_t ?_ (by as_aux_lemma => kernel_rfl)
  refine Facts.and_t ?_ (by as_aux_lemma => kernel_rfl)
  refine Facts.and_t ?_ (by as_aux_lemma => kernel_rfl)
  refine Facts.and_t ?_ (by as_aux_lemma => kernel_rfl)
  refine Facts.and_t ?_ (by as_aux_lemma => kernel_rfl)
  refine Facts.and_t ?_ (by as_aux_lemma => kernel_rfl)
  refine Facts.and_t ?_ (by as_aux_lemma => kernel_rfl)
  refine Facts.and_t ?_ (by as_aux_lemma => kernel_rfl)
  refine Facts.and_t ?_ (by as_aux_lemma => kernel_rfl)
  refine Facts.and_t ?_ (by as_aux_lemma => kernel_rfl)
  refine Facts.and_t ?_ (Facts.rowed)
  refine Facts.and_t ?_ (Facts.laidOut)
  kernel_rfl

theorem over : Rows.fnFlushAllRow.holds Tryz.pinned (OpenSpec.ofChange Rows.fnFlushAllSpec) :=
  OpenClaim.holds_of_wide_leaving 5 Tryz.f5 rfl rfl rfl rfl rfl rfl rfl ⟨rfl, rfl, rfl, rfl, rfl⟩ rfl rfl rfl rfl rfl (by kernel_rfl) Tryz.func5 facts
    (of_decide_eq_true (by kernel_rfl)) (by unfold Func.isWrapper; first | (rw [if_pos (by decide +kernel)]; kernel_rfl) | (rw [if_neg (by decide +kernel)]; exact ⟨rfl, rfl⟩))
    (fun os started H enc _ => Lv.leave_of (lifted os started H enc))

end Go.Proofs.YtogfelpdgeionaaGreat.FlushAll
namespace Go.Proofs.YtogfelpdgeionaaGreat
theorem fnFlushAll_holds : Rows.FnFlushAllSaid := FlushAll.over
end Go.Proofs.YtogfelpdgeionaaGreat
