/-
  What is put is read: so it is in a drawn store. The given statement, with no condition.
-/
import Derived.Test.YtogfelpdgeionaaGreatHbY
import Derived.Test.YtogfelpdgeionaaGreatHbR
import Derived.Test.YtogfelpdgeionaaGreatHaT
import Derived.Test.YtogfelpdgeionaaGreatHbZ
import Derived.Test.YtogfelpdgeionaaGreatFacts
import Derived.Lib.SmallJoins
namespace Go.Proofs.YtogfelpdgeionaaGreat.PutAll
open Go.ChangeShapes Go.WideShapes Go.ChangeAt Go.RowKit Go.Shelf Go.Joins OkA Big Fl ImplB ImplF ImplS ImplT ImplU SpecA SpecB SpecC SpecD SpecW SpecX SpecF SpecG SpecH FindP FindN FindO FindD ImplW ImplX Pick Draw ClA DrB PlB Pl FindL StA StB StC StD StE StF StG SpS SpT DrS Sv LqI Pw DrF RmA WrA FlA PlA SpU ToA DoA QuE LawT MkN Ct Cu Ps Py Pz  Px NwA LqI Sn9 ImplL Kp DoA
open FlB (FsN)
open StN (SN)
open Facts (own laidOut)
set_option linter.unusedVariables false
set_option linter.unusedSimpArgs false
attribute [local go_sem ↓] Go.wp_at_zero Go.wp_at_succ

set_option maxRecDepth 100000 in
set_option maxHeartbeats 8000000 in
theorem walk (a0 : Option Addr) (len0 cap0 : Nat) (z0 : List Int) (w : World) (h0 : IsRow .u8 w a0 len0 cap0 z0) :
    Calls Tryz.prog 3 #[.slice a0 len0 cap0] w fun e w' => e = .returned (.bool true) ∧ Below w.heap.size w w' := by
  have HD := hide (drawPut_any w a0 len0 cap0 z0 h0)
  clear h0
  go_enter Tryz.func3, Tryz.ntmps3
  by_cases hbig0 : 1048576 < (len0 : Int)
  · go_wp2
    go_ret
    exact ⟨rfl, Below.refl _ _⟩
  go_wp2_with fail
  refine (unhide HD).mono ?_
  rintro e w1 ⟨g, o, c, bs, d, z, dc, dk, k, v, rfl, S1, k0, k1, v0, v1, B⟩
  have h4 := S1.fs.four
  have h6 := S1.six
  have hp4 := hide S1.fs.pgs
  have hs := S1.at
  clear HD S1
  generalize (some ⟨g, o, none⟩ : Option Addr) = fa at *
  generalize (some ⟨d, z, none⟩ : Option Addr) = da at *
  have bA : Below w1.heap.size w1 (w1.alloc (.cells #[.slice fa bs.length c, .slice da dk.length dc] 26)) := (Below.refl _ _).alloc (Nat.le_refl _) _
  have bx := Bx.new w1 (.slice fa bs.length c) (.slice da dk.length dc) 26
  replace hs := hs.below bA
  replace B := B.trans (bA.mono B.size)
  clear bA
  have y0 := bx.c0
  have y1 := bx.c1
  have HIP := hide (fun (w' : World) (h : SAt w' fa bs da dk) => iPut k v (fc := c) (dc := dc)  w' h h4 h6)
  have HSP := hide (fun (w' : World) (h : SAt w' fa bs da dk) => sPut k v (fc := c) (dc := dc)  w' h h4 h6 (unhide hp4))
  have HSO := hide (fun (w' : World) (h : SAt w' fa bs da dk) => sOk (fc := c) (dc := dc)  w' h h4 h6 (unhide hp4))
  have HSS := hide (show (Tryz.prog.info? 26).map (·.size) = some 2 by kernel_rfl)
  have HPE := hide (fun (hne : putS bs dk k v ≠ []) => put_e hne)
  have HL6 := hide (put_len (bs := bs) (dk := dk) k v)
  have HTO := hide (fun (hok : ∀ cut : Int, 0 ≤ cut → toOk bs dk (putS bs dk k v) cut = true) (w' : World) (sa : Option Addr) (sc : Nat) (h : SAt w' fa bs da dk) (hl : StAt w' sa (putS bs dk k v)) => iTo (fc := c) (dc := dc) (sc := sc) ((putS bs dk k v).length : Int) false w' h h4 h6 hl (by have := put_len (bs := bs) (dk := dk) k v; omega) (by omega) (by have := put_len (bs := bs) (dk := dk) k v; omega) (hok _ (by omega)))
  have HTKP := hide (fun (h : PutE bs dk k v) => h.tk)
  have HIA := hide (fun (w' : World) (h : SAt w' fa bs da dk) => iAll (fc := c) (dc := dc) w' h h4 h6)
  have HAL := hide (fun (h : stB bs dk = true) => al_len h)
  have HM0 := hide (mostB_0 bs)
  obtain ⟨XL, hXL⟩ : ∃ x, x = toB bs (putS bs dk k v) ((putS bs dk k v).length : Int) false := ⟨_, rfl⟩
  obtain ⟨XK, hXK⟩ : ∃ x, x = toK dk (putS bs dk k v) ((putS bs dk k v).length : Int) false := ⟨_, rfl⟩
  have HFU := hide (fun (h : PutE bs dk k v) => h.full)
  rw [← hXL, ← hXK] at HTO HFU
  clear hXL hXK
  generalize putS bs dk k v = L at *
  go_wp2_with fail
  generalize w1.alloc (.cells #[.slice fa bs.length c, .slice da dk.length dc] 26) = w2 at *
  generalize w1.heap.size = sb at *
  refine (unhide HIP _ hs).mono ?_
  rintro e u1 ⟨la, lc, rfl, l, b⟩
  replace hs := hs.below b
  replace bx := bx.below b
  clear y0 y1
  have y0 := bx.c0
  have y1 := bx.c1
  replace B := B.trans (b.mono B.size)
  clear b
  go_wp2_with fail
  refine (unhide HSP _ hs).mono ?_
  rintro e u2 ⟨ma, mc, rfl, m, b⟩
  replace hs := hs.below b
  replace l := l.below b
  replace bx := bx.below b
  clear y0 y1
  have y0 := bx.c0
  have y1 := bx.c1
  replace B := B.trans (b.mono B.size)
  clear b
  clear m
  by_cases hL0 : L.length = 0
  · have hLi : (L.length : Int) = 0 := by omega
    go_wp2_with fail
    refine (unhide HSP _ hs).mono ?_
    rintro e u3 ⟨ma, mc, rfl, m, b⟩
    replace hs := hs.below b
    replace l := l.below b
    replace bx := bx.below b
    clear y0 y1
    have y0 := bx.c0
    have y1 := bx.c1
    replace B := B.trans (b.mono B.size)
    clear b
    go_wp2
    go_ret
    exact ⟨rfl, B⟩
  have hL6 := unhide HL6
  have hLn : ((L.length : Int) = 0) = False := eq_false (by omega)
  have hne : L ≠ [] := fun q => hL0 (by rw [q]; rfl)
  have hPE := unhide HPE hne
  have hE := unhide HFU hPE
  have hn := hPE.num
  have HST := hide hE.st
  have HALX := hide (al_en hE hPE.hs hn.1 hn.2.1)
  obtain ⟨hr, ho⟩ := fl_en hE hn.1 hn.2.1 (by have := unhide HM0; omega)
  have hXl : XL.length ≤ 4 := by have := ok_len (st_parts hE.st).1; omega
  have hXk : XK.length ≤ 6 := by have := (st_parts hE.st).2; omega
  have hl6 := hide (unhide HAL hPE.hs)
  have HTO2 := hide (unhide HTO (unhide HTKP hPE))
  clear HTO HFU HPE HTKP
  have HTO := HTO2
  clear HTO2 hPE hE HSP HIP HSO HL6
  have HXO := hide (fun (w' : World) (xa xd : Option Addr) (xc xe : Nat) (h : SAt w' xa XL xd XK) => iOk (fc := xc) (dc := xe) w' h hXl hXk)
  rw [unhide HST] at HXO
  have HXA := hide (fun (w' : World) (xa xd : Option Addr) (xc xe : Nat) (h : SAt w' xa XL xd XK) => iAll (fc := xc) (dc := xe) w' h hXl hXk)
  rw [unhide HALX] at HXA
  have HXL := hide (fun (w' : World) (xa xd : Option Addr) (xc xe : Nat) (h : SAt w' xa XL xd XK) => iLast (fc := xc) k _ true hr ho w' h.fs hXl)
  clear HALX HST hr ho
  generalize alS bs dk = LL at *
  generalize mostB bs + 1 = sq at *
  go_wp2_with fail
  refine (unhide HTO _ _ _ hs l).mono ?_
  rintro e x1 ⟨xa, xc, xd, xe, rfl, hX, b⟩
  replace hs := hs.below b
  replace bx := bx.below b
  clear y0 y1
  have y0 := bx.c0
  have y1 := bx.c1
  replace B := B.trans (b.mono B.size)
  clear b l
  have b : Below x1.heap.size x1 (x1.alloc (.cells #[.slice xa XL.length xc, .slice xd XK.length xe] 26)) := (Below.refl _ _).alloc (Nat.le_refl _) _
  have bn := Bx.new x1 (.slice xa XL.length xc) (.slice xd XK.length xe) 26
  replace hX := hX.below b
  replace hs := hs.below b
  replace bx := bx.below b
  clear y0 y1
  have y0 := bx.c0
  have y1 := bx.c1
  replace B := B.trans (b.mono B.size)
  clear b
  go_wp2_with fail
  generalize x1.alloc (.cells #[.slice xa XL.length xc, .slice xd XK.length xe] 26) = x2 at *
  generalize x1.heap.size = nb at *
  refine (unhide HIA _ hs).mono ?_
  rintro e x3 ⟨lv, rfl, hN, b3⟩
  rcases hN with ⟨hq, _⟩ | ⟨lg, lc, rfl, l0, l1, cL⟩
  · have hl6' := unhide hl6
    rw [hq] at hl6'; cases hl6'
  have hX3 := hX.below b3
  have bn3 := bn.below b3
  have n0 := bn3.c0
  have n1 := bn3.c1
  clear hs bx y0 y1 HIA
  obtain ⟨q, rfl, hq⟩ : ∃ q : Nat, k = (q : Int) + 1 ∧ q < 6 := ⟨(k - 1).toNat, by omega, by omega⟩
  rw [show ((q : Int) + 1 - 1).toNat = q by omega] at HXA
  go_wp2_with fail
  refine (unhide HXA _ _ _ _ _ hX3).mono ?_
  rintro e x4 ⟨lv2, rfl, hN, b4⟩
  have hLs : (LL.set q v).length = LL.length := by simp
  rcases hN with ⟨hq2, _⟩ | ⟨zg, zc, rfl, z0, z1, cZ⟩
  · have := congrArg List.length hq2; rw [hLs, unhide hl6] at this; simp at this
  rw [hLs]
  have cL4 := cL.below b4 l1
  have l1b : lg < x4.heap.size := Nat.lt_of_lt_of_le l1 b4.size
  have b24 := b3.trans (b4.mono b3.size)
  have cc := isC_at cL4.cells q (by have := unhide hl6; omega)
  rw [Nat.zero_add] at cc
  have cf := cL4.frozen q (by rw [len_isC]; have := unhide hl6; omega)
  have cS := cL4.setInt (k := q) (by have := unhide hl6; omega) v
  have cZ5 : CsAt (x4.setCell ⟨lg, q, none⟩ (.int .i64 v)) zg (isC (LL.set q v)) := cZ.other (show zg ≠ lg by omega) q [.int .i64 v]
  have b25 : Below x2.heap.size x2 (x4.setCell ⟨lg, q, none⟩ (.int .i64 v)) := ((Kept.of (L := []) b24).setCell (p := ⟨lg, q, none⟩) (.inr l0) _).all (by simp)
  replace hX := hX.below b25
  replace bn := bn.below b25
  replace B := B.trans (b25.mono B.size)
  have hql : (q : Int) < (LL.length : Int) := by have := unhide hl6; omega
  have hq0 : (0 : Int) ≤ (q : Int) := by omega
  have hqq : (q : Int) + 1 - 1 = q := by omega
  have HQ := hide (fun (a1 a2 : Option Addr) (c1 c2 : Nat) (w' : World) (h1 : DkAt w' a1 (LL.set q v)) (h2 : DkAt w' a2 (LL.set q v)) => lqSame a1 a2 c1 c2 (LL.set q v) w' h1 h2 (by have := unhide hl6; simp; omega))
  rw [hLs] at HQ
  clear hX3 bn3 n0 n1 b3 b4 b24 b25 cL cL4 cZ l1b z1 l1
  have n0 := bn.c0
  have n1 := bn.c1
  go_upto_region 13 with fail
  generalize x4.setCell ⟨lg, q, none⟩ (.int .i64 v) = x5 at *
  clear cc cf
  go_wp2_with fail
  refine (unhide HXL _ xa xd xc xe hX).mono ?_
  rintro e x6 ⟨rfl, b⟩
  replace hX := hX.below b
  replace bn := bn.below b
  clear n0 n1
  have n0 := bn.c0
  have n1 := bn.c1
  have cS6 := (show DkAt x5 (some ⟨lg, 0, none⟩) (LL.set q v) from .inr ⟨lg, 0, rfl, cS.cells⟩).below b
  have cZ6 := (show DkAt x5 (some ⟨zg, 0, none⟩) (LL.set q v) from .inr ⟨zg, 0, rfl, cZ5.cells⟩).below b
  replace B := B.trans (b.mono B.size)
  clear b cS cZ5
  have b : Below x6.heap.size x6 (x6.alloc (.cells #[.int .i64 1, .int .i64 sq, .int .i64 ((q : Int) + 1), .int .i64 v] 35)) := (Below.refl _ _).alloc (Nat.le_refl _) _
  have cR := CsAt.new x6 [.int .i64 1, .int .i64 sq, .int .i64 ((q : Int) + 1), .int .i64 v] 35
  replace hX := hX.below b
  replace bn := bn.below b
  replace cS6 := cS6.below b
  replace cZ6 := cZ6.below b
  replace B := B.trans (b.mono B.size)
  have s7 : (x6.alloc (.cells #[.int .i64 1, .int .i64 sq, .int .i64 ((q : Int) + 1), .int .i64 v] 35)).heap.size = x6.heap.size + 1 := by simp
  clear b
  go_wp2_with fail
  generalize x6.alloc (.cells #[.int .i64 1, .int .i64 sq, .int .i64 ((q : Int) + 1), .int .i64 v] 35) = x7 at *
  refine (unhide HQ _ _ _ _ _ cS6 cZ6).mono ?_
  rintro e x8 ⟨rfl, b⟩
  replace hX := hX.below b
  replace bn := bn.below b
  have cR8 := cR.below b (by omega)
  clear n0 n1 cR cS6 cZ6
  have n0 := bn.c0
  have n1 := bn.c1
  have r0 := cR8.cell 0 _ rfl
  replace B := B.trans (b.mono B.size)
  clear b
  go_wp2_with fail
  refine (unhide HXO _ _ _ _ _ hX).mono ?_
  rintro e x9 ⟨rfl, b⟩
  replace B := B.trans (b.mono B.size)
  go_wp2
  go_ret
  exact ⟨rfl, B⟩


set_option maxRecDepth 100000 in
theorem lifted (os : Os) (started : os.Started) (H : Type) (enc : TypeId × Value → H) :
    ReturnsInHanded {} Tryz.checked os 3 .any (Rows.fnPutAllSpec.pre6 enc Tryz.prog Tryz.f3 Rows.fnPutAllRow.domain false) (Rows.fnPutAllSpec.post enc Tryz.prog Tryz.f3 false true false false) := by
  refine returnsInHanded_of_change (C := Tryz.checked) own started (by kernel_rfl) Tryz.func3
    (ChangeSpec.witness6 (enc := enc) (C := Tryz.checked) false ⟨#[], #[.slice none 0 0], []⟩ 8 (by kernel_rfl) (by kernel_rfl) (by kernel_rfl) (by kernel_rfl)) ?_
  intro W base args ds gs before hval0 hW hcnd _
  have hval : ∀ (j : Nat) t v, Tryz.f3.params[j]? = some t → args[j]? = some v → Value.okWide Tryz.prog W .any base t v := hval0
  have hW' := hW
  obtain ⟨p, q, hA0, hV, rfl, hfz, hnd⟩ := hW
  have hA : DataW.TrodAll enc Tryz.prog W 0 (fun _ => true) true Tryz.f3.params.toList args.toList ds p := hA0
  rw [Tryz.params3] at hA hval
  obtain ⟨v0, vs0, d0, ds0, p0, q0, hargs, rfl, rfl, h0, r0⟩ := trodAll_cons hA
  obtain ⟨rfl, rfl, rfl⟩ := trodAll_nil r0
  obtain rfl : args = #[v0] := by cases args; simp_all
  obtain ⟨rfl, rfl⟩ := trodVars_none hV
  have kk0 := h0
  have lt0 : ∀ x ∈ p0, x.block < W.heap.size := by obtain ⟨m, hm⟩ := kk0; exact DataW.trod_lt m _ _ _ hm
  obtain ⟨a0, len0, cap0, rfl⟩ := okWide_slice Tryz.underlying22 (hval 0 22 v0 rfl rfl)
  obtain ⟨z0, w0⟩ : ∃ zs, IsRow .u8 W a0 len0 cap0 zs := by
    obtain ⟨fuel, hf⟩ := h0
    rcases open_ints Tryz.underlying22 Tryz.underlying5 (by kernel_rfl) hf with ⟨hcs, _⟩ | ⟨x, l, c, zs, hcs, _, hl, hm, hz, _, hcell, hwz⟩
    · simp [Value.cells] at hcs
      obtain ⟨rfl, rfl, rfl⟩ := hcs
      exact ⟨[], .inl ⟨rfl, rfl, rfl, rfl⟩⟩
    · simp [Value.cells] at hcs
      obtain ⟨rfl, rfl, rfl⟩ := hcs
      exact ⟨zs, .inr ⟨_, rfl, hl, hm, by simpa using hz, hcell, hwz⟩⟩
  clear hA0
  refine (walk a0 len0 cap0 z0 W w0).mono fun e W' ⟨he, bel⟩ => ?_
  subst he
  exact ⟨_, rfl, _, _, _, [], _, [], hW', trodAll_mk1 (shut_bool Tryz.underlying4 _), (trodAll_cons_mk (Below.trod laidOut (by kernel_rfl) (of_decide_eq_true (by kernel_rfl)) kk0 bel lt0) trodAll_mk0), rfl, bel.frame _, fun h => by cases h⟩

set_option maxRecDepth 100000 in
set_option maxHeartbeats 8000000 in
theorem facts : joinedFacts Tryz.prog 3 Tryz.f3 Rows.fnPutAllSpec Rows.fnPutAllRow = true := by
  unfold joinedFacts
  refine Facts.and_t ?_ (by as_aux_lemma => kernel_rfl)
  refine Facts.and_t ?_ (by as_aux_lemma => kernel_rfl)
  refine Facts.and_t ?_ (by as_aux_lemma => kernel_rfl)
  refine Facts.and_t ?_ (by as_aux_lemma => kernel_rfl)
  refine Facts.and_t ?_ (by show (Tryz.prog.make == some Make.cut) = true; rw [Facts.made]; rfl)
  refine Facts.and_t ?_ (by show (false == Tryz.prog.liftsFinal) = true; rw [Facts.lifts]; rfl)
  refine Facts.and_t ?_ (Facts.enters)
  refine Facts.and_t ?_ (Facts.heard)
  refine Facts.and_t ?_ (rfl)
  refine Facts.and_t ?_ (by show (true == Tryz.prog.plainKeys) = true; rw [Facts.keys]; rfl)
  refine Facts.and_t ?_ (by as_aux_lemma => kernel_rfl)
  refine Facts.and_t ?_ (by as_aux_lemma => kernel_rfl)
  refine Facts.and_t ?_ (by as_aux_lemma => kernel_rfl)
  refine Facts.and_t ?_ (by as_aux_lemma => kernel_rfl)
  refine Facts.and_t ?_ (by as_aux_lemma => kernel_rfl)
  refine Facts.and_t ?_ (by as_aux_lemma => kernel_rfl)
  refine Facts.and_t ?_ (by as_aux_lemma => kernel_rfl)
  refine Facts.and_t ?_ (by as_aux_lemma => kernel_rfl)
  refine Facts.and_t ?_ (by as_aux_lemma => kernel_rfl)
  refine Facts.and_t ?_ (by as_aux_lemma => kernel_rfl)
  refine Facts.and_t ?_ (by as_aux_lemma => kernel_rfl)
  refine Facts.and_t ?_ (by as_aux_lemma => kernel_rfl)
  refine Facts.and_t ?_ (by as_aux_lemma => kernel_rfl)
  refine Facts.and_t ?_ (by as_aux_lemma => kernel_rfl)
  refine Facts.and_t ?_ (by as_aux_lemma => kernel_rfl)
  refine Facts.and_t ?_ (by as_aux_lemma => kernel_rfl)
  refine Facts.and_t ?_ (by as_aux_lemma => kernel_rfl)
  refine Facts.and_t ?_ (by as_aux_lemma => kernel_rfl)
  refine Facts.and_t ?_ (by as_aux_lemma => kernel_rfl)
  refine Facts.and_t ?_ (Facts.rowed)
  refine Facts.and_t ?_ (Facts.laidOut)
  kernel_rfl

theorem over : Rows.fnPutAllRow.holds Tryz.pinned (OpenSpec.ofChange Rows.fnPutAllSpec) :=
  OpenClaim.holds_of_wide_leaving 3 Tryz.f3 rfl rfl rfl rfl rfl rfl rfl ⟨rfl, rfl, rfl, rfl, rfl⟩ rfl rfl rfl rfl rfl (by kernel_rfl) Tryz.func3 facts
    (of_decide_eq_true (by kernel_rfl)) (by unfold Func.isWrapper; first | (rw [if_pos (by decide +kernel)]; kernel_rfl) | (rw [if_neg (by decide +kernel)]; exact ⟨rfl, rfl⟩))
    (fun os started H enc _ => Lv.leave_of (lifted os started H enc))

end Go.Proofs.YtogfelpdgeionaaGreat.PutAll
namespace Go.Proofs.YtogfelpdgeionaaGreat
theorem fnPutAll_holds : Rows.FnPutAllSaid := PutAll.over
end Go.Proofs.YtogfelpdgeionaaGreat
