/-
  What is written last is read: so it is of a drawn store. The given statement, with no condition.
-/
import Derived.Test.YtiplhdcapnboaaaPx
import Derived.Test.YtiplhdcapnboaaaPlE
import Derived.Test.YtiplhdcapnboaaaImplX
import Derived.Test.YtiplhdcapnboaaaPz
import Derived.Test.YtiplhdcapnboaaaFacts
import Derived.Lib.SmallJoins
namespace Go.Proofs.Ytiplhdcapnboaaa.ReadWrite
open Go.ChangeShapes Go.WideShapes Go.ChangeAt Go.RowKit Go.Shelf Go.Joins OkA Big Fl ImplB ImplF ImplS ImplT ImplU SpecA SpecB SpecC SpecD SpecW SpecX SpecF SpecG SpecH FindP FindN FindO FindD ImplW ImplX Pick Draw ClA DrB PlB Pl FindL StA StB StC StD StE StF StG SpS SpT DrS Sv LqI Py Pz PlC PlD FindO Px NwA LqI Sn9 ImplL Kp DoA
open FlB (FsN)
open StN (SN)
open Facts (own laidOut)
set_option linter.unusedVariables false
set_option linter.unusedSimpArgs false
attribute [local go_sem ↓] Go.wp_at_zero Go.wp_at_succ

set_option maxRecDepth 100000 in
set_option maxHeartbeats 8000000 in
theorem walk (a0 : Option Addr) (len0 cap0 : Nat) (z0 : List Int) (a1 : Option Addr) (len1 cap1 : Nat) (z1 : List Int) (w : World) (h0 : IsRow .u8 w a0 len0 cap0 z0) (h1 : IsRow .u8 w a1 len1 cap1 z1) :
    Calls Try.prog 18 #[.slice a0 len0 cap0, .slice a1 len1 cap1] w fun e w' => e = .returned (.bool true) ∧ Below w.heap.size w w' := by
  have HD := hide (drawSread_any w a0 len0 cap0 z0 h0)
  clear h0
  clear h1
  go_enter Try.func18, Try.ntmps18
  by_cases hbig0 : 1048576 < (len0 : Int)
  · go_wp2
    go_ret
    exact ⟨rfl, Below.refl _ _⟩
  by_cases hbig1 : 1048576 < (len1 : Int)
  · go_wp2
    go_ret
    exact ⟨rfl, Below.refl _ _⟩
  go_wp2_with fail
  refine (unhide HD).mono ?_
  rintro e w1 ⟨g, o, c, bs, d, z, dc, dk, k, rfl, S1, hc4, k0, k1, B⟩
  have h4 := S1.fs.four
  have h6 := S1.six
  have hp4 := hide S1.fs.pgs
  have hs := S1.at
  clear HD S1
  generalize (some ⟨g, o, none⟩ : Option Addr) = fa at *
  generalize (some ⟨d, z, none⟩ : Option Addr) = da at *
  have bA : Below w1.heap.size w1 (w1.alloc (.cells #[.slice fa bs.length c, .slice da dk.length dc] 54)) := (Below.refl _ _).alloc (Nat.le_refl _) _
  have bx := Bx.new w1 (.slice fa bs.length c) (.slice da dk.length dc) 54
  replace hs := hs.below bA
  replace B := B.trans (bA.mono B.size)
  clear bA hc4
  have y0 := bx.c0
  have y1 := bx.c1
  have HIR := hide (fun (w' : World) (h : SAt w' fa bs da dk) => iRead k (fc := c) (dc := dc)  w' h h4 h6)
  have HSR := hide (fun (w' : World) (h : SAt w' fa bs da dk) => sRead k (fc := c) (dc := dc)  w' h h4 h6 (unhide hp4))
  have HSO := hide (fun (w' : World) (h : SAt w' fa bs da dk) => sOk (fc := c) (dc := dc)  w' h h4 h6 (unhide hp4))
  have HIA := hide (fun (w' : World) (h : SAt w' fa bs da dk) => iAll (fc := c) (dc := dc)  w' h h4 h6)
  have HSS := hide (show (Try.prog.info? 54).map (·.size) = some 2 by kernel_rfl)
  have HDK := hide (fun (h : stB bs dk = true) => (st_parts h).2)
  have HOK := hide (fun (h : stB bs dk = true) => (st_parts h).1)
  have HAL := hide (fun (h : stB bs dk = true) => al_len h)
  have HOP := hide (fun (w' : World) (h : SAt w' fa bs da dk) => implOpen_any fa c bs w' h.fs (by omega))
  have HIN := hide (fun (w' : World) (h : SAt w' fa bs da dk) => implNext_any fa c bs w' h.fs (by omega))
  have HWR := hide (fun (h : stB bs dk = true) (kb : Nat) (hop : fopR bs = ((kb : Int), true)) (hk : kb < 4) (hc : 0 < cN bs kb) (hn : nextR bs ≤ 600) (v : Int) (h0 : 0 ≤ v) (h9 : v ≤ 9) (q6 : k ≤ 6) => wr_of (bs := bs) (dk := dk) h hop hk hc hn (a := k) (v := v) 1 (by omega) (by omega) k0 q6 h0 h9)
  have HWI := hide (fun (kb n vv : Int) (w' : World) (h : SAt w' fa bs da dk) => implWrite_any fa c kb 1 n k vv false bs w' h.fs (by omega))
  generalize hv : rdS bs dk k = v at *
  clear hv
  generalize nextR bs = n at *
  have hvv : (v != v) = false := by simp
  have hve : (v == v) = true := by simp
  go_wp2_with fail
  generalize w1.alloc (.cells #[.slice fa bs.length c, .slice da dk.length dc] 54) = w2 at *
  generalize w1.heap.size = sb at *
  refine (unhide HIR _ hs).mono ?_
  rintro e u1 ⟨rfl, b⟩
  replace hs := hs.below b
  replace bx := bx.below b
  clear y0 y1
  have y0 := bx.c0
  have y1 := bx.c1
  replace B := B.trans (b.mono B.size)
  clear b
  go_wp2_with fail
  refine (unhide HSR _ hs).mono ?_
  rintro e u2 ⟨rfl, b⟩
  replace hs := hs.below b
  replace bx := bx.below b
  clear y0 y1
  have y0 := bx.c0
  have y1 := bx.c1
  replace B := B.trans (b.mono B.size)
  clear b
  go_wp2_with fail
  refine (unhide HSO _ hs).mono ?_
  rintro e u3 ⟨rfl, b⟩
  replace hs := hs.below b
  replace bx := bx.below b
  clear y0 y1
  have y0 := bx.c0
  have y1 := bx.c1
  replace B := B.trans (b.mono B.size)
  clear b
  cases hst : stB bs dk
  · go_wp2_with fail
    refine (unhide HSR _ hs).mono ?_
    rintro e u4 ⟨rfl, b⟩
    replace hs := hs.below b
    replace bx := bx.below b
    clear y0 y1
    have y0 := bx.c0
    have y1 := bx.c1
    replace B := B.trans (b.mono B.size)
    clear b
    go_wp2
    go_ret
    exact ⟨rfl, B⟩
  by_cases hk : ¬ k ≤ 6
  · have hk7 : ¬ k ≤ 6 := hk
    go_wp2_with fail
    refine (unhide HSR _ hs).mono ?_
    rintro e u5 ⟨rfl, b⟩
    replace hs := hs.below b
    replace bx := bx.below b
    clear y0 y1
    have y0 := bx.c0
    have y1 := bx.c1
    replace B := B.trans (b.mono B.size)
    clear b
    go_wp2
    go_ret
    exact ⟨rfl, B⟩
  replace hk : k ≤ 6 := by omega
  have hok := unhide HOK hst
  clear HIR HSR HSO HOK hvv hve
  rcases fop_cases hok with ⟨e, _⟩ | ⟨kb, hkb, e, hc⟩
  · have HOP2 := hide (fun (w' : World) (h : SAt w' fa bs da dk) => unhide HOP w' h)
    rw [e] at HOP2
    go_wp2_with fail
    refine (unhide HOP2 _ hs).mono ?_
    rintro e u6 ⟨rfl, b⟩
    replace hs := hs.below b
    replace bx := bx.below b
    clear y0 y1
    have y0 := bx.c0
    have y1 := bx.c1
    replace B := B.trans (b.mono B.size)
    clear b
    go_wp2_with fail
    refine (unhide HIN _ hs).mono ?_
    rintro e u7 ⟨rfl, b⟩
    replace hs := hs.below b
    replace bx := bx.below b
    clear y0 y1
    have y0 := bx.c0
    have y1 := bx.c1
    replace B := B.trans (b.mono B.size)
    clear b
    go_wp2
    go_ret
    exact ⟨rfl, B⟩
  have HOP2 := hide (fun (w' : World) (h : SAt w' fa bs da dk) => unhide HOP w' h)
  rw [e] at HOP2
  go_wp2_with fail
  refine (unhide HOP2 _ hs).mono ?_
  rintro e u8 ⟨rfl, b⟩
  replace hs := hs.below b
  replace bx := bx.below b
  clear y0 y1
  have y0 := bx.c0
  have y1 := bx.c1
  replace B := B.trans (b.mono B.size)
  clear b
  go_wp2_with fail
  refine (unhide HIN _ hs).mono ?_
  rintro e u9 ⟨rfl, b⟩
  replace hs := hs.below b
  replace bx := bx.below b
  clear y0 y1
  have y0 := bx.c0
  have y1 := bx.c1
  replace B := B.trans (b.mono B.size)
  clear b
  by_cases h600 : 600 < n
  · go_wp2
    go_ret
    exact ⟨rfl, B⟩
  obtain ⟨vv, hv1, hv2, hv3, hv4⟩ : ∃ v : Int, (len1 : Int).tmod 10 = v ∧ (len1 : Int) % 10 = v ∧ 0 ≤ v ∧ v ≤ 9 := ⟨(len1 : Int) % 10, by rw [Int.tmod_eq_emod_of_nonneg (by omega)], rfl, by omega, by omega⟩
  have HW := hide (unhide HWR hst kb e hkb hc (by omega) vv hv3 hv4 hk)
  have HST := hide ((unhide HW).st hst false (fun q => by omega))
  have HALX := hide ((unhide HW).al hst (fun q => by omega))
  have HXI := hide (fun (w' : World) (h : SAt w' fa bs da dk) => unhide HWI kb n vv w' h)
  rw [((unhide HW).res false).1, (unhide HW).yes.1] at HXI
  have hXl : (wrL bs kb (pgW false 1 n k vv)).length ≤ 4 := by simp [wrL]; exact h4
  have hl6 := hide (unhide HAL hst)
  clear HW HWR HWI HOP HOP2 e hc hok HIN
  generalize wrL bs kb (pgW false 1 n k vv) = XL at *
  generalize alS bs dk = LL at *
  go_wp2_with fail
  refine (unhide HXI _ hs).mono ?_
  rintro e x1 ⟨xv, rfl, X, b⟩
  replace hs := hs.below b
  replace bx := bx.below b
  clear y0 y1
  have y0 := bx.c0
  have y1 := bx.c1
  replace B := B.trans (b.mono B.size)
  clear b
  obtain ⟨xa, xc, rfl, hx⟩ := Own.NewFs.form X
  clear X
  have hX : SAt x1 xa XL da dk := ⟨hx, hs.ds⟩
  have b : Below x1.heap.size x1 (x1.alloc (.cells #[.slice xa XL.length xc, .slice da dk.length dc] 54)) := (Below.refl _ _).alloc (Nat.le_refl _) _
  have bn := Bx.new x1 (.slice xa XL.length xc) (.slice da dk.length dc) 54
  replace hX := hX.below b
  replace hs := hs.below b
  replace bx := bx.below b
  have y8 := bx.c0
  have y9 := bx.c1
  replace B := B.trans (b.mono B.size)
  clear b hx
  have HXO := hide (fun (w' : World) (h : SAt w' xa XL da dk) => iOk (fc := xc) (dc := dc) w' h hXl h6)
  rw [unhide HST] at HXO
  have HXA := hide (fun (w' : World) (h : SAt w' xa XL da dk) => iAll2 (fc := xc) (dc := dc) w' h hXl h6)
  rw [unhide HALX] at HXA
  go_wp2_with fail
  generalize x1.alloc (.cells #[.slice xa XL.length xc, .slice da dk.length dc] 54) = x2 at *
  generalize x1.heap.size = nb at *
  refine (unhide HIA _ hs).mono ?_
  rintro e x3 ⟨lv, rfl, hN, b⟩
  have hl6' := unhide hl6
  rcases hN with ⟨hq, _⟩ | ⟨lg, lc, rfl, l0, l1, cL⟩
  · rw [hq] at hl6'; cases hl6'
  obtain ⟨q, rfl, hq⟩ : ∃ q : Nat, k = (q : Int) + 1 ∧ q < 6 := ⟨(k - 1).toNat, by omega, by omega⟩
  rw [show ((q : Int) + 1 - 1).toNat = q by omega] at HXA
  have cc := isC_at cL.cells q (by omega)
  rw [Nat.zero_add] at cc
  have cf := cL.frozen q (by rw [len_isC]; omega)
  have cS := cL.setInt (k := q) (by omega) vv
  have b2 : Below x2.heap.size x2 (x3.setCell ⟨lg, q, none⟩ (.int .i64 vv)) := ((Kept.of (L := []) b).setCell (p := ⟨lg, q, none⟩) (.inr l0) _).all (by simp)
  replace hX := hX.below b2
  replace bn := bn.below b2
  replace B := B.trans (b2.mono B.size)
  have n0 := bn.c0
  have n1 := bn.c1
  have hql : (q : Int) < (LL.length : Int) := by omega
  have hq0 : (0 : Int) ≤ (q : Int) := by omega
  have hqq : (q : Int) + 1 - 1 = q := by omega
  have HQ := hide (fun (a1 a2 : Option Addr) (c1 c2 : Nat) (w' : World) (h1 : DkAt w' a1 (LL.set q vv)) (h2 : DkAt w' a2 (LL.set q vv)) => lqSame a1 a2 c1 c2 (LL.set q vv) w' h1 h2 (by simp; omega))
  have hLs : (LL.set q vv).length = LL.length := by simp
  clear hl6' b2 b cL hs bx y0 y1 y8 y9
  go_upto_region 16 with fail
  generalize x3.setCell ⟨lg, q, none⟩ (.int .i64 vv) = x4 at *
  clear cc cf
  go_wp2_with fail
  refine (unhide HXO _ hX).mono ?_
  rintro e x5 ⟨rfl, b⟩
  replace hX := hX.below b
  replace bn := bn.below b
  have hD : DkAt x5 (some ⟨lg, 0, none⟩) (LL.set q vv) := (show DkAt x4 (some ⟨lg, 0, none⟩) (LL.set q vv) from .inr ⟨lg, 0, rfl, cS.cells⟩).below b
  replace B := B.trans (b.mono B.size)
  clear b n0 n1 cS
  have n0 := bn.c0
  have n1 := bn.c1
  go_wp2_with fail
  refine (unhide HXA _ hX).mono ?_
  rintro e x6 ⟨za, zc, rfl, hz, b⟩
  replace hD := hD.below b
  replace B := B.trans (b.mono B.size)
  clear b n0 n1
  rw [hLs]
  rw [hLs] at HQ
  go_wp2_with fail
  refine (unhide HQ _ _ _ _ _ hz hD).mono ?_
  rintro e x7 ⟨rfl, b⟩
  replace B := B.trans (b.mono B.size)
  go_wp2
  go_ret
  exact ⟨rfl, B⟩


set_option maxRecDepth 100000 in
theorem lifted (os : Os) (started : os.Started) (H : Type) (enc : TypeId × Value → H) :
    ReturnsInHanded {} Try.checked os 18 .any (Rows.fnReadWriteSpec.pre6 enc Try.prog Try.f18 Rows.fnReadWriteRow.domain false) (Rows.fnReadWriteSpec.post enc Try.prog Try.f18 false true false false) := by
  refine returnsInHanded_of_change (C := Try.checked) own started (by kernel_rfl) Try.func18
    (ChangeSpec.witness6 (enc := enc) (C := Try.checked) false ⟨#[], #[.slice none 0 0, .slice none 0 0], []⟩ 8 (by kernel_rfl) (by kernel_rfl) (by kernel_rfl) (by kernel_rfl)) ?_
  intro W base args ds gs before hval0 hW hcnd _
  have hval : ∀ (j : Nat) t v, Try.f18.params[j]? = some t → args[j]? = some v → Value.okWide Try.prog W .any base t v := hval0
  have hW' := hW
  obtain ⟨p, q, hA0, hV, rfl, hfz, hnd⟩ := hW
  have hA : DataW.TrodAll enc Try.prog W 0 (fun _ => true) true Try.f18.params.toList args.toList ds p := hA0
  rw [Try.params18] at hA hval
  obtain ⟨v0, vs0, d0, ds0, p0, q0, hargs, rfl, rfl, h0, r0⟩ := trodAll_cons hA
  obtain ⟨v1, vs1, d1, ds1, p1, q1, rfl, rfl, rfl, h1, r1⟩ := trodAll_cons r0
  obtain ⟨rfl, rfl, rfl⟩ := trodAll_nil r1
  obtain rfl : args = #[v0, v1] := by cases args; simp_all
  obtain ⟨rfl, rfl⟩ := trodVars_none hV
  have kk0 := h0
  have lt0 : ∀ x ∈ p0, x.block < W.heap.size := by obtain ⟨m, hm⟩ := kk0; exact DataW.trod_lt m _ _ _ hm
  obtain ⟨a0, len0, cap0, rfl⟩ := okWide_slice Try.underlying22 (hval 0 22 v0 rfl rfl)
  obtain ⟨z0, w0⟩ : ∃ zs, IsRow .u8 W a0 len0 cap0 zs := by
    obtain ⟨fuel, hf⟩ := h0
    rcases open_ints Try.underlying22 Try.underlying5 (by kernel_rfl) hf with ⟨hcs, _⟩ | ⟨x, l, c, zs, hcs, _, hl, hm, hz, _, hcell, hwz⟩
    · simp [Value.cells] at hcs
      obtain ⟨rfl, rfl, rfl⟩ := hcs
      exact ⟨[], .inl ⟨rfl, rfl, rfl, rfl⟩⟩
    · simp [Value.cells] at hcs
      obtain ⟨rfl, rfl, rfl⟩ := hcs
      exact ⟨zs, .inr ⟨_, rfl, hl, hm, by simpa using hz, hcell, hwz⟩⟩
  have kk1 := h1
  have lt1 : ∀ x ∈ p1, x.block < W.heap.size := by obtain ⟨m, hm⟩ := kk1; exact DataW.trod_lt m _ _ _ hm
  obtain ⟨a1, len1, cap1, rfl⟩ := okWide_slice Try.underlying22 (hval 1 22 v1 rfl rfl)
  obtain ⟨z1, w1⟩ : ∃ zs, IsRow .u8 W a1 len1 cap1 zs := by
    obtain ⟨fuel, hf⟩ := h1
    rcases open_ints Try.underlying22 Try.underlying5 (by kernel_rfl) hf with ⟨hcs, _⟩ | ⟨x, l, c, zs, hcs, _, hl, hm, hz, _, hcell, hwz⟩
    · simp [Value.cells] at hcs
      obtain ⟨rfl, rfl, rfl⟩ := hcs
      exact ⟨[], .inl ⟨rfl, rfl, rfl, rfl⟩⟩
    · simp [Value.cells] at hcs
      obtain ⟨rfl, rfl, rfl⟩ := hcs
      exact ⟨zs, .inr ⟨_, rfl, hl, hm, by simpa using hz, hcell, hwz⟩⟩
  clear hA0
  refine (walk a0 len0 cap0 z0 a1 len1 cap1 z1 W w0 w1).mono fun e W' ⟨he, bel⟩ => ?_
  subst he
  exact ⟨_, rfl, _, _, _, [], _, [], hW', trodAll_mk1 (shut_bool Try.underlying4 _), (trodAll_cons_mk (Below.trod laidOut (by kernel_rfl) (of_decide_eq_true (by kernel_rfl)) kk0 bel lt0) (trodAll_cons_mk (Below.trod laidOut (by kernel_rfl) (of_decide_eq_true (by kernel_rfl)) kk1 bel lt1) trodAll_mk0)), rfl, bel.frame _, fun h => by cases h⟩

set_option maxRecDepth 100000 in
theorem facts : joinedFacts Try.prog 18 Try.f18 Rows.fnReadWriteSpec Rows.fnReadWriteRow = true := by
  unfold joinedFacts
  refine Facts.and_t ?_ (by as_aux_lemma => kernel_rfl)
  refine Facts.and_t ?_ (by as_aux_lemma => kernel_rfl)
  refine Facts.and_t ?_ (by as_aux_lemma => kernel_rfl)
  refine Facts.and_t ?_ (by as_aux_lemma => kernel_rfl)
  refine Facts.and_t ?_ (by show (Try.prog.make == some Make.cut) = true; rw [Facts.made]; rfl)
  refine Facts.and_t ?_ (by show (false == Try.prog.liftsFinal) = true; rw [Facts.lifts]; rfl)
  refine Facts.and_t ?_ (Facts.enters)
  refine Facts.and_t ?_ (Facts.heard)
  refine Facts.and_t ?_ (rfl)
  refine Facts.and_t ?_ (by show (true == Try.prog.plainKeys) = true; rw [Facts.keys]; rfl)
  refine Facts.and_t ?_ (by as_aux_lemma => kernel_rfl)
  refine Facts.and_t ?_ (by as_aux_lemma => kernel_rfl)
  refine Facts.and_t ?_ (by as_aux_lemma => kernel_rfl)
  refine Facts.and_t ?_ (by as_aux_lemma => kernel_rfl)
  refine Facts.and_t ?_ (by as_aux_lemma => kernel_rfl)
  refine Facts.and_t ?_ (by as_aux_lemma => kernel_rfl)
  refine Facts.and_t ?_ (by as_aux_lemma => kernel_rfl)
  refine Facts.and_t ?_ (by as_aux_lemma => kernel_rfl)
  refine Facts.and_t ?_ (by as_aux_lemma => kernel_rfl)
  refine Facts.and_t ?_ (by as_aux_lemma => kernel_rfl)
  refine Facts.and_t ?_ (by as_aux_lemma => kernel_rfl)
  refine Facts.and_t ?_ (by as_aux_lemma => kernel_rfl)
  refine Facts.and_t ?_ (by as_aux_lemma => kernel_rfl)
  refine Facts.and_t ?_ (by as_aux_lemma => kernel_rfl)
  refine Facts.and_t ?_ (by as_aux_lemma => kernel_rfl)
  refine Facts.and_t ?_ (by as_aux_lemma => kernel_rfl)
  refine Facts.and_t ?_ (by as_aux_lemma => kernel_rfl)
  refine Facts.and_t ?_ (by as_aux_lemma => kernel_rfl)
  refine Facts.and_t ?_ (by as_aux_lemma => kernel_rfl)
  refine Facts.and_t ?_ (Facts.rowed)
  refine Facts.and_t ?_ (Facts.laidOut)
  kernel_rfl

theorem over : Rows.fnReadWriteRow.holds Try.pinned (OpenSpec.ofChange Rows.fnReadWriteSpec) :=
  OpenClaim.holds_of_wide 18 Try.f18 rfl rfl rfl rfl rfl rfl rfl ⟨rfl, rfl, rfl, rfl, rfl⟩ rfl rfl rfl rfl rfl (by kernel_rfl) Try.func18 facts
    (of_decide_eq_true (by kernel_rfl)) (by unfold Func.isWrapper; first | (rw [if_pos (by decide +kernel)]; kernel_rfl) | (rw [if_neg (by decide +kernel)]; exact ⟨rfl, rfl⟩))
    (fun os started H enc _ => lifted os started H enc)

end Go.Proofs.Ytiplhdcapnboaaa.ReadWrite
namespace Go.Proofs.Ytiplhdcapnboaaa
theorem fnReadWrite_holds : Rows.FnReadWriteSaid := ReadWrite.over
end Go.Proofs.Ytiplhdcapnboaaa
