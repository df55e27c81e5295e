/-
  What is drawn of plays: a store and an event.
-/
import Derived.Test.YtbiokmojjneleaaGreatRcQ
namespace Go.Proofs.YtbiokmojjneleaaGreat.PyF
open Go.ChangeShapes Go.WideShapes Go.ChangeAt Go.RowKit Go.Shelf Big Fl ImplF ImplL Kp StA RmA DoA AlA DpA NwA Pick Draw EvA ImplB ImplS ImplU SpecC SpecD SpecW ImplW PyA FlB ClA DrB StB StG StN Fu DrF PaA EvL EvS PyE
set_option linter.unusedVariables false
set_option linter.unusedSimpArgs false
attribute [local go_sem ↓] Go.wp_at_zero Go.wp_at_succ

theorem res_cc {P : Program} {fn : Func} {p q : Tmp} {ty ty2 : TypeId} (h : fn.results = #[.cell p ty, .cell q ty2]) (tmps : Array Value) (w : World) (g : Nat) (cs : List Value) (d : TypeDesc) (g2 : Nat) (cs2 : List Value) (d2 : TypeDesc)
    (hp : tmps.getD p undef = .pointer (some ⟨g, 0, none⟩)) (hg : w.rangeAt g 0 cs) (hu : P.underlying ty = some d) (hd : d.isRow = true) (hi : (P.info? ty).map (·.size) = some cs.length)
    (hp2 : tmps.getD q undef = .pointer (some ⟨g2, 0, none⟩)) (hg2 : w.rangeAt g2 0 cs2) (hu2 : P.underlying ty2 = some d2) (hd2 : d2.isRow = true) (hi2 : (P.info? ty2).map (·.size) = some cs2.length) :
    (results fn tmps).run P w = .ok (.tuple #[.agg cs.toArray, .agg cs2.toArray]) w := by
  have hp' : tmps[p]?.getD undef = .pointer (some ⟨g, 0, none⟩) := by simpa using hp
  have hp2' : tmps[q]?.getD undef = .pointer (some ⟨g2, 0, none⟩) := by simpa using hp2
  simp [results, h, hp', hp2', asAddr, run_loadVar_mid w g 0 ty cs d hg hu hd hi, run_loadVar_mid w g2 0 ty2 cs2 d2 hg2 hu2 hd2 hi2]
/-- A store and an event that are drawn. -/
def DePost (w : World) (e : Ending) (w' : World) : Prop := ∃ g o c bs d z dc dk, ∃ x : Ev, e = .returned (.tuple #[.agg #[.slice (some ⟨g, o, none⟩) bs.length c, .slice (some ⟨d, z, none⟩) dk.length dc], .agg #[.int .i64 x.k, .int .i64 x.a, .int .i64 x.b, .int .i64 x.c, .bool x.t]]) ∧ SN w.heap.size w' g o bs d z dk ∧ (-1 ≤ x.k ∧ x.k ≤ 5 ∧ 0 ≤ x.a ∧ x.a ≤ 7 ∧ 0 ≤ x.b ∧ x.b ≤ 9 ∧ -1 ≤ x.c ∧ x.c ≤ 9) ∧ Below w.heap.size w w'

set_option maxRecDepth 100000 in
set_option maxHeartbeats 4000000 in
theorem drawDo_any (w : World) (a : Option Addr) (len cap : Nat) (zs : List Int) (h : IsRow .u8 w a len cap zs) :
    Calls Tryz.prog 26 #[.slice a len cap] w fun e w' => DePost w e w' := by
  have bZ : Below w.heap.size w ((w.alloc (.cells #[.slice none 0 0, .slice none 0 0] 26)).alloc (.cells #[.int .i64 0, .int .i64 0, .int .i64 0, .int .i64 0, .bool false] 42)) := ((Below.refl _ _).alloc (Nat.le_refl _) _).alloc (by simp) _
  have cZ := (CsAt.new w [.slice none 0 0, .slice none 0 0] 26).alloc (by simp) (.cells #[.int .i64 0, .int .i64 0, .int .i64 0, .int .i64 0, .bool false] 42)
  have cY := CsAt.new (w.alloc (.cells #[.slice none 0 0, .slice none 0 0] 26)) [.int .i64 0, .int .i64 0, .int .i64 0, .int .i64 0, .bool false] 42
  rw [World.size_alloc] at cY
  have hsz : w.heap.size + 2 ≤ ((w.alloc (.cells #[.slice none 0 0, .slice none 0 0] 26)).alloc (.cells #[.int .i64 0, .int .i64 0, .int .i64 0, .int .i64 0, .bool false] 42)).heap.size := by simp
  have HO := hide (open_any _ a len cap zs (isRow_below h bZ))
  have HSS := hide (show (Tryz.prog.info? 26).map (·.size) = some 2 by kernel_rfl)
  have HSE := hide (show (Tryz.prog.info? 42).map (·.size) = some 5 by kernel_rfl)
  clear h
  go_enter Tryz.func26, Tryz.ntmps26
  go_wp2_with fail
  generalize (w.alloc (.cells #[.slice none 0 0, .slice none 0 0] 26)).alloc (.cells #[.int .i64 0, .int .i64 0, .int .i64 0, .int .i64 0, .bool false] 42) = wA at *
  refine (unhide HO).mono ?_
  rintro e w1 ⟨rfl, len', hl', hrow, d1⟩
  have hlt := d1.lt
  clear HO
  go_wp2_with fail
  refine (full_any wA wA w1 wA.heap.size a len' cap 0 hrow hl' d1 (by omega) (by omega)).mono ?_
  rintro e w2 ⟨g, o, c, bs, d, z, dc, dk, p', rfl, S2, hp0, hp1, d2, k2⟩
  have bB : Below w2.heap.size w2 (w2.alloc (.cells #[.slice (some ⟨g, o, none⟩) bs.length c, .slice (some ⟨d, z, none⟩) dk.length dc] 26)) := (Below.refl _ _).alloc (Nat.le_refl _) _
  have cB := CsAt.new w2 [.slice (some ⟨g, o, none⟩) bs.length c, .slice (some ⟨d, z, none⟩) dk.length dc] 26
  have K3 : Kept [wA.heap.size] w2 (w2.alloc (.cells #[.slice (some ⟨g, o, none⟩) bs.length c, .slice (some ⟨d, z, none⟩) dk.length dc] 26)) := Kept.of bB
  have d3 := rd_kept d2 (L := []) (Kept.of bB) (by simp)
  have lsb : w2.heap.size < (w2.alloc (.cells #[.slice (some ⟨g, o, none⟩) bs.length c, .slice (some ⟨d, z, none⟩) dk.length dc] 26)).heap.size := by simp
  have l2 := k2.size
  clear bB d2 k2
  go_wp2_with fail
  generalize w2.alloc (.cells #[.slice (some ⟨g, o, none⟩) bs.length c, .slice (some ⟨d, z, none⟩) dk.length dc] 26) = w3 at *
  generalize hsb : w2.heap.size = sb at *
  refine (eventD_any wA wA w3 wA.heap.size a len' cap p' hrow hl' d3 (by omega) (by omega)).mono ?_
  rintro e w4 ⟨kd, xx, bb, cc, tn, p2, rfl, hp2, hp3, d4, k4, g1, g2, g3, g4, g5, g6, g7, g8⟩
  have K4 := K3.trans k4
  have cB4 := csAt_kept cB k4 (by omega) (by simp; omega)
  have l4 := k4.size
  clear K3 d3 cB k4
  have bC : Below w4.heap.size w4 (w4.alloc (.cells #[.int .i64 kd, .int .i64 xx, .int .i64 bb, .int .i64 cc, .bool tn] 42)) := (Below.refl _ _).alloc (Nat.le_refl _) _
  have cE := CsAt.new w4 [.int .i64 kd, .int .i64 xx, .int .i64 bb, .int .i64 cc, .bool tn] 42
  have K5 := K4.trans (Kept.of bC)
  have d5 := rd_kept d4 (L := []) (Kept.of bC) (by simp)
  have cB5 := csAt_kept cB4 (L := []) (Kept.of bC) (by omega) (by simp)
  have leb : w4.heap.size < (w4.alloc (.cells #[.int .i64 kd, .int .i64 xx, .int .i64 bb, .int .i64 cc, .bool tn] 42)).heap.size := by simp
  clear bC K4 d4 cB4
  go_wp2_with fail
  generalize w4.alloc (.cells #[.int .i64 kd, .int .i64 xx, .int .i64 bb, .int .i64 cc, .bool tn] 42) = w5 at *
  generalize hse : w4.heap.size = eb at *
  refine (pick_k wA wA w5 wA.heap.size a len' cap p2 20 hrow hl' d5 (by omega) (by omega) (by omega) (by omega)).mono ?_
  rintro e w6 ⟨r, rfl, r0, r1, d6, m6⟩
  have K6 := K5.trans m6
  have cB6 := csAt_kept cB5 m6 (by omega) (by simp; omega)
  have cE6 := csAt_kept cE m6 (by omega) (by simp; omega)
  have l6 := m6.size
  clear K5 d5 cB5 cE m6
  by_cases h0 : r = 0
  · subst h0
    have bL : Below w6.heap.size w6 (w6.alloc (.cells #[.int .i64 0, .int .i64 5, .int .i64 (-1)] 3)) := (Below.refl _ _).alloc (Nat.le_refl _) _
    have cL := CsAt.new w6 [.int .i64 0, .int .i64 5, .int .i64 (-1)] 3
    have KL := K6.trans (Kept.of bL)
    have dL := rd_kept d6 (L := []) (Kept.of bL) (by simp)
    have cBL := csAt_kept cB6 (L := []) (Kept.of bL) (by omega) (by simp)
    have cEL := csAt_kept cE6 (L := []) (Kept.of bL) (by omega) (by simp)
    have lL : w6.heap.size < (w6.alloc (.cells #[.int .i64 0, .int .i64 5, .int .i64 (-1)] 3)).heap.size := by simp
    clear bL K6 d6 cB6 cE6
    go_wp2_with fail
    generalize w6.alloc (.cells #[.int .i64 0, .int .i64 5, .int .i64 (-1)] 3) = wL at *
    generalize w6.heap.size = lb at *
    refine (pick_k wA wA wL wA.heap.size a len' cap (p2 + 1) 3 hrow hl' dL (by omega) (by omega) (by omega) (by omega)).mono ?_
    rintro e w7 ⟨q, rfl, q0, q1, d7, m7⟩
    have K7 := KL.trans m7
    have cB7 := csAt_kept cBL m7 (by omega) (by simp; omega)
    have cE7 := csAt_kept cEL m7 (by omega) (by simp; omega)
    have cL7 := csAt_kept cL m7 (by omega) (by simp; omega)
    have l7 := m7.size
    clear KL dL cBL cEL cL m7
    have hq : q = 0 ∨ q = 1 ∨ q = 2 := by omega
    rcases hq with rfl | rfl | rfl
    · have cl := cL7.cell 0 _ rfl
      have kz := kept_cell w7 eb 0 (.int .i64 0)
      have d8 := rd_kept d7 kz (fun y hy => by simp at hy; omega)
      have cB8 := csAt_kept cB7 kz (by omega) (by simp; omega)
      have cE8 := csAt_set cE7 0 (by simp) (.int .i64 0)
      simp only [List.set_cons_zero, List.set_cons_succ] at cE8
      have K8 := K7.then kz (fun x hx => by simp at hx; subst hx; right; omega)
      have cj := cE7.cell 0 _ rfl
      have fj := cE7.frozen 0 (by simp)
      have l8 := kz.size
      go_upto_region 11 with fail
      generalize w7.setCell ⟨eb, 0, none⟩ (.int .i64 0) = w8 at *
      clear kz cj fj cB7 cE7 d7 K7
      clear cl cL7
      have cB := cB8
      have cE := cE8
      have S9 := SN.kept S2 K8 (fun x hx => by simp at hx; subst hx; exact hlt)
      have d9 := d8
      have b9 := d9.bel
      have B9 := bZ.trans (b9.mono bZ.size)
      have cR := csAt_kept cZ (L := []) (Kept.of b9) (by omega) (by simp)
      have cT := csAt_kept cY (L := []) (Kept.of b9) (by omega) (by simp)
      have lwA := b9.size
      skip
      refine wp_region_noPanic ?_
      refine wp_region_held_drew (S := fun w' => Kept [w.heap.size, w.heap.size + 1] w8 w') (by kernel_rfl) (Kept.refl _ _).drew (fun hHeld => ?_)
      replace cR := OrdL.ckept cR (L := []) (Kept.refl [] w8).drew (CsAt.lt cR (by first | (simp; done) | assumption)) (by simp)
      replace cT := OrdL.ckept cT (L := []) (Kept.refl [] w8).drew (CsAt.lt cT (by first | (simp; done) | assumption)) (by simp)
      generalize w8.drew = y0 at *
      have z0 := hHeld.size
      refine takeL 0 (.agg #[.slice (some ⟨g, o, none⟩) bs.length c, .slice (some ⟨d, z, none⟩) dk.length dc]) rfl (by kernel_rfl) (by kernel_rfl) (by kernel_rfl) (fun _ _ _ h => h) (yieldsIf_load_mid rfl 26 _ rfl sb 0 rfl [.slice (some ⟨g, o, none⟩) bs.length c, .slice (some ⟨d, z, none⟩) dk.length dc] _ (fun _ h => (csAt_kept cB h (by omega) (by simp; omega)).cells) Tryz.underlying26 rfl (unhide HSS)) hHeld ?_
      try simp only [Act.put, List.setIfInBounds_toArray, List.set_cons_zero, List.set_cons_succ]
      refine takeL 1 (.agg #[.int .i64 0, .int .i64 xx, .int .i64 bb, .int .i64 cc, .bool tn]) rfl (by kernel_rfl) (by kernel_rfl) (by kernel_rfl) (fun _ _ _ h => h) (yieldsIf_load_mid rfl 42 _ rfl eb 0 rfl [.int .i64 0, .int .i64 xx, .int .i64 bb, .int .i64 cc, .bool tn] _ (fun _ h => (csAt_kept cE h (by omega) (by simp; omega)).cells) Tryz.underlying42 rfl (unhide HSE)) hHeld ?_
      try simp only [Act.put, List.setIfInBounds_toArray, List.set_cons_zero, List.set_cons_succ]
      refine oneL 2 rfl (by kernel_rfl) rfl (fun K hK => ?_)
      have pcR := cR.put [.slice (some ⟨g, o, none⟩) bs.length c, .slice (some ⟨d, z, none⟩) dk.length dc] rfl
      have kz := OrdL.kcells y0 w.heap.size 0 [.slice (some ⟨g, o, none⟩) bs.length c, .slice (some ⟨d, z, none⟩) dk.length dc]
      refine wp_store_mid 26 _ _ rfl w.heap.size 0 [.slice (some ⟨g, o, none⟩) bs.length c, .slice (some ⟨d, z, none⟩) dk.length dc].toArray rfl rfl cR.free (unhide HSS) (by kernel_rfl) ?_
      refine hK.out _ _ (hHeld.then kz (fun y hy => by simp at hy; subst hy; first | (left; simp; done) | (right; omega))) (fun hHeld => ?_)
      clear hK K
      try simp only [Act.put, List.setIfInBounds_toArray, List.set_cons_zero, List.set_cons_succ]
      replace cT := OrdL.ckept cT kz (CsAt.lt cT (by simp)) (by first | (simp; done) | (simp; omega))
      clear cR kz
      generalize y0.setCells w.heap.size 0 [.slice (some ⟨g, o, none⟩) bs.length c, .slice (some ⟨d, z, none⟩) dk.length dc] = y1 at *
      have cR := pcR
      clear pcR
      refine oneL 3 rfl (by kernel_rfl) rfl (fun K hK => ?_)
      have pcT := cT.put [.int .i64 0, .int .i64 xx, .int .i64 bb, .int .i64 cc, .bool tn] rfl
      have kz := OrdL.kcells y1 (w.heap.size + 1) 0 [.int .i64 0, .int .i64 xx, .int .i64 bb, .int .i64 cc, .bool tn]
      refine wp_store_mid 42 _ _ rfl (w.heap.size + 1) 0 [.int .i64 0, .int .i64 xx, .int .i64 bb, .int .i64 cc, .bool tn].toArray rfl rfl cT.free (unhide HSE) (by kernel_rfl) ?_
      refine hK.out _ _ (hHeld.then kz (fun y hy => by simp at hy; subst hy; first | (left; simp; done) | (right; omega))) (fun hHeld => ?_)
      clear hK K
      try simp only [Act.put, List.setIfInBounds_toArray, List.set_cons_zero, List.set_cons_succ]
      replace cR := OrdL.ckept cR kz (CsAt.lt cR (by simp)) (by first | (simp; done) | (simp; omega))
      clear cT kz
      generalize y1.setCells (w.heap.size + 1) 0 [.int .i64 0, .int .i64 xx, .int .i64 bb, .int .i64 cc, .bool tn] = y2 at *
      have cT := pcT
      clear pcT
      refine wpAnyH_done (by kernel_rfl) ?_ _
      refine NoPanic.normal ?_
      have SZ := SN.mono (SN.kept S9 hHeld (fun x hx => by simp at hx; omega)) (show w.heap.size ≤ w1.heap.size by omega)
      have BZ := B9.trans (Below.mono (Kept.below hHeld (B := w.heap.size) (by simp) (by omega)) (Nat.le_refl _))
      clear hHeld S9 B9 cB cE d9 b9
      go_wp2
      refine bodyPost_ret (res_cc Tryz.results26 _ _ w.heap.size [.slice (some ⟨g, o, none⟩) bs.length c, .slice (some ⟨d, z, none⟩) dk.length dc] _ (w.heap.size + 1) [.int .i64 0, .int .i64 xx, .int .i64 bb, .int .i64 cc, .bool tn] _ rfl cR.cells Tryz.underlying26 rfl (by kernel_rfl) rfl cT.cells Tryz.underlying42 rfl (by kernel_rfl)) rfl ?_
      exact ⟨g, o, c, bs, d, z, dc, dk, ⟨0, xx, bb, cc, tn⟩, rfl, SZ, ⟨by show -1 ≤ 0; omega, by show 0 ≤ 5; omega, by show 0 ≤ xx; omega, by show xx ≤ 7; omega, g5, g6, by show -1 ≤ cc; omega, by show cc ≤ 9; omega⟩, BZ⟩
    · have cl := cL7.cell 1 _ rfl
      have kz := kept_cell w7 eb 0 (.int .i64 5)
      have d8 := rd_kept d7 kz (fun y hy => by simp at hy; omega)
      have cB8 := csAt_kept cB7 kz (by omega) (by simp; omega)
      have cE8 := csAt_set cE7 0 (by simp) (.int .i64 5)
      simp only [List.set_cons_zero, List.set_cons_succ] at cE8
      have K8 := K7.then kz (fun x hx => by simp at hx; subst hx; right; omega)
      have cj := cE7.cell 0 _ rfl
      have fj := cE7.frozen 0 (by simp)
      have l8 := kz.size
      go_upto_region 11 with fail
      generalize w7.setCell ⟨eb, 0, none⟩ (.int .i64 5) = w8 at *
      clear kz cj fj cB7 cE7 d7 K7
      clear cl cL7
      have cB := cB8
      have cE := cE8
      have S9 := SN.kept S2 K8 (fun x hx => by simp at hx; subst hx; exact hlt)
      have d9 := d8
      have b9 := d9.bel
      have B9 := bZ.trans (b9.mono bZ.size)
      have cR := csAt_kept cZ (L := []) (Kept.of b9) (by omega) (by simp)
      have cT := csAt_kept cY (L := []) (Kept.of b9) (by omega) (by simp)
      have lwA := b9.size
      skip
      refine wp_region_noPanic ?_
      refine wp_region_held_drew (S := fun w' => Kept [w.heap.size, w.heap.size + 1] w8 w') (by kernel_rfl) (Kept.refl _ _).drew (fun hHeld => ?_)
      replace cR := OrdL.ckept cR (L := []) (Kept.refl [] w8).drew (CsAt.lt cR (by first | (simp; done) | assumption)) (by simp)
      replace cT := OrdL.ckept cT (L := []) (Kept.refl [] w8).drew (CsAt.lt cT (by first | (simp; done) | assumption)) (by simp)
      generalize w8.drew = y0 at *
      have z0 := hHeld.size
      refine takeL 0 (.agg #[.slice (some ⟨g, o, none⟩) bs.length c, .slice (some ⟨d, z, none⟩) dk.length dc]) rfl (by kernel_rfl) (by kernel_rfl) (by kernel_rfl) (fun _ _ _ h => h) (yieldsIf_load_mid rfl 26 _ rfl sb 0 rfl [.slice (some ⟨g, o, none⟩) bs.length c, .slice (some ⟨d, z, none⟩) dk.length dc] _ (fun _ h => (csAt_kept cB h (by omega) (by simp; omega)).cells) Tryz.underlying26 rfl (unhide HSS)) hHeld ?_
      try simp only [Act.put, List.setIfInBounds_toArray, List.set_cons_zero, List.set_cons_succ]
      refine takeL 1 (.agg #[.int .i64 5, .int .i64 xx, .int .i64 bb, .int .i64 cc, .bool tn]) rfl (by kernel_rfl) (by kernel_rfl) (by kernel_rfl) (fun _ _ _ h => h) (yieldsIf_load_mid rfl 42 _ rfl eb 0 rfl [.int .i64 5, .int .i64 xx, .int .i64 bb, .int .i64 cc, .bool tn] _ (fun _ h => (csAt_kept cE h (by omega) (by simp; omega)).cells) Tryz.underlying42 rfl (unhide HSE)) hHeld ?_
      try simp only [Act.put, List.setIfInBounds_toArray, List.set_cons_zero, List.set_cons_succ]
      refine oneL 2 rfl (by kernel_rfl) rfl (fun K hK => ?_)
      have pcR := cR.put [.slice (some ⟨g, o, none⟩) bs.length c, .slice (some ⟨d, z, none⟩) dk.length dc] rfl
      have kz := OrdL.kcells y0 w.heap.size 0 [.slice (some ⟨g, o, none⟩) bs.length c, .slice (some ⟨d, z, none⟩) dk.length dc]
      refine wp_store_mid 26 _ _ rfl w.heap.size 0 [.slice (some ⟨g, o, none⟩) bs.length c, .slice (some ⟨d, z, none⟩) dk.length dc].toArray rfl rfl cR.free (unhide HSS) (by kernel_rfl) ?_
      refine hK.out _ _ (hHeld.then kz (fun y hy => by simp at hy; subst hy; first | (left; simp; done) | (right; omega))) (fun hHeld => ?_)
      clear hK K
      try simp only [Act.put, List.setIfInBounds_toArray, List.set_cons_zero, List.set_cons_succ]
      replace cT := OrdL.ckept cT kz (CsAt.lt cT (by simp)) (by first | (simp; done) | (simp; omega))
      clear cR kz
      generalize y0.setCells w.heap.size 0 [.slice (some ⟨g, o, none⟩) bs.length c, .slice (some ⟨d, z, none⟩) dk.length dc] = y1 at *
      have cR := pcR
      clear pcR
      refine oneL 3 rfl (by kernel_rfl) rfl (fun K hK => ?_)
      have pcT := cT.put [.int .i64 5, .int .i64 xx, .int .i64 bb, .int .i64 cc, .bool tn] rfl
      have kz := OrdL.kcells y1 (w.heap.size + 1) 0 [.int .i64 5, .int .i64 xx, .int .i64 bb, .int .i64 cc, .bool tn]
      refine wp_store_mid 42 _ _ rfl (w.heap.size + 1) 0 [.int .i64 5, .int .i64 xx, .int .i64 bb, .int .i64 cc, .bool tn].toArray rfl rfl cT.free (unhide HSE) (by kernel_rfl) ?_
      refine hK.out _ _ (hHeld.then kz (fun y hy => by simp at hy; subst hy; first | (left; simp; done) | (right; omega))) (fun hHeld => ?_)
      clear hK K
      try simp only [Act.put, List.setIfInBounds_toArray, List.set_cons_zero, List.set_cons_succ]
      replace cR := OrdL.ckept cR kz (CsAt.lt cR (by simp)) (by first | (simp; done) | (simp; omega))
      clear cT kz
      generalize y1.setCells (w.heap.size + 1) 0 [.int .i64 5, .int .i64 xx, .int .i64 bb, .int .i64 cc, .bool tn] = y2 at *
      have cT := pcT
      clear pcT
      refine wpAnyH_done (by kernel_rfl) ?_ _
      refine NoPanic.normal ?_
      have SZ := SN.mono (SN.kept S9 hHeld (fun x hx => by simp at hx; omega)) (show w.heap.size ≤ w1.heap.size by omega)
      have BZ := B9.trans (Below.mono (Kept.below hHeld (B := w.heap.size) (by simp) (by omega)) (Nat.le_refl _))
      clear hHeld S9 B9 cB cE d9 b9
      go_wp2
      refine bodyPost_ret (res_cc Tryz.results26 _ _ w.heap.size [.slice (some ⟨g, o, none⟩) bs.length c, .slice (some ⟨d, z, none⟩) dk.length dc] _ (w.heap.size + 1) [.int .i64 5, .int .i64 xx, .int .i64 bb, .int .i64 cc, .bool tn] _ rfl cR.cells Tryz.underlying26 rfl (by kernel_rfl) rfl cT.cells Tryz.underlying42 rfl (by kernel_rfl)) rfl ?_
      exact ⟨g, o, c, bs, d, z, dc, dk, ⟨5, xx, bb, cc, tn⟩, rfl, SZ, ⟨by show -1 ≤ 5; omega, by show 5 ≤ 5; omega, by show 0 ≤ xx; omega, by show xx ≤ 7; omega, g5, g6, by show -1 ≤ cc; omega, by show cc ≤ 9; omega⟩, BZ⟩
    · have cl := cL7.cell 2 _ rfl
      have kz := kept_cell w7 eb 0 (.int .i64 (-1))
      have d8 := rd_kept d7 kz (fun y hy => by simp at hy; omega)
      have cB8 := csAt_kept cB7 kz (by omega) (by simp; omega)
      have cE8 := csAt_set cE7 0 (by simp) (.int .i64 (-1))
      simp only [List.set_cons_zero, List.set_cons_succ] at cE8
      have K8 := K7.then kz (fun x hx => by simp at hx; subst hx; right; omega)
      have cj := cE7.cell 0 _ rfl
      have fj := cE7.frozen 0 (by simp)
      have l8 := kz.size
      go_upto_region 11 with fail
      generalize w7.setCell ⟨eb, 0, none⟩ (.int .i64 (-1)) = w8 at *
      clear kz cj fj cB7 cE7 d7 K7
      clear cl cL7
      have cB := cB8
      have cE := cE8
      have S9 := SN.kept S2 K8 (fun x hx => by simp at hx; subst hx; exact hlt)
      have d9 := d8
      have b9 := d9.bel
      have B9 := bZ.trans (b9.mono bZ.size)
      have cR := csAt_kept cZ (L := []) (Kept.of b9) (by omega) (by simp)
      have cT := csAt_kept cY (L := []) (Kept.of b9) (by omega) (by simp)
      have lwA := b9.size
      skip
      refine wp_region_noPanic ?_
      refine wp_region_held_drew (S := fun w' => Kept [w.heap.size, w.heap.size + 1] w8 w') (by kernel_rfl) (Kept.refl _ _).drew (fun hHeld => ?_)
      replace cR := OrdL.ckept cR (L := []) (Kept.refl [] w8).drew (CsAt.lt cR (by first | (simp; done) | assumption)) (by simp)
      replace cT := OrdL.ckept cT (L := []) (Kept.refl [] w8).drew (CsAt.lt cT (by first | (simp; done) | assumption)) (by simp)
      generalize w8.drew = y0 at *
      have z0 := hHeld.size
      refine takeL 0 (.agg #[.slice (some ⟨g, o, none⟩) bs.length c, .slice (some ⟨d, z, none⟩) dk.length dc]) rfl (by kernel_rfl) (by kernel_rfl) (by kernel_rfl) (fun _ _ _ h => h) (yieldsIf_load_mid rfl 26 _ rfl sb 0 rfl [.slice (some ⟨g, o, none⟩) bs.length c, .slice (some ⟨d, z, none⟩) dk.length dc] _ (fun _ h => (csAt_kept cB h (by omega) (by simp; omega)).cells) Tryz.underlying26 rfl (unhide HSS)) hHeld ?_
      try simp only [Act.put, List.setIfInBounds_toArray, List.set_cons_zero, List.set_cons_succ]
      refine takeL 1 (.agg #[.int .i64 (-1), .int .i64 xx, .int .i64 bb, .int .i64 cc, .bool tn]) rfl (by kernel_rfl) (by kernel_rfl) (by kernel_rfl) (fun _ _ _ h => h) (yieldsIf_load_mid rfl 42 _ rfl eb 0 rfl [.int .i64 (-1), .int .i64 xx, .int .i64 bb, .int .i64 cc, .bool tn] _ (fun _ h => (csAt_kept cE h (by omega) (by simp; omega)).cells) Tryz.underlying42 rfl (unhide HSE)) hHeld ?_
      try simp only [Act.put, List.setIfInBounds_toArray, List.set_cons_zero, List.set_cons_succ]
      refine oneL 2 rfl (by kernel_rfl) rfl (fun K hK => ?_)
      have pcR := cR.put [.slice (some ⟨g, o, none⟩) bs.length c, .slice (some ⟨d, z, none⟩) dk.length dc] rfl
      have kz := OrdL.kcells y0 w.heap.size 0 [.slice (some ⟨g, o, none⟩) bs.length c, .slice (some ⟨d, z, none⟩) dk.length dc]
      refine wp_store_mid 26 _ _ rfl w.heap.size 0 [.slice (some ⟨g, o, none⟩) bs.length c, .slice (some ⟨d, z, none⟩) dk.length dc].toArray rfl rfl cR.free (unhide HSS) (by kernel_rfl) ?_
      refine hK.out _ _ (hHeld.then kz (fun y hy => by simp at hy; subst hy; first | (left; simp; done) | (right; omega))) (fun hHeld => ?_)
      clear hK K
      try simp only [Act.put, List.setIfInBounds_toArray, List.set_cons_zero, List.set_cons_succ]
      replace cT := OrdL.ckept cT kz (CsAt.lt cT (by simp)) (by first | (simp; done) | (simp; omega))
      clear cR kz
      generalize y0.setCells w.heap.size 0 [.slice (some ⟨g, o, none⟩) bs.length c, .slice (some ⟨d, z, none⟩) dk.length dc] = y1 at *
      have cR := pcR
      clear pcR
      refine oneL 3 rfl (by kernel_rfl) rfl (fun K hK => ?_)
      have pcT := cT.put [.int .i64 (-1), .int .i64 xx, .int .i64 bb, .int .i64 cc, .bool tn] rfl
      have kz := OrdL.kcells y1 (w.heap.size + 1) 0 [.int .i64 (-1), .int .i64 xx, .int .i64 bb, .int .i64 cc, .bool tn]
      refine wp_store_mid 42 _ _ rfl (w.heap.size + 1) 0 [.int .i64 (-1), .int .i64 xx, .int .i64 bb, .int .i64 cc, .bool tn].toArray rfl rfl cT.free (unhide HSE) (by kernel_rfl) ?_
      refine hK.out _ _ (hHeld.then kz (fun y hy => by simp at hy; subst hy; first | (left; simp; done) | (right; omega))) (fun hHeld => ?_)
      clear hK K
      try simp only [Act.put, List.setIfInBounds_toArray, List.set_cons_zero, List.set_cons_succ]
      replace cR := OrdL.ckept cR kz (CsAt.lt cR (by simp)) (by first | (simp; done) | (simp; omega))
      clear cT kz
      generalize y1.setCells (w.heap.size + 1) 0 [.int .i64 (-1), .int .i64 xx, .int .i64 bb, .int .i64 cc, .bool tn] = y2 at *
      have cT := pcT
      clear pcT
      refine wpAnyH_done (by kernel_rfl) ?_ _
      refine NoPanic.normal ?_
      have SZ := SN.mono (SN.kept S9 hHeld (fun x hx => by simp at hx; omega)) (show w.heap.size ≤ w1.heap.size by omega)
      have BZ := B9.trans (Below.mono (Kept.below hHeld (B := w.heap.size) (by simp) (by omega)) (Nat.le_refl _))
      clear hHeld S9 B9 cB cE d9 b9
      go_wp2
      refine bodyPost_ret (res_cc Tryz.results26 _ _ w.heap.size [.slice (some ⟨g, o, none⟩) bs.length c, .slice (some ⟨d, z, none⟩) dk.length dc] _ (w.heap.size + 1) [.int .i64 (-1), .int .i64 xx, .int .i64 bb, .int .i64 cc, .bool tn] _ rfl cR.cells Tryz.underlying26 rfl (by kernel_rfl) rfl cT.cells Tryz.underlying42 rfl (by kernel_rfl)) rfl ?_
      exact ⟨g, o, c, bs, d, z, dc, dk, ⟨(-1), xx, bb, cc, tn⟩, rfl, SZ, ⟨by show -1 ≤ (-1); omega, by show (-1) ≤ 5; omega, by show 0 ≤ xx; omega, by show xx ≤ 7; omega, g5, g6, by show -1 ≤ cc; omega, by show cc ≤ 9; omega⟩, BZ⟩
  by_cases h1 : r = 1
  · subst h1
    have bL : Below w6.heap.size w6 (w6.alloc (.cells #[.int .i64 0, .int .i64 7] 3)) := (Below.refl _ _).alloc (Nat.le_refl _) _
    have cL := CsAt.new w6 [.int .i64 0, .int .i64 7] 3
    have KL := K6.trans (Kept.of bL)
    have dL := rd_kept d6 (L := []) (Kept.of bL) (by simp)
    have cBL := csAt_kept cB6 (L := []) (Kept.of bL) (by omega) (by simp)
    have cEL := csAt_kept cE6 (L := []) (Kept.of bL) (by omega) (by simp)
    have lL : w6.heap.size < (w6.alloc (.cells #[.int .i64 0, .int .i64 7] 3)).heap.size := by simp
    clear bL K6 d6 cB6 cE6
    go_wp2_with fail
    generalize w6.alloc (.cells #[.int .i64 0, .int .i64 7] 3) = wL at *
    generalize w6.heap.size = lb at *
    refine (pick_k wA wA wL wA.heap.size a len' cap (p2 + 1) 2 hrow hl' dL (by omega) (by omega) (by omega) (by omega)).mono ?_
    rintro e w7 ⟨q, rfl, q0, q1, d7, m7⟩
    have K7 := KL.trans m7
    have cB7 := csAt_kept cBL m7 (by omega) (by simp; omega)
    have cE7 := csAt_kept cEL m7 (by omega) (by simp; omega)
    have cL7 := csAt_kept cL m7 (by omega) (by simp; omega)
    have l7 := m7.size
    clear KL dL cBL cEL cL m7
    have hq : q = 0 ∨ q = 1 := by omega
    rcases hq with rfl | rfl
    · have cl := cL7.cell 0 _ rfl
      have kz := kept_cell w7 eb 1 (.int .i64 0)
      have d8 := rd_kept d7 kz (fun y hy => by simp at hy; omega)
      have cB8 := csAt_kept cB7 kz (by omega) (by simp; omega)
      have cE8 := csAt_set cE7 1 (by simp) (.int .i64 0)
      simp only [List.set_cons_zero, List.set_cons_succ] at cE8
      have K8 := K7.then kz (fun x hx => by simp at hx; subst hx; right; omega)
      have cj := cE7.cell 1 _ rfl
      have fj := cE7.frozen 1 (by simp)
      have l8 := kz.size
      go_upto_region 11 with fail
      generalize w7.setCell ⟨eb, 1, none⟩ (.int .i64 0) = w8 at *
      clear kz cj fj cB7 cE7 d7 K7
      clear cl cL7
      have cB := cB8
      have cE := cE8
      have S9 := SN.kept S2 K8 (fun x hx => by simp at hx; subst hx; exact hlt)
      have d9 := d8
      have b9 := d9.bel
      have B9 := bZ.trans (b9.mono bZ.size)
      have cR := csAt_kept cZ (L := []) (Kept.of b9) (by omega) (by simp)
      have cT := csAt_kept cY (L := []) (Kept.of b9) (by omega) (by simp)
      have lwA := b9.size
      skip
      refine wp_region_noPanic ?_
      refine wp_region_held_drew (S := fun w' => Kept [w.heap.size, w.heap.size + 1] w8 w') (by kernel_rfl) (Kept.refl _ _).drew (fun hHeld => ?_)
      replace cR := OrdL.ckept cR (L := []) (Kept.refl [] w8).drew (CsAt.lt cR (by first | (simp; done) | assumption)) (by simp)
      replace cT := OrdL.ckept cT (L := []) (Kept.refl [] w8).drew (CsAt.lt cT (by first | (simp; done) | assumption)) (by simp)
      generalize w8.drew = y0 at *
      have z0 := hHeld.size
      refine takeL 0 (.agg #[.slice (some ⟨g, o, none⟩) bs.length c, .slice (some ⟨d, z, none⟩) dk.length dc]) rfl (by kernel_rfl) (by kernel_rfl) (by kernel_rfl) (fun _ _ _ h => h) (yieldsIf_load_mid rfl 26 _ rfl sb 0 rfl [.slice (some ⟨g, o, none⟩) bs.length c, .slice (some ⟨d, z, none⟩) dk.length dc] _ (fun _ h => (csAt_kept cB h (by omega) (by simp; omega)).cells) Tryz.underlying26 rfl (unhide HSS)) hHeld ?_
      try simp only [Act.put, List.setIfInBounds_toArray, List.set_cons_zero, List.set_cons_succ]
      refine takeL 1 (.agg #[.int .i64 kd, .int .i64 0, .int .i64 bb, .int .i64 cc, .bool tn]) rfl (by kernel_rfl) (by kernel_rfl) (by kernel_rfl) (fun _ _ _ h => h) (yieldsIf_load_mid rfl 42 _ rfl eb 0 rfl [.int .i64 kd, .int .i64 0, .int .i64 bb, .int .i64 cc, .bool tn] _ (fun _ h => (csAt_kept cE h (by omega) (by simp; omega)).cells) Tryz.underlying42 rfl (unhide HSE)) hHeld ?_
      try simp only [Act.put, List.setIfInBounds_toArray, List.set_cons_zero, List.set_cons_succ]
      refine oneL 2 rfl (by kernel_rfl) rfl (fun K hK => ?_)
      have pcR := cR.put [.slice (some ⟨g, o, none⟩) bs.length c, .slice (some ⟨d, z, none⟩) dk.length dc] rfl
      have kz := OrdL.kcells y0 w.heap.size 0 [.slice (some ⟨g, o, none⟩) bs.length c, .slice (some ⟨d, z, none⟩) dk.length dc]
      refine wp_store_mid 26 _ _ rfl w.heap.size 0 [.slice (some ⟨g, o, none⟩) bs.length c, .slice (some ⟨d, z, none⟩) dk.length dc].toArray rfl rfl cR.free (unhide HSS) (by kernel_rfl) ?_
      refine hK.out _ _ (hHeld.then kz (fun y hy => by simp at hy; subst hy; first | (left; simp; done) | (right; omega))) (fun hHeld => ?_)
      clear hK K
      try simp only [Act.put, List.setIfInBounds_toArray, List.set_cons_zero, List.set_cons_succ]
      replace cT := OrdL.ckept cT kz (CsAt.lt cT (by simp)) (by first | (simp; done) | (simp; omega))
      clear cR kz
      generalize y0.setCells w.heap.size 0 [.slice (some ⟨g, o, none⟩) bs.length c, .slice (some ⟨d, z, none⟩) dk.length dc] = y1 at *
      have cR := pcR
      clear pcR
      refine oneL 3 rfl (by kernel_rfl) rfl (fun K hK => ?_)
      have pcT := cT.put [.int .i64 kd, .int .i64 0, .int .i64 bb, .int .i64 cc, .bool tn] rfl
      have kz := OrdL.kcells y1 (w.heap.size + 1) 0 [.int .i64 kd, .int .i64 0, .int .i64 bb, .int .i64 cc, .bool tn]
      refine wp_store_mid 42 _ _ rfl (w.heap.size + 1) 0 [.int .i64 kd, .int .i64 0, .int .i64 bb, .int .i64 cc, .bool tn].toArray rfl rfl cT.free (unhide HSE) (by kernel_rfl) ?_
      refine hK.out _ _ (hHeld.then kz (fun y hy => by simp at hy; subst hy; first | (left; simp; done) | (right; omega))) (fun hHeld => ?_)
      clear hK K
      try simp only [Act.put, List.setIfInBounds_toArray, List.set_cons_zero, List.set_cons_succ]
      replace cR := OrdL.ckept cR kz (CsAt.lt cR (by simp)) (by first | (simp; done) | (simp; omega))
      clear cT kz
      generalize y1.setCells (w.heap.size + 1) 0 [.int .i64 kd, .int .i64 0, .int .i64 bb, .int .i64 cc, .bool tn] = y2 at *
      have cT := pcT
      clear pcT
      refine wpAnyH_done (by kernel_rfl) ?_ _
      refine NoPanic.normal ?_
      have SZ := SN.mono (SN.kept S9 hHeld (fun x hx => by simp at hx; omega)) (show w.heap.size ≤ w1.heap.size by omega)
      have BZ := B9.trans (Below.mono (Kept.below hHeld (B := w.heap.size) (by simp) (by omega)) (Nat.le_refl _))
      clear hHeld S9 B9 cB cE d9 b9
      go_wp2
      refine bodyPost_ret (res_cc Tryz.results26 _ _ w.heap.size [.slice (some ⟨g, o, none⟩) bs.length c, .slice (some ⟨d, z, none⟩) dk.length dc] _ (w.heap.size + 1) [.int .i64 kd, .int .i64 0, .int .i64 bb, .int .i64 cc, .bool tn] _ rfl cR.cells Tryz.underlying26 rfl (by kernel_rfl) rfl cT.cells Tryz.underlying42 rfl (by kernel_rfl)) rfl ?_
      exact ⟨g, o, c, bs, d, z, dc, dk, ⟨kd, 0, bb, cc, tn⟩, rfl, SZ, ⟨by show -1 ≤ kd; omega, by show kd ≤ 5; omega, by show 0 ≤ 0; omega, by show 0 ≤ 7; omega, g5, g6, by show -1 ≤ cc; omega, by show cc ≤ 9; omega⟩, BZ⟩
    · have cl := cL7.cell 1 _ rfl
      have kz := kept_cell w7 eb 1 (.int .i64 7)
      have d8 := rd_kept d7 kz (fun y hy => by simp at hy; omega)
      have cB8 := csAt_kept cB7 kz (by omega) (by simp; omega)
      have cE8 := csAt_set cE7 1 (by simp) (.int .i64 7)
      simp only [List.set_cons_zero, List.set_cons_succ] at cE8
      have K8 := K7.then kz (fun x hx => by simp at hx; subst hx; right; omega)
      have cj := cE7.cell 1 _ rfl
      have fj := cE7.frozen 1 (by simp)
      have l8 := kz.size
      go_upto_region 11 with fail
      generalize w7.setCell ⟨eb, 1, none⟩ (.int .i64 7) = w8 at *
      clear kz cj fj cB7 cE7 d7 K7
      clear cl cL7
      have cB := cB8
      have cE := cE8
      have S9 := SN.kept S2 K8 (fun x hx => by simp at hx; subst hx; exact hlt)
      have d9 := d8
      have b9 := d9.bel
      have B9 := bZ.trans (b9.mono bZ.size)
      have cR := csAt_kept cZ (L := []) (Kept.of b9) (by omega) (by simp)
      have cT := csAt_kept cY (L := []) (Kept.of b9) (by omega) (by simp)
      have lwA := b9.size
      skip
      refine wp_region_noPanic ?_
      refine wp_region_held_drew (S := fun w' => Kept [w.heap.size, w.heap.size + 1] w8 w') (by kernel_rfl) (Kept.refl _ _).drew (fun hHeld => ?_)
      replace cR := OrdL.ckept cR (L := []) (Kept.refl [] w8).drew (CsAt.lt cR (by first | (simp; done) | assumption)) (by simp)
      replace cT := OrdL.ckept cT (L := []) (Kept.refl [] w8).drew (CsAt.lt cT (by first | (simp; done) | assumption)) (by simp)
      generalize w8.drew = y0 at *
      have z0 := hHeld.size
      refine takeL 0 (.agg #[.slice (some ⟨g, o, none⟩) bs.length c, .slice (some ⟨d, z, none⟩) dk.length dc]) rfl (by kernel_rfl) (by kernel_rfl) (by kernel_rfl) (fun _ _ _ h => h) (yieldsIf_load_mid rfl 26 _ rfl sb 0 rfl [.slice (some ⟨g, o, none⟩) bs.length c, .slice (some ⟨d, z, none⟩) dk.length dc] _ (fun _ h => (csAt_kept cB h (by omega) (by simp; omega)).cells) Tryz.underlying26 rfl (unhide HSS)) hHeld ?_
      try simp only [Act.put, List.setIfInBounds_toArray, List.set_cons_zero, List.set_cons_succ]
      refine takeL 1 (.agg #[.int .i64 kd, .int .i64 7, .int .i64 bb, .int .i64 cc, .bool tn]) rfl (by kernel_rfl) (by kernel_rfl) (by kernel_rfl) (fun _ _ _ h => h) (yieldsIf_load_mid rfl 42 _ rfl eb 0 rfl [.int .i64 kd, .int .i64 7, .int .i64 bb, .int .i64 cc, .bool tn] _ (fun _ h => (csAt_kept cE h (by omega) (by simp; omega)).cells) Tryz.underlying42 rfl (unhide HSE)) hHeld ?_
      try simp only [Act.put, List.setIfInBounds_toArray, List.set_cons_zero, List.set_cons_succ]
      refine oneL 2 rfl (by kernel_rfl) rfl (fun K hK => ?_)
      have pcR := cR.put [.slice (some ⟨g, o, none⟩) bs.length c, .slice (some ⟨d, z, none⟩) dk.length dc] rfl
      have kz := OrdL.kcells y0 w.heap.size 0 [.slice (some ⟨g, o, none⟩) bs.length c, .slice (some ⟨d, z, none⟩) dk.length dc]
      refine wp_store_mid 26 _ _ rfl w.heap.size 0 [.slice (some ⟨g, o, none⟩) bs.length c, .slice (some ⟨d, z, none⟩) dk.length dc].toArray rfl rfl cR.free (unhide HSS) (by kernel_rfl) ?_
      refine hK.out _ _ (hHeld.then kz (fun y hy => by simp at hy; subst hy; first | (left; simp; done) | (right; omega))) (fun hHeld => ?_)
      clear hK K
      try simp only [Act.put, List.setIfInBounds_toArray, List.set_cons_zero, List.set_cons_succ]
      replace cT := OrdL.ckept cT kz (CsAt.lt cT (by simp)) (by first | (simp; done) | (simp; omega))
      clear cR kz
      generalize y0.setCells w.heap.size 0 [.slice (some ⟨g, o, none⟩) bs.length c, .slice (some ⟨d, z, none⟩) dk.length dc] = y1 at *
      have cR := pcR
      clear pcR
      refine oneL 3 rfl (by kernel_rfl) rfl (fun K hK => ?_)
      have pcT := cT.put [.int .i64 kd, .int .i64 7, .int .i64 bb, .int .i64 cc, .bool tn] rfl
      have kz := OrdL.kcells y1 (w.heap.size + 1) 0 [.int .i64 kd, .int .i64 7, .int .i64 bb, .int .i64 cc, .bool tn]
      refine wp_store_mid 42 _ _ rfl (w.heap.size + 1) 0 [.int .i64 kd, .int .i64 7, .int .i64 bb, .int .i64 cc, .bool tn].toArray rfl rfl cT.free (unhide HSE) (by kernel_rfl) ?_
      refine hK.out _ _ (hHeld.then kz (fun y hy => by simp at hy; subst hy; first | (left; simp; done) | (right; omega))) (fun hHeld => ?_)
      clear hK K
      try simp only [Act.put, List.setIfInBounds_toArray, List.set_cons_zero, List.set_cons_succ]
      replace cR := OrdL.ckept cR kz (CsAt.lt cR (by simp)) (by first | (simp; done) | (simp; omega))
      clear cT kz
      generalize y1.setCells (w.heap.size + 1) 0 [.int .i64 kd, .int .i64 7, .int .i64 bb, .int .i64 cc, .bool tn] = y2 at *
      have cT := pcT
      clear pcT
      refine wpAnyH_done (by kernel_rfl) ?_ _
      refine NoPanic.normal ?_
      have SZ := SN.mono (SN.kept S9 hHeld (fun x hx => by simp at hx; omega)) (show w.heap.size ≤ w1.heap.size by omega)
      have BZ := B9.trans (Below.mono (Kept.below hHeld (B := w.heap.size) (by simp) (by omega)) (Nat.le_refl _))
      clear hHeld S9 B9 cB cE d9 b9
      go_wp2
      refine bodyPost_ret (res_cc Tryz.results26 _ _ w.heap.size [.slice (some ⟨g, o, none⟩) bs.length c, .slice (some ⟨d, z, none⟩) dk.length dc] _ (w.heap.size + 1) [.int .i64 kd, .int .i64 7, .int .i64 bb, .int .i64 cc, .bool tn] _ rfl cR.cells Tryz.underlying26 rfl (by kernel_rfl) rfl cT.cells Tryz.underlying42 rfl (by kernel_rfl)) rfl ?_
      exact ⟨g, o, c, bs, d, z, dc, dk, ⟨kd, 7, bb, cc, tn⟩, rfl, SZ, ⟨by show -1 ≤ kd; omega, by show kd ≤ 5; omega, by show 0 ≤ 7; omega, by show 7 ≤ 7; omega, g5, g6, by show -1 ≤ cc; omega, by show cc ≤ 9; omega⟩, BZ⟩
  by_cases h2 : r = 2
  · subst h2
    have cB7 := cB6
    have cE7 := cE6
    have d7 := d6
    have K7 := K6
    clear cB6 cE6 d6 K6
    have kz := kept_cell w6 eb 3 (.int .i64 (-1))
    have d8 := rd_kept d7 kz (fun y hy => by simp at hy; omega)
    have cB8 := csAt_kept cB7 kz (by omega) (by simp; omega)
    have cE8 := csAt_set cE7 3 (by simp) (.int .i64 (-1))
    simp only [List.set_cons_zero, List.set_cons_succ] at cE8
    have K8 := K7.then kz (fun x hx => by simp at hx; subst hx; right; omega)
    have cj := cE7.cell 3 _ rfl
    have fj := cE7.frozen 3 (by simp)
    have l8 := kz.size
    go_upto_region 11 with fail
    generalize w6.setCell ⟨eb, 3, none⟩ (.int .i64 (-1)) = w8 at *
    clear kz cj fj cB7 cE7 d7 K7
    have cB := cB8
    have cE := cE8
    have S9 := SN.kept S2 K8 (fun x hx => by simp at hx; subst hx; exact hlt)
    have d9 := d8
    have b9 := d9.bel
    have B9 := bZ.trans (b9.mono bZ.size)
    have cR := csAt_kept cZ (L := []) (Kept.of b9) (by omega) (by simp)
    have cT := csAt_kept cY (L := []) (Kept.of b9) (by omega) (by simp)
    have lwA := b9.size
    skip
    refine wp_region_noPanic ?_
    refine wp_region_held_drew (S := fun w' => Kept [w.heap.size, w.heap.size + 1] w8 w') (by kernel_rfl) (Kept.refl _ _).drew (fun hHeld => ?_)
    replace cR := OrdL.ckept cR (L := []) (Kept.refl [] w8).drew (CsAt.lt cR (by first | (simp; done) | assumption)) (by simp)
    replace cT := OrdL.ckept cT (L := []) (Kept.refl [] w8).drew (CsAt.lt cT (by first | (simp; done) | assumption)) (by simp)
    generalize w8.drew = y0 at *
    have z0 := hHeld.size
    refine takeL 0 (.agg #[.slice (some ⟨g, o, none⟩) bs.length c, .slice (some ⟨d, z, none⟩) dk.length dc]) rfl (by kernel_rfl) (by kernel_rfl) (by kernel_rfl) (fun _ _ _ h => h) (yieldsIf_load_mid rfl 26 _ rfl sb 0 rfl [.slice (some ⟨g, o, none⟩) bs.length c, .slice (some ⟨d, z, none⟩) dk.length dc] _ (fun _ h => (csAt_kept cB h (by omega) (by simp; omega)).cells) Tryz.underlying26 rfl (unhide HSS)) hHeld ?_
    try simp only [Act.put, List.setIfInBounds_toArray, List.set_cons_zero, List.set_cons_succ]
    refine takeL 1 (.agg #[.int .i64 kd, .int .i64 xx, .int .i64 bb, .int .i64 (-1), .bool tn]) rfl (by kernel_rfl) (by kernel_rfl) (by kernel_rfl) (fun _ _ _ h => h) (yieldsIf_load_mid rfl 42 _ rfl eb 0 rfl [.int .i64 kd, .int .i64 xx, .int .i64 bb, .int .i64 (-1), .bool tn] _ (fun _ h => (csAt_kept cE h (by omega) (by simp; omega)).cells) Tryz.underlying42 rfl (unhide HSE)) hHeld ?_
    try simp only [Act.put, List.setIfInBounds_toArray, List.set_cons_zero, List.set_cons_succ]
    refine oneL 2 rfl (by kernel_rfl) rfl (fun K hK => ?_)
    have pcR := cR.put [.slice (some ⟨g, o, none⟩) bs.length c, .slice (some ⟨d, z, none⟩) dk.length dc] rfl
    have kz := OrdL.kcells y0 w.heap.size 0 [.slice (some ⟨g, o, none⟩) bs.length c, .slice (some ⟨d, z, none⟩) dk.length dc]
    refine wp_store_mid 26 _ _ rfl w.heap.size 0 [.slice (some ⟨g, o, none⟩) bs.length c, .slice (some ⟨d, z, none⟩) dk.length dc].toArray rfl rfl cR.free (unhide HSS) (by kernel_rfl) ?_
    refine hK.out _ _ (hHeld.then kz (fun y hy => by simp at hy; subst hy; first | (left; simp; done) | (right; omega))) (fun hHeld => ?_)
    clear hK K
    try simp only [Act.put, List.setIfInBounds_toArray, List.set_cons_zero, List.set_cons_succ]
    replace cT := OrdL.ckept cT kz (CsAt.lt cT (by simp)) (by first | (simp; done) | (simp; omega))
    clear cR kz
    generalize y0.setCells w.heap.size 0 [.slice (some ⟨g, o, none⟩) bs.length c, .slice (some ⟨d, z, none⟩) dk.length dc] = y1 at *
    have cR := pcR
    clear pcR
    refine oneL 3 rfl (by kernel_rfl) rfl (fun K hK => ?_)
    have pcT := cT.put [.int .i64 kd, .int .i64 xx, .int .i64 bb, .int .i64 (-1), .bool tn] rfl
    have kz := OrdL.kcells y1 (w.heap.size + 1) 0 [.int .i64 kd, .int .i64 xx, .int .i64 bb, .int .i64 (-1), .bool tn]
    refine wp_store_mid 42 _ _ rfl (w.heap.size + 1) 0 [.int .i64 kd, .int .i64 xx, .int .i64 bb, .int .i64 (-1), .bool tn].toArray rfl rfl cT.free (unhide HSE) (by kernel_rfl) ?_
    refine hK.out _ _ (hHeld.then kz (fun y hy => by simp at hy; subst hy; first | (left; simp; done) | (right; omega))) (fun hHeld => ?_)
    clear hK K
    try simp only [Act.put, List.setIfInBounds_toArray, List.set_cons_zero, List.set_cons_succ]
    replace cR := OrdL.ckept cR kz (CsAt.lt cR (by simp)) (by first | (simp; done) | (simp; omega))
    clear cT kz
    generalize y1.setCells (w.heap.size + 1) 0 [.int .i64 kd, .int .i64 xx, .int .i64 bb, .int .i64 (-1), .bool tn] = y2 at *
    have cT := pcT
    clear pcT
    refine wpAnyH_done (by kernel_rfl) ?_ _
    refine NoPanic.normal ?_
    have SZ := SN.mono (SN.kept S9 hHeld (fun x hx => by simp at hx; omega)) (show w.heap.size ≤ w1.heap.size by omega)
    have BZ := B9.trans (Below.mono (Kept.below hHeld (B := w.heap.size) (by simp) (by omega)) (Nat.le_refl _))
    clear hHeld S9 B9 cB cE d9 b9
    go_wp2
    refine bodyPost_ret (res_cc Tryz.results26 _ _ w.heap.size [.slice (some ⟨g, o, none⟩) bs.length c, .slice (some ⟨d, z, none⟩) dk.length dc] _ (w.heap.size + 1) [.int .i64 kd, .int .i64 xx, .int .i64 bb, .int .i64 (-1), .bool tn] _ rfl cR.cells Tryz.underlying26 rfl (by kernel_rfl) rfl cT.cells Tryz.underlying42 rfl (by kernel_rfl)) rfl ?_
    exact ⟨g, o, c, bs, d, z, dc, dk, ⟨kd, xx, bb, (-1), tn⟩, rfl, SZ, ⟨by show -1 ≤ kd; omega, by show kd ≤ 5; omega, by show 0 ≤ xx; omega, by show xx ≤ 7; omega, g5, g6, by show -1 ≤ (-1); omega, by show (-1) ≤ 9; omega⟩, BZ⟩
  have e0 : (r == 0) = false := by simpa using h0
  have e1 : (r == 1) = false := by simpa using h1
  have e2 : (r == 2) = false := by simpa using h2
  have cB := cB6
  have cE := cE6
  have S9 := SN.kept S2 K6 (fun x hx => by simp at hx; subst hx; exact hlt)
  have d9 := d6
  have b9 := d9.bel
  have B9 := bZ.trans (b9.mono bZ.size)
  have cR := csAt_kept cZ (L := []) (Kept.of b9) (by omega) (by simp)
  have cT := csAt_kept cY (L := []) (Kept.of b9) (by omega) (by simp)
  have lwA := b9.size
  go_upto_region 11 with fail
  refine wp_region_noPanic ?_
  refine wp_region_held_drew (S := fun w' => Kept [w.heap.size, w.heap.size + 1] w6 w') (by kernel_rfl) (Kept.refl _ _).drew (fun hHeld => ?_)
  replace cR := OrdL.ckept cR (L := []) (Kept.refl [] w6).drew (CsAt.lt cR (by first | (simp; done) | assumption)) (by simp)
  replace cT := OrdL.ckept cT (L := []) (Kept.refl [] w6).drew (CsAt.lt cT (by first | (simp; done) | assumption)) (by simp)
  generalize w6.drew = y0 at *
  have z0 := hHeld.size
  refine takeL 0 (.agg #[.slice (some ⟨g, o, none⟩) bs.length c, .slice (some ⟨d, z, none⟩) dk.length dc]) rfl (by kernel_rfl) (by kernel_rfl) (by kernel_rfl) (fun _ _ _ h => h) (yieldsIf_load_mid rfl 26 _ rfl sb 0 rfl [.slice (some ⟨g, o, none⟩) bs.length c, .slice (some ⟨d, z, none⟩) dk.length dc] _ (fun _ h => (csAt_kept cB h (by omega) (by simp; omega)).cells) Tryz.underlying26 rfl (unhide HSS)) hHeld ?_
  try simp only [Act.put, List.setIfInBounds_toArray, List.set_cons_zero, List.set_cons_succ]
  refine takeL 1 (.agg #[.int .i64 kd, .int .i64 xx, .int .i64 bb, .int .i64 cc, .bool tn]) rfl (by kernel_rfl) (by kernel_rfl) (by kernel_rfl) (fun _ _ _ h => h) (yieldsIf_load_mid rfl 42 _ rfl eb 0 rfl [.int .i64 kd, .int .i64 xx, .int .i64 bb, .int .i64 cc, .bool tn] _ (fun _ h => (csAt_kept cE h (by omega) (by simp; omega)).cells) Tryz.underlying42 rfl (unhide HSE)) hHeld ?_
  try simp only [Act.put, List.setIfInBounds_toArray, List.set_cons_zero, List.set_cons_succ]
  refine oneL 2 rfl (by kernel_rfl) rfl (fun K hK => ?_)
  have pcR := cR.put [.slice (some ⟨g, o, none⟩) bs.length c, .slice (some ⟨d, z, none⟩) dk.length dc] rfl
  have kz := OrdL.kcells y0 w.heap.size 0 [.slice (some ⟨g, o, none⟩) bs.length c, .slice (some ⟨d, z, none⟩) dk.length dc]
  refine wp_store_mid 26 _ _ rfl w.heap.size 0 [.slice (some ⟨g, o, none⟩) bs.length c, .slice (some ⟨d, z, none⟩) dk.length dc].toArray rfl rfl cR.free (unhide HSS) (by kernel_rfl) ?_
  refine hK.out _ _ (hHeld.then kz (fun y hy => by simp at hy; subst hy; first | (left; simp; done) | (right; omega))) (fun hHeld => ?_)
  clear hK K
  try simp only [Act.put, List.setIfInBounds_toArray, List.set_cons_zero, List.set_cons_succ]
  replace cT := OrdL.ckept cT kz (CsAt.lt cT (by simp)) (by first | (simp; done) | (simp; omega))
  clear cR kz
  generalize y0.setCells w.heap.size 0 [.slice (some ⟨g, o, none⟩) bs.length c, .slice (some ⟨d, z, none⟩) dk.length dc] = y1 at *
  have cR := pcR
  clear pcR
  refine oneL 3 rfl (by kernel_rfl) rfl (fun K hK => ?_)
  have pcT := cT.put [.int .i64 kd, .int .i64 xx, .int .i64 bb, .int .i64 cc, .bool tn] rfl
  have kz := OrdL.kcells y1 (w.heap.size + 1) 0 [.int .i64 kd, .int .i64 xx, .int .i64 bb, .int .i64 cc, .bool tn]
  refine wp_store_mid 42 _ _ rfl (w.heap.size + 1) 0 [.int .i64 kd, .int .i64 xx, .int .i64 bb, .int .i64 cc, .bool tn].toArray rfl rfl cT.free (unhide HSE) (by kernel_rfl) ?_
  refine hK.out _ _ (hHeld.then kz (fun y hy => by simp at hy; subst hy; first | (left; simp; done) | (right; omega))) (fun hHeld => ?_)
  clear hK K
  try simp only [Act.put, List.setIfInBounds_toArray, List.set_cons_zero, List.set_cons_succ]
  replace cR := OrdL.ckept cR kz (CsAt.lt cR (by simp)) (by first | (simp; done) | (simp; omega))
  clear cT kz
  generalize y1.setCells (w.heap.size + 1) 0 [.int .i64 kd, .int .i64 xx, .int .i64 bb, .int .i64 cc, .bool tn] = y2 at *
  have cT := pcT
  clear pcT
  refine wpAnyH_done (by kernel_rfl) ?_ _
  refine NoPanic.normal ?_
  have SZ := SN.mono (SN.kept S9 hHeld (fun x hx => by simp at hx; omega)) (show w.heap.size ≤ w1.heap.size by omega)
  have BZ := B9.trans (Below.mono (Kept.below hHeld (B := w.heap.size) (by simp) (by omega)) (Nat.le_refl _))
  clear hHeld S9 B9 cB cE d9 b9
  go_wp2
  refine bodyPost_ret (res_cc Tryz.results26 _ _ w.heap.size [.slice (some ⟨g, o, none⟩) bs.length c, .slice (some ⟨d, z, none⟩) dk.length dc] _ (w.heap.size + 1) [.int .i64 kd, .int .i64 xx, .int .i64 bb, .int .i64 cc, .bool tn] _ rfl cR.cells Tryz.underlying26 rfl (by kernel_rfl) rfl cT.cells Tryz.underlying42 rfl (by kernel_rfl)) rfl ?_
  exact ⟨g, o, c, bs, d, z, dc, dk, ⟨kd, xx, bb, cc, tn⟩, rfl, SZ, ⟨by show -1 ≤ kd; omega, by show kd ≤ 5; omega, by show 0 ≤ xx; omega, by show xx ≤ 7; omega, g5, g6, by show -1 ≤ cc; omega, by show cc ≤ 9; omega⟩, BZ⟩

set_option maxRecDepth 100000 in
set_option maxHeartbeats 2000000 in
theorem drawDs_any (w : World) (a : Option Addr) (len cap : Nat) (zs : List Int) (h : IsRow .u8 w a len cap zs) :
    Calls Tryz.prog 32 #[.slice a len cap] w fun e w' => DePost w e w' := by
  have bZ : Below w.heap.size w ((w.alloc (.cells #[.slice none 0 0, .slice none 0 0] 26)).alloc (.cells #[.int .i64 0, .int .i64 0, .int .i64 0, .int .i64 0, .bool false] 42)) := ((Below.refl _ _).alloc (Nat.le_refl _) _).alloc (by simp) _
  have cZ := (CsAt.new w [.slice none 0 0, .slice none 0 0] 26).alloc (by simp) (.cells #[.int .i64 0, .int .i64 0, .int .i64 0, .int .i64 0, .bool false] 42)
  have cY := CsAt.new (w.alloc (.cells #[.slice none 0 0, .slice none 0 0] 26)) [.int .i64 0, .int .i64 0, .int .i64 0, .int .i64 0, .bool false] 42
  rw [World.size_alloc] at cY
  have hsz : w.heap.size + 2 ≤ ((w.alloc (.cells #[.slice none 0 0, .slice none 0 0] 26)).alloc (.cells #[.int .i64 0, .int .i64 0, .int .i64 0, .int .i64 0, .bool false] 42)).heap.size := by simp
  have HO := hide (drawDo_any _ a len cap zs (isRow_below h bZ))
  clear h
  go_enter Tryz.func32, Tryz.ntmps32
  go_wp2_with fail
  generalize (w.alloc (.cells #[.slice none 0 0, .slice none 0 0] 26)).alloc (.cells #[.int .i64 0, .int .i64 0, .int .i64 0, .int .i64 0, .bool false] 42) = wA at *
  refine (unhide HO).mono ?_
  rintro e w1 ⟨g, o, c, bs, d, z, dc, dk, x, rfl, S1, hx, b1⟩
  have B1 := bZ.trans (b1.mono bZ.size)
  have cR := cZ.below b1 (by omega)
  have cT := cY.below b1 (by omega)
  have q1 := b1.size
  clear HO bZ cZ cY b1
  have r0 := cR.cell 0 _ rfl
  have r1 := cR.cell 1 _ rfl
  have f0 := cR.frozen 0 (by simp)
  have f1 := cR.frozen 1 (by simp)
  have t0 := cT.cell 0 _ rfl
  have t1 := cT.cell 1 _ rfl
  have t2 := cT.cell 2 _ rfl
  have t3 := cT.cell 3 _ rfl
  have t4 := cT.cell 4 _ rfl
  have ft0 := cT.frozen 0 (by simp)
  have ft1 := cT.frozen 1 (by simp)
  have ft2 := cT.frozen 2 (by simp)
  have ft3 := cT.frozen 3 (by simp)
  have ft4 := cT.frozen 4 (by simp)
  have pR := cR.put [.slice (some ⟨g, o, none⟩) bs.length c, .slice (some ⟨d, z, none⟩) dk.length dc] rfl
  have kz := kept_cells w1 w.heap.size 0 [.slice (some ⟨g, o, none⟩) bs.length c, .slice (some ⟨d, z, none⟩) dk.length dc]
  have cT2 := csAt_kept cT kz (by omega) (by simp)
  have pT := cT2.put [.int .i64 x.k, .int .i64 x.a, .int .i64 x.b, .int .i64 x.c, .bool x.t] rfl
  have ky := kept_cells (w1.setCells w.heap.size 0 [.slice (some ⟨g, o, none⟩) bs.length c, .slice (some ⟨d, z, none⟩) dk.length dc]) (w.heap.size + 1) 0 [.int .i64 x.k, .int .i64 x.a, .int .i64 x.b, .int .i64 x.c, .bool x.t]
  have pR2 := csAt_kept pR ky (by rw [size_setCells]; omega) (by simp)
  have SZ := SN.mono (SN.kept (SN.kept S1 kz (fun x hx => by simp at hx; omega)) ky (fun x hx => by simp at hx; omega)) (show w.heap.size ≤ wA.heap.size by omega)
  have BZ := below_setCells (w.heap.size + 1) (by omega) [.int .i64 x.k, .int .i64 x.a, .int .i64 x.b, .int .i64 x.c, .bool x.t] 0 _ (below_setCells w.heap.size (Nat.le_refl _) [.slice (some ⟨g, o, none⟩) bs.length c, .slice (some ⟨d, z, none⟩) dk.length dc] 0 _ B1)
  clear kz ky S1 B1 cR cT cT2 pR
  go_wp2
  refine bodyPost_ret (res_cc Tryz.results32 _ _ w.heap.size [.slice (some ⟨g, o, none⟩) bs.length c, .slice (some ⟨d, z, none⟩) dk.length dc] _ (w.heap.size + 1) [.int .i64 x.k, .int .i64 x.a, .int .i64 x.b, .int .i64 x.c, .bool x.t] _ rfl pR2.cells Tryz.underlying26 rfl (by kernel_rfl) rfl pT.cells Tryz.underlying42 rfl (by kernel_rfl)) rfl ?_
  exact ⟨g, o, c, bs, d, z, dc, dk, x, rfl, SZ, hx, BZ⟩
end Go.Proofs.YtbiokmojjneleaaGreat.PyF
