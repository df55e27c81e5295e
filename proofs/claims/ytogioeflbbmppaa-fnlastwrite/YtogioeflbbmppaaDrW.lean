/-
  Blocks that are drawn, one of them, a record, and whether it falls.
-/
import Derived.Test.YtogioeflbbmppaaDrwD
import Derived.Test.YtogioeflbbmppaaSpecB
import Derived.Test.YtogioeflbbmppaaFindN
namespace Go.Proofs.Ytogioeflbbmppaa.DrW
open Go.ChangeShapes Go.WideShapes Go.ChangeAt Go.RowKit Go.Shelf Big Fl ImplF ImplL Kp StA RmA DoA AlA DpA NwA Pick Draw EvA ImplB ImplS ImplU SpecC SpecD SpecW ImplW PyA FlB ClA DrB SpecB FindN ImplM
set_option linter.unusedVariables false
set_option linter.unusedSimpArgs false
attribute [local go_sem ↓] Go.wp_at_zero Go.wp_at_succ

theorem res_four {P : Program} {fn : Func} {p q r s : Tmp} {ty : TypeId} (h : fn.results = #[.tmp p, .tmp q, .cell r ty, .tmp s]) (tmps : Array Value) (w : World) (g : Nat) (cs : List Value) (d : TypeDesc)
    (hp : tmps.getD r undef = .pointer (some ⟨g, 0, none⟩)) (hg : w.rangeAt g 0 cs) (hu : P.underlying ty = some d) (hd : d.isRow = true) (hi : (P.info? ty).map (·.size) = some cs.length) :
    (results fn tmps).run P w = .ok (.tuple #[tmps.getD p undef, tmps.getD q undef, .agg cs.toArray, tmps.getD s undef]) w := by
  have hp' : tmps[r]?.getD undef = .pointer (some ⟨g, 0, none⟩) := by simpa using hp
  simp [results, h, hp', asAddr, run_loadVar_mid w g 0 ty cs d hg hu hd hi]
def DvPost (w : World) (e : Ending) (w' : World) : Prop := ∃ g o c bs k rk rs ra rv torn, e = .returned (.tuple #[.slice (some ⟨g, o, none⟩) bs.length c, .int .i64 k, .agg #[.int .i64 rk, .int .i64 rs, .int .i64 ra, .int .i64 rv], .bool torn]) ∧ FsN w.heap.size w' g o bs ∧ 0 ≤ k ∧ k ≤ 7 ∧ Below w.heap.size w w'
set_option maxRecDepth 100000 in
set_option maxHeartbeats 8000000 in
theorem drawWrite_any (w : World) (a : Option Addr) (len cap : Nat) (zs : List Int) (h : IsRow .u8 w a len cap zs) :
    Calls Try.prog 24 #[.slice a len cap] w fun e w' => DvPost w e w' := by
  have bA : Below w.heap.size w (w.alloc (.cells #[.int .i64 0, .int .i64 0, .int .i64 0, .int .i64 0] 25)) := (Below.refl _ _).alloc (Nat.le_refl _) _
  have cZ := CsAt.new w [.int .i64 0, .int .i64 0, .int .i64 0, .int .i64 0] 25
  have hsz : w.heap.size < (w.alloc (.cells #[.int .i64 0, .int .i64 0, .int .i64 0, .int .i64 0] 25)).heap.size := by simp
  have HO := hide (open_any _ a len cap zs (isRow_below h bA))
  have HRS := hide (show (Try.prog.info? 25).map (·.size) = some 4 by kernel_rfl)
  clear h
  go_enter Try.func24, Try.ntmps24
  go_wp2_with fail
  generalize w.alloc (.cells #[.int .i64 0, .int .i64 0, .int .i64 0, .int .i64 0] 25) = wA at *
  refine (unhide HO).mono ?_
  rintro e w1 ⟨rfl, len', hl', hrow, d1⟩
  clear HO
  have hlt := d1.lt
  go_wp2_with fail
  refine (flash_any wA wA w1 wA.heap.size a len' cap 0 hrow hl' d1 (by omega) (by omega)).mono ?_
  rintro e w2 ⟨g, o, c, bs, p', rfl, F2, hp0, hp1, d2, k2⟩
  have hs2 := k2.size
  go_wp2_with fail
  refine (rec_k wA wA w2 wA.heap.size a len' cap p' hrow hl' d2 (by omega) (by omega)).mono ?_
  rintro e w3 ⟨rk, rs, ra, rv, p3, rfl, p30, p31, d3, m3⟩
  have F3 := F2.kept m3 (fun x hx => by simp at hx; subst hx; exact hlt)
  have hs3 := m3.size
  have bX : Below w3.heap.size w3 (w3.alloc (.cells #[.int .i64 rk, .int .i64 rs, .int .i64 ra, .int .i64 rv] 25)) := (Below.refl _ _).alloc (Nat.le_refl _) _
  have cX := CsAt.new w3 [.int .i64 rk, .int .i64 rs, .int .i64 ra, .int .i64 rv] 25
  have d4 := d3.alloc (.cells #[.int .i64 rk, .int .i64 rs, .int .i64 ra, .int .i64 rv] 25)
  have K4 : Kept [wA.heap.size] w3 (w3.alloc (.cells #[.int .i64 rk, .int .i64 rs, .int .i64 ra, .int .i64 rv] 25)) := Kept.of bX
  have HFN := hide (fun (w' : World) (K : Kept [wA.heap.size] w3 w') => F3.kept K (fun x hx => by simp at hx; subst hx; exact hlt))
  have hb4 := F3.four
  have HPG := hide F3.pgs
  have HCZ := hide cZ
  have HBA := hide bA
  clear d1 d2 d3 F2 F3 k2 m3 cZ bX bA
  go_wp2_with fail
  generalize w3.alloc (.cells #[.int .i64 rk, .int .i64 rs, .int .i64 ra, .int .i64 rv] 25) = w4 at *
  have hxr : w3.heap.size ≠ wA.heap.size := by omega
  generalize hxb : w3.heap.size = xb at *
  have HXB := hide hxb
  clear hxb
  refine (pick_k wA wA w4 wA.heap.size a len' cap p3 3 hrow hl' d4 (by omega) (by omega) (by omega) (by omega)).mono ?_
  rintro e w5 ⟨r, rfl, r0, r1, d5, m5⟩
  have K5 := K4.trans m5
  have cX5 := csAt_kept cX m5 (cX.lt (by simp)) (by simp; omega)
  clear d4 K4 cX m5
  by_cases hr : 0 < r
  · go_wp2_with fail
    refine (specNext_any _ c bs w5 (unhide HFN _ K5).fs (by omega) (fun b hb => by have := unhide HPG b hb; omega)).mono ?_
    rintro e w6 ⟨rfl, b6⟩
    have K6 := K5.trans (Kept.of b6)
    have d6 := rd_kept d5 (Kept.of (L := []) b6) (by simp)
    have cX6 := cX5.below b6 (cX5.lt (by simp))
    clear K5 d5 cX5 b6
    generalize nextR bs = nx at *
    by_cases hn1 : nx < 1
    · obtain ⟨E, hE⟩ : ∃ E : Int, E = 1 := ⟨_, rfl⟩
      have d7 := d6.setCell (b := xb) (o := 1) hxr (by omega) (.int .i64 E)
      have K7 := K6.setCell (p := ⟨xb, 1, none⟩) (.inr (by have := unhide HXB; simp; omega)) (.int .i64 E)
      have cX7 := csAt_set cX6 1 (by simp) (.int .i64 E)
      have c61 := cX6.cell 1 _ rfl
      have f61 := cX6.frozen 1 (by simp)
      simp only [List.set_cons_succ, List.set_cons_zero] at cX7
      have HD7 := hide d7
      have HK7 := hide K7
      have HC7 := hide cX7
      clear K6 d6 cX6 d7 K7 cX7
      subst hE
      go_wp2_with fail
      have dX := unhide HD7
      have KX := unhide HK7
      have cX := unhide HC7
      clear HD7 HK7 HC7 c61 f61
      generalize w6.setCell ⟨xb, 1, none⟩ (.int .i64 1) = wX at *
      obtain ⟨E, cX⟩ : ∃ E : Int, CsAt wX xb [.int .i64 rk, .int .i64 E, .int .i64 ra, .int .i64 rv] := ⟨_, cX⟩
      refine (pick_k wA wA wX wA.heap.size a len' cap (p3 + 1) 4 hrow hl' dX (by omega) (by omega) (by omega) (by omega)).mono ?_
      rintro e w8 ⟨k, rfl, k0, k1, d8, m8⟩
      have K8 := KX.trans m8
      have c8 := csAt_kept cX m8 (cX.lt (by simp)) (by simp; omega)
      clear dX KX cX m8
      have HD := hide d8
      have HK := hide K8
      have HC := hide c8
      clear d8 K8 c8
      go_wp2
      go_loopw [9, 10] (fun q i w' => ∃ (j : Nat) (kk : Int), j ≤ 3 ∧ i = .int .i64 j ∧ q = .int .i64 kk ∧ 0 ≤ kk ∧ kk < 4 ∧ Rd wA wA wA.heap.size a len' cap (p3 + 1 + 1) w' ∧ Kept [wA.heap.size] w3 w' ∧ CsAt w' xb [.int .i64 rk, .int .i64 E, .int .i64 ra, .int .i64 rv]) (fun _ i _ => 3 - (intOf i).toNat)
      case atStart => exact ⟨0, k, by omega, rfl, rfl, k0, k1, unhide HD, unhide HK, unhide HC⟩
      case round =>
        obtain ⟨j, kk, hj, rfl, rfl, kk0, kk1, dL, KL, cL⟩ := hrel
        clear HD HK HC
        by_cases hj3 : j = 3
        · subst hj3
          go_upto_region 11 with fail
          have hlL := cL.lt (by simp)
          have hcz0 := csAt_kept (unhide HCZ) dL.kp hsz (by simp; omega)
          have hzL := hcz0.lt (by simp)
          refine wp_region_noPanic ?_
          refine wp_region_held_drew (S := fun w' => Kept [wA.heap.size, w.heap.size] wr w') (by kernel_rfl) ((Kept.refl _ _).drew) (fun hHeld => ?_)
          refine takeL 0 (.slice (some ⟨g, o, none⟩) bs.length c) rfl (by kernel_rfl) (by kernel_rfl) (by kernel_rfl) (fun _ _ _ h => h) (Or.inl ⟨rfl, fun _ _ => rfl⟩) hHeld ?_
          try simp only [Act.put, List.setIfInBounds_toArray, List.set_cons_zero, List.set_cons_succ]
          refine takeL 1 (.int .i64 kk) rfl (by kernel_rfl) (by kernel_rfl) (by kernel_rfl) (fun _ _ _ h => h) (Or.inl ⟨rfl, fun _ _ => rfl⟩) hHeld ?_
          try simp only [Act.put, List.setIfInBounds_toArray, List.set_cons_zero, List.set_cons_succ]
          refine takeL 2 (.pointer (some ⟨wA.heap.size, 0, none⟩)) rfl (by kernel_rfl) (by kernel_rfl) (by kernel_rfl) (fun _ _ _ h => h) (Or.inl ⟨rfl, fun _ _ => rfl⟩) hHeld ?_
          try simp only [Act.put, List.setIfInBounds_toArray, List.set_cons_zero, List.set_cons_succ]
          refine takeL 7 (.agg #[.int .i64 rk, .int .i64 E, .int .i64 ra, .int .i64 rv]) rfl (by kernel_rfl) (by kernel_rfl) (by kernel_rfl) (fun _ _ _ h => h) (yieldsIf_load_mid rfl 25 _ rfl xb 0 rfl [.int .i64 rk, .int .i64 E, .int .i64 ra, .int .i64 rv] _ (fun _ hS => hS.range cL.cells hlL (by simp; omega)) Try.underlying25 rfl (unhide HRS)) hHeld ?_
          try simp only [Act.put, List.setIfInBounds_toArray, List.set_cons_zero, List.set_cons_succ]
          refine takeL 8 (.pointer (some ⟨wA.heap.size, 0, none⟩)) rfl (by kernel_rfl) (by kernel_rfl) (by kernel_rfl) (fun _ _ _ h => h) (Or.inl ⟨rfl, fun _ _ => rfl⟩) hHeld ?_
          try simp only [Act.put, List.setIfInBounds_toArray, List.set_cons_zero, List.set_cons_succ]
          have dD := dL.drew
          refine oneL 3 rfl (by kernel_rfl) rfl (fun K hK => ?_)
          go_simp
          refine (pick_k wA wA _ wA.heap.size a len' cap (p3 + 1 + 1) 24 hrow hl' dD (by omega) (by omega) (by omega) (by omega)).mono ?_
          rintro e w99 ⟨s9, rfl, s90, s91, d9, m9⟩
          go_wp2_with fail
          refine hK.out _ _ (hHeld.trans (m9.sub (fun x hx => by simp at hx; simp [hx]))) (fun hHeld => ?_)
          clear hK K
          try simp only [Act.put, List.setIfInBounds_toArray, List.set_cons_zero, List.set_cons_succ]
          obtain ⟨q, hq, hq0, hq1⟩ : ∃ q : Int, s9.tdiv 23 = q ∧ 0 ≤ q ∧ q ≤ 1 := by
            by_cases hs : s9 = 23
            · subst hs; exact ⟨1, rfl, by omega, by omega⟩
            · exact ⟨0, Int.tdiv_eq_zero_of_lt s90 (by omega), by omega, by omega⟩
          have hwq : IntKind.i64.wrap q = q := by
            rw [IntKind.wrap_i64]; omega
          have hwm : IntKind.i64.wrap (q * 4) = q * 4 := by
            rw [IntKind.wrap_i64]; omega
          have hwa : IntKind.i64.wrap (kk + q * 4) = kk + q * 4 := by
            rw [IntKind.wrap_i64]; omega
          refine takeL 4 (.int .i64 q) rfl (by kernel_rfl) (by kernel_rfl) (by kernel_rfl) (fun _ _ _ h => h) (Or.inl ⟨rfl, fun w9 hSw => by go_simp⟩) hHeld ?_
          try simp only [Act.put, List.setIfInBounds_toArray, List.set_cons_zero, List.set_cons_succ]
          refine takeL 5 (.int .i64 (q * 4)) rfl (by kernel_rfl) (by kernel_rfl) (by kernel_rfl) (fun _ _ _ h => h) (Or.inl ⟨rfl, fun w9 hSw => by go_simp⟩) hHeld ?_
          try simp only [Act.put, List.setIfInBounds_toArray, List.set_cons_zero, List.set_cons_succ]
          refine takeL 6 (.int .i64 (kk + q * 4)) rfl (by kernel_rfl) (by kernel_rfl) (by kernel_rfl) (fun _ _ _ h => h) (Or.inl ⟨rfl, fun w9 hSw => by go_simp⟩) hHeld ?_
          try simp only [Act.put, List.setIfInBounds_toArray, List.set_cons_zero, List.set_cons_succ]
          refine oneL 9 rfl (by kernel_rfl) rfl (fun K hK => ?_)
          go_simp
          refine (pick_k wA wA _ wA.heap.size a len' cap (p3 + 1 + 1 + 1) 3 hrow hl' d9 (by omega) (by omega) (by omega) (by omega)).mono ?_
          rintro e wA9 ⟨sA, rfl, sA0, sA1, dA, mA⟩
          go_wp2_with fail
          refine hK.out _ _ (hHeld.trans (mA.sub (fun x hx => by simp at hx; simp [hx]))) (fun hHeld => ?_)
          clear hK K
          try simp only [Act.put, List.setIfInBounds_toArray, List.set_cons_zero, List.set_cons_succ]
          refine takeL 10 (.bool (sA == 0)) rfl (by kernel_rfl) (by kernel_rfl) (by kernel_rfl) (fun _ _ _ h => h) (Or.inl ⟨rfl, fun w9 hSw => by go_simp⟩) hHeld ?_
          try simp only [Act.put, List.setIfInBounds_toArray, List.set_cons_zero, List.set_cons_succ]
          refine takeL 11 (.slice (some ⟨g, o, none⟩) bs.length c) rfl (by kernel_rfl) (by kernel_rfl) (by kernel_rfl) (fun _ _ _ h => h) (Or.inl ⟨rfl, fun _ _ => rfl⟩) hHeld ?_
          try simp only [Act.put, List.setIfInBounds_toArray, List.set_cons_zero, List.set_cons_succ]
          refine takeL 12 (.int .i64 (kk + q * 4)) rfl (by kernel_rfl) (by kernel_rfl) (by kernel_rfl) (fun _ _ _ h => h) (Or.inl ⟨rfl, fun _ _ => rfl⟩) hHeld ?_
          try simp only [Act.put, List.setIfInBounds_toArray, List.set_cons_zero, List.set_cons_succ]
          have z9 := csAt_kept (csAt_drew hcz0) m9 hzL (by simp; omega)
          have zA := csAt_kept z9 mA (z9.lt (by simp)) (by simp; omega)
          have tZ := zA.free
          refine oneL 13 rfl (by kernel_rfl) rfl (fun K hK => ?_)
          refine wp_store_mid 25 _ _ rfl w.heap.size 0 ([.int .i64 rk, .int .i64 E, .int .i64 ra, .int .i64 rv]).toArray rfl rfl tZ (unhide HRS) (all_oneCell_toArray (by intro v hv; simp at hv; rcases hv with rfl | rfl | rfl | rfl <;> rfl)) ?_
          refine hK.out _ _ (hHeld.setCells (.inl (by simp)) _ _) (fun hHeld => ?_)
          clear hK K
          try simp only [Act.put, List.setIfInBounds_toArray, List.set_cons_zero, List.set_cons_succ]
          refine takeL 14 (.bool (sA == 0)) rfl (by kernel_rfl) (by kernel_rfl) (by kernel_rfl) (fun _ _ _ h => h) (Or.inl ⟨rfl, fun _ _ => rfl⟩) hHeld ?_
          try simp only [Act.put, List.setIfInBounds_toArray, List.set_cons_zero, List.set_cons_succ]
          refine wpAnyH_done (by kernel_rfl) ?_ _
          refine NoPanic.normal ?_
          go_wp2
          refine bodyPost_ret (res_four Try.results24 _ _ w.heap.size [.int .i64 rk, .int .i64 E, .int .i64 ra, .int .i64 rv] _ rfl (World.rangeAt_setCells_same _ _ _ _ tZ) Try.underlying25 rfl (unhide HRS)) rfl ?_
          have KA := (KL.drew.trans m9).trans mA
          have FA := FsN.mono ((unhide HFN _ KA).kept (kept_cells wA9 w.heap.size 0 [.int .i64 rk, .int .i64 E, .int .i64 ra, .int .i64 rv]) (fun x hx => by simp at hx; subst hx; omega)) (show w.heap.size ≤ w1.heap.size by omega)
          have BA := ((Kept.of (L := []) ((unhide HBA).trans (dA.bel.mono (Nat.le_of_lt hsz)))).setCells (b := w.heap.size) (.inr (Nat.le_refl _)) 0 [.int .i64 rk, .int .i64 E, .int .i64 ra, .int .i64 rv]).all (by simp)
          exact ⟨g, o, c, bs, kk + q * 4, rk, E, ra, rv, (sA == 0), rfl, FA, by omega, by omega, BA⟩
        have hji : (j : Int) < 3 := by omega
        go_wp2_with fail
        refine (specClean_any _ c kk bs wr (unhide HFN _ KL).fs (by omega)).mono ?_
        rintro e wc ⟨rfl, bc⟩
        replace KL := KL.trans (Kept.of bc)
        replace dL := rd_kept dL (Kept.of (L := []) bc) (by simp)
        replace cL := cL.below bc (cL.lt (by simp))
        clear bc
        generalize cleanR bs kk = cv at *
        by_cases hcv : cv = 0
        · subst hcv
          obtain ⟨k', hk', k0', k1'⟩ : ∃ k' : Int, (kk + 1).tmod 4 = k' ∧ 0 ≤ k' ∧ k' < 4 := ⟨_, rfl, Int.tmod_nonneg 4 (by omega), Int.tmod_lt_of_pos _ (by omega)⟩
          have HDL := hide dL
          have HKL := hide KL
          have HCL := hide cL
          clear dL KL cL
          go_wp2
          go_roundw
          case rel => exact ⟨j + 1, k', by omega, by first | rfl | go_num, by first | rfl | rw [hk'] | simp [hk'], k0', k1', unhide HDL, unhide HKL, unhide HCL⟩
          case measure => simp [intOf]; omega
        · have hcz : (cv == 0) = false := by simpa using hcv
          go_upto_region 11 with fail
          have hlL := cL.lt (by simp)
          have hcz0 := csAt_kept (unhide HCZ) dL.kp hsz (by simp; omega)
          have hzL := hcz0.lt (by simp)
          refine wp_region_noPanic ?_
          refine wp_region_held_drew (S := fun w' => Kept [wA.heap.size, w.heap.size] wc w') (by kernel_rfl) ((Kept.refl _ _).drew) (fun hHeld => ?_)
          refine takeL 0 (.slice (some ⟨g, o, none⟩) bs.length c) rfl (by kernel_rfl) (by kernel_rfl) (by kernel_rfl) (fun _ _ _ h => h) (Or.inl ⟨rfl, fun _ _ => rfl⟩) hHeld ?_
          try simp only [Act.put, List.setIfInBounds_toArray, List.set_cons_zero, List.set_cons_succ]
          refine takeL 1 (.int .i64 kk) rfl (by kernel_rfl) (by kernel_rfl) (by kernel_rfl) (fun _ _ _ h => h) (Or.inl ⟨rfl, fun _ _ => rfl⟩) hHeld ?_
          try simp only [Act.put, List.setIfInBounds_toArray, List.set_cons_zero, List.set_cons_succ]
          refine takeL 2 (.pointer (some ⟨wA.heap.size, 0, none⟩)) rfl (by kernel_rfl) (by kernel_rfl) (by kernel_rfl) (fun _ _ _ h => h) (Or.inl ⟨rfl, fun _ _ => rfl⟩) hHeld ?_
          try simp only [Act.put, List.setIfInBounds_toArray, List.set_cons_zero, List.set_cons_succ]
          refine takeL 7 (.agg #[.int .i64 rk, .int .i64 E, .int .i64 ra, .int .i64 rv]) rfl (by kernel_rfl) (by kernel_rfl) (by kernel_rfl) (fun _ _ _ h => h) (yieldsIf_load_mid rfl 25 _ rfl xb 0 rfl [.int .i64 rk, .int .i64 E, .int .i64 ra, .int .i64 rv] _ (fun _ hS => hS.range cL.cells hlL (by simp; omega)) Try.underlying25 rfl (unhide HRS)) hHeld ?_
          try simp only [Act.put, List.setIfInBounds_toArray, List.set_cons_zero, List.set_cons_succ]
          refine takeL 8 (.pointer (some ⟨wA.heap.size, 0, none⟩)) rfl (by kernel_rfl) (by kernel_rfl) (by kernel_rfl) (fun _ _ _ h => h) (Or.inl ⟨rfl, fun _ _ => rfl⟩) hHeld ?_
          try simp only [Act.put, List.setIfInBounds_toArray, List.set_cons_zero, List.set_cons_succ]
          have dD := dL.drew
          refine oneL 3 rfl (by kernel_rfl) rfl (fun K hK => ?_)
          go_simp
          refine (pick_k wA wA _ wA.heap.size a len' cap (p3 + 1 + 1) 24 hrow hl' dD (by omega) (by omega) (by omega) (by omega)).mono ?_
          rintro e w99 ⟨s9, rfl, s90, s91, d9, m9⟩
          go_wp2_with fail
          refine hK.out _ _ (hHeld.trans (m9.sub (fun x hx => by simp at hx; simp [hx]))) (fun hHeld => ?_)
          clear hK K
          try simp only [Act.put, List.setIfInBounds_toArray, List.set_cons_zero, List.set_cons_succ]
          obtain ⟨q, hq, hq0, hq1⟩ : ∃ q : Int, s9.tdiv 23 = q ∧ 0 ≤ q ∧ q ≤ 1 := by
            by_cases hs : s9 = 23
            · subst hs; exact ⟨1, rfl, by omega, by omega⟩
            · exact ⟨0, Int.tdiv_eq_zero_of_lt s90 (by omega), by omega, by omega⟩
          have hwq : IntKind.i64.wrap q = q := by
            rw [IntKind.wrap_i64]; omega
          have hwm : IntKind.i64.wrap (q * 4) = q * 4 := by
            rw [IntKind.wrap_i64]; omega
          have hwa : IntKind.i64.wrap (kk + q * 4) = kk + q * 4 := by
            rw [IntKind.wrap_i64]; omega
          refine takeL 4 (.int .i64 q) rfl (by kernel_rfl) (by kernel_rfl) (by kernel_rfl) (fun _ _ _ h => h) (Or.inl ⟨rfl, fun w9 hSw => by go_simp⟩) hHeld ?_
          try simp only [Act.put, List.setIfInBounds_toArray, List.set_cons_zero, List.set_cons_succ]
          refine takeL 5 (.int .i64 (q * 4)) rfl (by kernel_rfl) (by kernel_rfl) (by kernel_rfl) (fun _ _ _ h => h) (Or.inl ⟨rfl, fun w9 hSw => by go_simp⟩) hHeld ?_
          try simp only [Act.put, List.setIfInBounds_toArray, List.set_cons_zero, List.set_cons_succ]
          refine takeL 6 (.int .i64 (kk + q * 4)) rfl (by kernel_rfl) (by kernel_rfl) (by kernel_rfl) (fun _ _ _ h => h) (Or.inl ⟨rfl, fun w9 hSw => by go_simp⟩) hHeld ?_
          try simp only [Act.put, List.setIfInBounds_toArray, List.set_cons_zero, List.set_cons_succ]
          refine oneL 9 rfl (by kernel_rfl) rfl (fun K hK => ?_)
          go_simp
          refine (pick_k wA wA _ wA.heap.size a len' cap (p3 + 1 + 1 + 1) 3 hrow hl' d9 (by omega) (by omega) (by omega) (by omega)).mono ?_
          rintro e wA9 ⟨sA, rfl, sA0, sA1, dA, mA⟩
          go_wp2_with fail
          refine hK.out _ _ (hHeld.trans (mA.sub (fun x hx => by simp at hx; simp [hx]))) (fun hHeld => ?_)
          clear hK K
          try simp only [Act.put, List.setIfInBounds_toArray, List.set_cons_zero, List.set_cons_succ]
          refine takeL 10 (.bool (sA == 0)) rfl (by kernel_rfl) (by kernel_rfl) (by kernel_rfl) (fun _ _ _ h => h) (Or.inl ⟨rfl, fun w9 hSw => by go_simp⟩) hHeld ?_
          try simp only [Act.put, List.setIfInBounds_toArray, List.set_cons_zero, List.set_cons_succ]
          refine takeL 11 (.slice (some ⟨g, o, none⟩) bs.length c) rfl (by kernel_rfl) (by kernel_rfl) (by kernel_rfl) (fun _ _ _ h => h) (Or.inl ⟨rfl, fun _ _ => rfl⟩) hHeld ?_
          try simp only [Act.put, List.setIfInBounds_toArray, List.set_cons_zero, List.set_cons_succ]
          refine takeL 12 (.int .i64 (kk + q * 4)) rfl (by kernel_rfl) (by kernel_rfl) (by kernel_rfl) (fun _ _ _ h => h) (Or.inl ⟨rfl, fun _ _ => rfl⟩) hHeld ?_
          try simp only [Act.put, List.setIfInBounds_toArray, List.set_cons_zero, List.set_cons_succ]
          have z9 := csAt_kept (csAt_drew hcz0) m9 hzL (by simp; omega)
          have zA := csAt_kept z9 mA (z9.lt (by simp)) (by simp; omega)
          have tZ := zA.free
          refine oneL 13 rfl (by kernel_rfl) rfl (fun K hK => ?_)
          refine wp_store_mid 25 _ _ rfl w.heap.size 0 ([.int .i64 rk, .int .i64 E, .int .i64 ra, .int .i64 rv]).toArray rfl rfl tZ (unhide HRS) (all_oneCell_toArray (by intro v hv; simp at hv; rcases hv with rfl | rfl | rfl | rfl <;> rfl)) ?_
          refine hK.out _ _ (hHeld.setCells (.inl (by simp)) _ _) (fun hHeld => ?_)
          clear hK K
          try simp only [Act.put, List.setIfInBounds_toArray, List.set_cons_zero, List.set_cons_succ]
          refine takeL 14 (.bool (sA == 0)) rfl (by kernel_rfl) (by kernel_rfl) (by kernel_rfl) (fun _ _ _ h => h) (Or.inl ⟨rfl, fun _ _ => rfl⟩) hHeld ?_
          try simp only [Act.put, List.setIfInBounds_toArray, List.set_cons_zero, List.set_cons_succ]
          refine wpAnyH_done (by kernel_rfl) ?_ _
          refine NoPanic.normal ?_
          go_wp2
          refine bodyPost_ret (res_four Try.results24 _ _ w.heap.size [.int .i64 rk, .int .i64 E, .int .i64 ra, .int .i64 rv] _ rfl (World.rangeAt_setCells_same _ _ _ _ tZ) Try.underlying25 rfl (unhide HRS)) rfl ?_
          have KA := (KL.drew.trans m9).trans mA
          have FA := FsN.mono ((unhide HFN _ KA).kept (kept_cells wA9 w.heap.size 0 [.int .i64 rk, .int .i64 E, .int .i64 ra, .int .i64 rv]) (fun x hx => by simp at hx; subst hx; omega)) (show w.heap.size ≤ w1.heap.size by omega)
          have BA := ((Kept.of (L := []) ((unhide HBA).trans (dA.bel.mono (Nat.le_of_lt hsz)))).setCells (b := w.heap.size) (.inr (Nat.le_refl _)) 0 [.int .i64 rk, .int .i64 E, .int .i64 ra, .int .i64 rv]).all (by simp)
          exact ⟨g, o, c, bs, kk + q * 4, rk, E, ra, rv, (sA == 0), rfl, FA, by omega, by omega, BA⟩
    by_cases hn2 : 600 < nx
    · obtain ⟨E, hE⟩ : ∃ E : Int, E = 600 := ⟨_, rfl⟩
      have d7 := d6.setCell (b := xb) (o := 1) hxr (by omega) (.int .i64 E)
      have K7 := K6.setCell (p := ⟨xb, 1, none⟩) (.inr (by have := unhide HXB; simp; omega)) (.int .i64 E)
      have cX7 := csAt_set cX6 1 (by simp) (.int .i64 E)
      have c61 := cX6.cell 1 _ rfl
      have f61 := cX6.frozen 1 (by simp)
      simp only [List.set_cons_succ, List.set_cons_zero] at cX7
      have HD7 := hide d7
      have HK7 := hide K7
      have HC7 := hide cX7
      clear K6 d6 cX6 d7 K7 cX7
      subst hE
      go_wp2_with fail
      have dX := unhide HD7
      have KX := unhide HK7
      have cX := unhide HC7
      clear HD7 HK7 HC7 c61 f61
      generalize w6.setCell ⟨xb, 1, none⟩ (.int .i64 600) = wX at *
      obtain ⟨E, cX⟩ : ∃ E : Int, CsAt wX xb [.int .i64 rk, .int .i64 E, .int .i64 ra, .int .i64 rv] := ⟨_, cX⟩
      refine (pick_k wA wA wX wA.heap.size a len' cap (p3 + 1) 4 hrow hl' dX (by omega) (by omega) (by omega) (by omega)).mono ?_
      rintro e w8 ⟨k, rfl, k0, k1, d8, m8⟩
      have K8 := KX.trans m8
      have c8 := csAt_kept cX m8 (cX.lt (by simp)) (by simp; omega)
      clear dX KX cX m8
      have HD := hide d8
      have HK := hide K8
      have HC := hide c8
      clear d8 K8 c8
      go_wp2
      go_loopw [9, 10] (fun q i w' => ∃ (j : Nat) (kk : Int), j ≤ 3 ∧ i = .int .i64 j ∧ q = .int .i64 kk ∧ 0 ≤ kk ∧ kk < 4 ∧ Rd wA wA wA.heap.size a len' cap (p3 + 1 + 1) w' ∧ Kept [wA.heap.size] w3 w' ∧ CsAt w' xb [.int .i64 rk, .int .i64 E, .int .i64 ra, .int .i64 rv]) (fun _ i _ => 3 - (intOf i).toNat)
      case atStart => exact ⟨0, k, by omega, rfl, rfl, k0, k1, unhide HD, unhide HK, unhide HC⟩
      case round =>
        obtain ⟨j, kk, hj, rfl, rfl, kk0, kk1, dL, KL, cL⟩ := hrel
        clear HD HK HC
        by_cases hj3 : j = 3
        · subst hj3
          go_upto_region 11 with fail
          have hlL := cL.lt (by simp)
          have hcz0 := csAt_kept (unhide HCZ) dL.kp hsz (by simp; omega)
          have hzL := hcz0.lt (by simp)
          refine wp_region_noPanic ?_
          refine wp_region_held_drew (S := fun w' => Kept [wA.heap.size, w.heap.size] wr w') (by kernel_rfl) ((Kept.refl _ _).drew) (fun hHeld => ?_)
          refine takeL 0 (.slice (some ⟨g, o, none⟩) bs.length c) rfl (by kernel_rfl) (by kernel_rfl) (by kernel_rfl) (fun _ _ _ h => h) (Or.inl ⟨rfl, fun _ _ => rfl⟩) hHeld ?_
          try simp only [Act.put, List.setIfInBounds_toArray, List.set_cons_zero, List.set_cons_succ]
          refine takeL 1 (.int .i64 kk) rfl (by kernel_rfl) (by kernel_rfl) (by kernel_rfl) (fun _ _ _ h => h) (Or.inl ⟨rfl, fun _ _ => rfl⟩) hHeld ?_
          try simp only [Act.put, List.setIfInBounds_toArray, List.set_cons_zero, List.set_cons_succ]
          refine takeL 2 (.pointer (some ⟨wA.heap.size, 0, none⟩)) rfl (by kernel_rfl) (by kernel_rfl) (by kernel_rfl) (fun _ _ _ h => h) (Or.inl ⟨rfl, fun _ _ => rfl⟩) hHeld ?_
          try simp only [Act.put, List.setIfInBounds_toArray, List.set_cons_zero, List.set_cons_succ]
          refine takeL 7 (.agg #[.int .i64 rk, .int .i64 E, .int .i64 ra, .int .i64 rv]) rfl (by kernel_rfl) (by kernel_rfl) (by kernel_rfl) (fun _ _ _ h => h) (yieldsIf_load_mid rfl 25 _ rfl xb 0 rfl [.int .i64 rk, .int .i64 E, .int .i64 ra, .int .i64 rv] _ (fun _ hS => hS.range cL.cells hlL (by simp; omega)) Try.underlying25 rfl (unhide HRS)) hHeld ?_
          try simp only [Act.put, List.setIfInBounds_toArray, List.set_cons_zero, List.set_cons_succ]
          refine takeL 8 (.pointer (some ⟨wA.heap.size, 0, none⟩)) rfl (by kernel_rfl) (by kernel_rfl) (by kernel_rfl) (fun _ _ _ h => h) (Or.inl ⟨rfl, fun _ _ => rfl⟩) hHeld ?_
          try simp only [Act.put, List.setIfInBounds_toArray, List.set_cons_zero, List.set_cons_succ]
          have dD := dL.drew
          refine oneL 3 rfl (by kernel_rfl) rfl (fun K hK => ?_)
          go_simp
          refine (pick_k wA wA _ wA.heap.size a len' cap (p3 + 1 + 1) 24 hrow hl' dD (by omega) (by omega) (by omega) (by omega)).mono ?_
          rintro e w99 ⟨s9, rfl, s90, s91, d9, m9⟩
          go_wp2_with fail
          refine hK.out _ _ (hHeld.trans (m9.sub (fun x hx => by simp at hx; simp [hx]))) (fun hHeld => ?_)
          clear hK K
          try simp only [Act.put, List.setIfInBounds_toArray, List.set_cons_zero, List.set_cons_succ]
          obtain ⟨q, hq, hq0, hq1⟩ : ∃ q : Int, s9.tdiv 23 = q ∧ 0 ≤ q ∧ q ≤ 1 := by
            by_cases hs : s9 = 23
            · subst hs; exact ⟨1, rfl, by omega, by omega⟩
            · exact ⟨0, Int.tdiv_eq_zero_of_lt s90 (by omega), by omega, by omega⟩
          have hwq : IntKind.i64.wrap q = q := by
            rw [IntKind.wrap_i64]; omega
          have hwm : IntKind.i64.wrap (q * 4) = q * 4 := by
            rw [IntKind.wrap_i64]; omega
          have hwa : IntKind.i64.wrap (kk + q * 4) = kk + q * 4 := by
            rw [IntKind.wrap_i64]; omega
          refine takeL 4 (.int .i64 q) rfl (by kernel_rfl) (by kernel_rfl) (by kernel_rfl) (fun _ _ _ h => h) (Or.inl ⟨rfl, fun w9 hSw => by go_simp⟩) hHeld ?_
          try simp only [Act.put, List.setIfInBounds_toArray, List.set_cons_zero, List.set_cons_succ]
          refine takeL 5 (.int .i64 (q * 4)) rfl (by kernel_rfl) (by kernel_rfl) (by kernel_rfl) (fun _ _ _ h => h) (Or.inl ⟨rfl, fun w9 hSw => by go_simp⟩) hHeld ?_
          try simp only [Act.put, List.setIfInBounds_toArray, List.set_cons_zero, List.set_cons_succ]
          refine takeL 6 (.int .i64 (kk + q * 4)) rfl (by kernel_rfl) (by kernel_rfl) (by kernel_rfl) (fun _ _ _ h => h) (Or.inl ⟨rfl, fun w9 hSw => by go_simp⟩) hHeld ?_
          try simp only [Act.put, List.setIfInBounds_toArray, List.set_cons_zero, List.set_cons_succ]
          refine oneL 9 rfl (by kernel_rfl) rfl (fun K hK => ?_)
          go_simp
          refine (pick_k wA wA _ wA.heap.size a len' cap (p3 + 1 + 1 + 1) 3 hrow hl' d9 (by omega) (by omega) (by omega) (by omega)).mono ?_
          rintro e wA9 ⟨sA, rfl, sA0, sA1, dA, mA⟩
          go_wp2_with fail
          refine hK.out _ _ (hHeld.trans (mA.sub (fun x hx => by simp at hx; simp [hx]))) (fun hHeld => ?_)
          clear hK K
          try simp only [Act.put, List.setIfInBounds_toArray, List.set_cons_zero, List.set_cons_succ]
          refine takeL 10 (.bool (sA == 0)) rfl (by kernel_rfl) (by kernel_rfl) (by kernel_rfl) (fun _ _ _ h => h) (Or.inl ⟨rfl, fun w9 hSw => by go_simp⟩) hHeld ?_
          try simp only [Act.put, List.setIfInBounds_toArray, List.set_cons_zero, List.set_cons_succ]
          refine takeL 11 (.slice (some ⟨g, o, none⟩) bs.length c) rfl (by kernel_rfl) (by kernel_rfl) (by kernel_rfl) (fun _ _ _ h => h) (Or.inl ⟨rfl, fun _ _ => rfl⟩) hHeld ?_
          try simp only [Act.put, List.setIfInBounds_toArray, List.set_cons_zero, List.set_cons_succ]
          refine takeL 12 (.int .i64 (kk + q * 4)) rfl (by kernel_rfl) (by kernel_rfl) (by kernel_rfl) (fun _ _ _ h => h) (Or.inl ⟨rfl, fun _ _ => rfl⟩) hHeld ?_
          try simp only [Act.put, List.setIfInBounds_toArray, List.set_cons_zero, List.set_cons_succ]
          have z9 := csAt_kept (csAt_drew hcz0) m9 hzL (by simp; omega)
          have zA := csAt_kept z9 mA (z9.lt (by simp)) (by simp; omega)
          have tZ := zA.free
          refine oneL 13 rfl (by kernel_rfl) rfl (fun K hK => ?_)
          refine wp_store_mid 25 _ _ rfl w.heap.size 0 ([.int .i64 rk, .int .i64 E, .int .i64 ra, .int .i64 rv]).toArray rfl rfl tZ (unhide HRS) (all_oneCell_toArray (by intro v hv; simp at hv; rcases hv with rfl | rfl | rfl | rfl <;> rfl)) ?_
          refine hK.out _ _ (hHeld.setCells (.inl (by simp)) _ _) (fun hHeld => ?_)
          clear hK K
          try simp only [Act.put, List.setIfInBounds_toArray, List.set_cons_zero, List.set_cons_succ]
          refine takeL 14 (.bool (sA == 0)) rfl (by kernel_rfl) (by kernel_rfl) (by kernel_rfl) (fun _ _ _ h => h) (Or.inl ⟨rfl, fun _ _ => rfl⟩) hHeld ?_
          try simp only [Act.put, List.setIfInBounds_toArray, List.set_cons_zero, List.set_cons_succ]
          refine wpAnyH_done (by kernel_rfl) ?_ _
          refine NoPanic.normal ?_
          go_wp2
          refine bodyPost_ret (res_four Try.results24 _ _ w.heap.size [.int .i64 rk, .int .i64 E, .int .i64 ra, .int .i64 rv] _ rfl (World.rangeAt_setCells_same _ _ _ _ tZ) Try.underlying25 rfl (unhide HRS)) rfl ?_
          have KA := (KL.drew.trans m9).trans mA
          have FA := FsN.mono ((unhide HFN _ KA).kept (kept_cells wA9 w.heap.size 0 [.int .i64 rk, .int .i64 E, .int .i64 ra, .int .i64 rv]) (fun x hx => by simp at hx; subst hx; omega)) (show w.heap.size ≤ w1.heap.size by omega)
          have BA := ((Kept.of (L := []) ((unhide HBA).trans (dA.bel.mono (Nat.le_of_lt hsz)))).setCells (b := w.heap.size) (.inr (Nat.le_refl _)) 0 [.int .i64 rk, .int .i64 E, .int .i64 ra, .int .i64 rv]).all (by simp)
          exact ⟨g, o, c, bs, kk + q * 4, rk, E, ra, rv, (sA == 0), rfl, FA, by omega, by omega, BA⟩
        have hji : (j : Int) < 3 := by omega
        go_wp2_with fail
        refine (specClean_any _ c kk bs wr (unhide HFN _ KL).fs (by omega)).mono ?_
        rintro e wc ⟨rfl, bc⟩
        replace KL := KL.trans (Kept.of bc)
        replace dL := rd_kept dL (Kept.of (L := []) bc) (by simp)
        replace cL := cL.below bc (cL.lt (by simp))
        clear bc
        generalize cleanR bs kk = cv at *
        by_cases hcv : cv = 0
        · subst hcv
          obtain ⟨k', hk', k0', k1'⟩ : ∃ k' : Int, (kk + 1).tmod 4 = k' ∧ 0 ≤ k' ∧ k' < 4 := ⟨_, rfl, Int.tmod_nonneg 4 (by omega), Int.tmod_lt_of_pos _ (by omega)⟩
          have HDL := hide dL
          have HKL := hide KL
          have HCL := hide cL
          clear dL KL cL
          go_wp2
          go_roundw
          case rel => exact ⟨j + 1, k', by omega, by first | rfl | go_num, by first | rfl | rw [hk'] | simp [hk'], k0', k1', unhide HDL, unhide HKL, unhide HCL⟩
          case measure => simp [intOf]; omega
        · have hcz : (cv == 0) = false := by simpa using hcv
          go_upto_region 11 with fail
          have hlL := cL.lt (by simp)
          have hcz0 := csAt_kept (unhide HCZ) dL.kp hsz (by simp; omega)
          have hzL := hcz0.lt (by simp)
          refine wp_region_noPanic ?_
          refine wp_region_held_drew (S := fun w' => Kept [wA.heap.size, w.heap.size] wc w') (by kernel_rfl) ((Kept.refl _ _).drew) (fun hHeld => ?_)
          refine takeL 0 (.slice (some ⟨g, o, none⟩) bs.length c) rfl (by kernel_rfl) (by kernel_rfl) (by kernel_rfl) (fun _ _ _ h => h) (Or.inl ⟨rfl, fun _ _ => rfl⟩) hHeld ?_
          try simp only [Act.put, List.setIfInBounds_toArray, List.set_cons_zero, List.set_cons_succ]
          refine takeL 1 (.int .i64 kk) rfl (by kernel_rfl) (by kernel_rfl) (by kernel_rfl) (fun _ _ _ h => h) (Or.inl ⟨rfl, fun _ _ => rfl⟩) hHeld ?_
          try simp only [Act.put, List.setIfInBounds_toArray, List.set_cons_zero, List.set_cons_succ]
          refine takeL 2 (.pointer (some ⟨wA.heap.size, 0, none⟩)) rfl (by kernel_rfl) (by kernel_rfl) (by kernel_rfl) (fun _ _ _ h => h) (Or.inl ⟨rfl, fun _ _ => rfl⟩) hHeld ?_
          try simp only [Act.put, List.setIfInBounds_toArray, List.set_cons_zero, List.set_cons_succ]
          refine takeL 7 (.agg #[.int .i64 rk, .int .i64 E, .int .i64 ra, .int .i64 rv]) rfl (by kernel_rfl) (by kernel_rfl) (by kernel_rfl) (fun _ _ _ h => h) (yieldsIf_load_mid rfl 25 _ rfl xb 0 rfl [.int .i64 rk, .int .i64 E, .int .i64 ra, .int .i64 rv] _ (fun _ hS => hS.range cL.cells hlL (by simp; omega)) Try.underlying25 rfl (unhide HRS)) hHeld ?_
          try simp only [Act.put, List.setIfInBounds_toArray, List.set_cons_zero, List.set_cons_succ]
          refine takeL 8 (.pointer (some ⟨wA.heap.size, 0, none⟩)) rfl (by kernel_rfl) (by kernel_rfl) (by kernel_rfl) (fun _ _ _ h => h) (Or.inl ⟨rfl, fun _ _ => rfl⟩) hHeld ?_
          try simp only [Act.put, List.setIfInBounds_toArray, List.set_cons_zero, List.set_cons_succ]
          have dD := dL.drew
          refine oneL 3 rfl (by kernel_rfl) rfl (fun K hK => ?_)
          go_simp
          refine (pick_k wA wA _ wA.heap.size a len' cap (p3 + 1 + 1) 24 hrow hl' dD (by omega) (by omega) (by omega) (by omega)).mono ?_
          rintro e w99 ⟨s9, rfl, s90, s91, d9, m9⟩
          go_wp2_with fail
          refine hK.out _ _ (hHeld.trans (m9.sub (fun x hx => by simp at hx; simp [hx]))) (fun hHeld => ?_)
          clear hK K
          try simp only [Act.put, List.setIfInBounds_toArray, List.set_cons_zero, List.set_cons_succ]
          obtain ⟨q, hq, hq0, hq1⟩ : ∃ q : Int, s9.tdiv 23 = q ∧ 0 ≤ q ∧ q ≤ 1 := by
            by_cases hs : s9 = 23
            · subst hs; exact ⟨1, rfl, by omega, by omega⟩
            · exact ⟨0, Int.tdiv_eq_zero_of_lt s90 (by omega), by omega, by omega⟩
          have hwq : IntKind.i64.wrap q = q := by
            rw [IntKind.wrap_i64]; omega
          have hwm : IntKind.i64.wrap (q * 4) = q * 4 := by
            rw [IntKind.wrap_i64]; omega
          have hwa : IntKind.i64.wrap (kk + q * 4) = kk + q * 4 := by
            rw [IntKind.wrap_i64]; omega
          refine takeL 4 (.int .i64 q) rfl (by kernel_rfl) (by kernel_rfl) (by kernel_rfl) (fun _ _ _ h => h) (Or.inl ⟨rfl, fun w9 hSw => by go_simp⟩) hHeld ?_
          try simp only [Act.put, List.setIfInBounds_toArray, List.set_cons_zero, List.set_cons_succ]
          refine takeL 5 (.int .i64 (q * 4)) rfl (by kernel_rfl) (by kernel_rfl) (by kernel_rfl) (fun _ _ _ h => h) (Or.inl ⟨rfl, fun w9 hSw => by go_simp⟩) hHeld ?_
          try simp only [Act.put, List.setIfInBounds_toArray, List.set_cons_zero, List.set_cons_succ]
          refine takeL 6 (.int .i64 (kk + q * 4)) rfl (by kernel_rfl) (by kernel_rfl) (by kernel_rfl) (fun _ _ _ h => h) (Or.inl ⟨rfl, fun w9 hSw => by go_simp⟩) hHeld ?_
          try simp only [Act.put, List.setIfInBounds_toArray, List.set_cons_zero, List.set_cons_succ]
          refine oneL 9 rfl (by kernel_rfl) rfl (fun K hK => ?_)
          go_simp
          refine (pick_k wA wA _ wA.heap.size a len' cap (p3 + 1 + 1 + 1) 3 hrow hl' d9 (by omega) (by omega) (by omega) (by omega)).mono ?_
          rintro e wA9 ⟨sA, rfl, sA0, sA1, dA, mA⟩
          go_wp2_with fail
          refine hK.out _ _ (hHeld.trans (mA.sub (fun x hx => by simp at hx; simp [hx]))) (fun hHeld => ?_)
          clear hK K
          try simp only [Act.put, List.setIfInBounds_toArray, List.set_cons_zero, List.set_cons_succ]
          refine takeL 10 (.bool (sA == 0)) rfl (by kernel_rfl) (by kernel_rfl) (by kernel_rfl) (fun _ _ _ h => h) (Or.inl ⟨rfl, fun w9 hSw => by go_simp⟩) hHeld ?_
          try simp only [Act.put, List.setIfInBounds_toArray, List.set_cons_zero, List.set_cons_succ]
          refine takeL 11 (.slice (some ⟨g, o, none⟩) bs.length c) rfl (by kernel_rfl) (by kernel_rfl) (by kernel_rfl) (fun _ _ _ h => h) (Or.inl ⟨rfl, fun _ _ => rfl⟩) hHeld ?_
          try simp only [Act.put, List.setIfInBounds_toArray, List.set_cons_zero, List.set_cons_succ]
          refine takeL 12 (.int .i64 (kk + q * 4)) rfl (by kernel_rfl) (by kernel_rfl) (by kernel_rfl) (fun _ _ _ h => h) (Or.inl ⟨rfl, fun _ _ => rfl⟩) hHeld ?_
          try simp only [Act.put, List.setIfInBounds_toArray, List.set_cons_zero, List.set_cons_succ]
          have z9 := csAt_kept (csAt_drew hcz0) m9 hzL (by simp; omega)
          have zA := csAt_kept z9 mA (z9.lt (by simp)) (by simp; omega)
          have tZ := zA.free
          refine oneL 13 rfl (by kernel_rfl) rfl (fun K hK => ?_)
          refine wp_store_mid 25 _ _ rfl w.heap.size 0 ([.int .i64 rk, .int .i64 E, .int .i64 ra, .int .i64 rv]).toArray rfl rfl tZ (unhide HRS) (all_oneCell_toArray (by intro v hv; simp at hv; rcases hv with rfl | rfl | rfl | rfl <;> rfl)) ?_
          refine hK.out _ _ (hHeld.setCells (.inl (by simp)) _ _) (fun hHeld => ?_)
          clear hK K
          try simp only [Act.put, List.setIfInBounds_toArray, List.set_cons_zero, List.set_cons_succ]
          refine takeL 14 (.bool (sA == 0)) rfl (by kernel_rfl) (by kernel_rfl) (by kernel_rfl) (fun _ _ _ h => h) (Or.inl ⟨rfl, fun _ _ => rfl⟩) hHeld ?_
          try simp only [Act.put, List.setIfInBounds_toArray, List.set_cons_zero, List.set_cons_succ]
          refine wpAnyH_done (by kernel_rfl) ?_ _
          refine NoPanic.normal ?_
          go_wp2
          refine bodyPost_ret (res_four Try.results24 _ _ w.heap.size [.int .i64 rk, .int .i64 E, .int .i64 ra, .int .i64 rv] _ rfl (World.rangeAt_setCells_same _ _ _ _ tZ) Try.underlying25 rfl (unhide HRS)) rfl ?_
          have KA := (KL.drew.trans m9).trans mA
          have FA := FsN.mono ((unhide HFN _ KA).kept (kept_cells wA9 w.heap.size 0 [.int .i64 rk, .int .i64 E, .int .i64 ra, .int .i64 rv]) (fun x hx => by simp at hx; subst hx; omega)) (show w.heap.size ≤ w1.heap.size by omega)
          have BA := ((Kept.of (L := []) ((unhide HBA).trans (dA.bel.mono (Nat.le_of_lt hsz)))).setCells (b := w.heap.size) (.inr (Nat.le_refl _)) 0 [.int .i64 rk, .int .i64 E, .int .i64 ra, .int .i64 rv]).all (by simp)
          exact ⟨g, o, c, bs, kk + q * 4, rk, E, ra, rv, (sA == 0), rfl, FA, by omega, by omega, BA⟩
    · obtain ⟨E, hE⟩ : ∃ E : Int, nx = E := ⟨_, rfl⟩
      subst hE
      have d7 := d6.setCell (b := xb) (o := 1) hxr (by omega) (.int .i64 nx)
      have K7 := K6.setCell (p := ⟨xb, 1, none⟩) (.inr (by have := unhide HXB; simp; omega)) (.int .i64 nx)
      have cX7 := csAt_set cX6 1 (by simp) (.int .i64 nx)
      have c61 := cX6.cell 1 _ rfl
      have f61 := cX6.frozen 1 (by simp)
      simp only [List.set_cons_succ, List.set_cons_zero] at cX7
      have HD7 := hide d7
      have HK7 := hide K7
      have HC7 := hide cX7
      clear K6 d6 cX6 d7 K7 cX7
      go_wp2_with fail
      have dX := unhide HD7
      have KX := unhide HK7
      have cX := unhide HC7
      clear HD7 HK7 HC7 c61 f61
      generalize w6.setCell ⟨xb, 1, none⟩ (.int .i64 nx) = wX at *
      obtain ⟨E, cX⟩ : ∃ E : Int, CsAt wX xb [.int .i64 rk, .int .i64 E, .int .i64 ra, .int .i64 rv] := ⟨_, cX⟩
      refine (pick_k wA wA wX wA.heap.size a len' cap (p3 + 1) 4 hrow hl' dX (by omega) (by omega) (by omega) (by omega)).mono ?_
      rintro e w8 ⟨k, rfl, k0, k1, d8, m8⟩
      have K8 := KX.trans m8
      have c8 := csAt_kept cX m8 (cX.lt (by simp)) (by simp; omega)
      clear dX KX cX m8
      have HD := hide d8
      have HK := hide K8
      have HC := hide c8
      clear d8 K8 c8
      go_wp2
      go_loopw [9, 10] (fun q i w' => ∃ (j : Nat) (kk : Int), j ≤ 3 ∧ i = .int .i64 j ∧ q = .int .i64 kk ∧ 0 ≤ kk ∧ kk < 4 ∧ Rd wA wA wA.heap.size a len' cap (p3 + 1 + 1) w' ∧ Kept [wA.heap.size] w3 w' ∧ CsAt w' xb [.int .i64 rk, .int .i64 E, .int .i64 ra, .int .i64 rv]) (fun _ i _ => 3 - (intOf i).toNat)
      case atStart => exact ⟨0, k, by omega, rfl, rfl, k0, k1, unhide HD, unhide HK, unhide HC⟩
      case round =>
        obtain ⟨j, kk, hj, rfl, rfl, kk0, kk1, dL, KL, cL⟩ := hrel
        clear HD HK HC
        by_cases hj3 : j = 3
        · subst hj3
          go_upto_region 11 with fail
          have hlL := cL.lt (by simp)
          have hcz0 := csAt_kept (unhide HCZ) dL.kp hsz (by simp; omega)
          have hzL := hcz0.lt (by simp)
          refine wp_region_noPanic ?_
          refine wp_region_held_drew (S := fun w' => Kept [wA.heap.size, w.heap.size] wr w') (by kernel_rfl) ((Kept.refl _ _).drew) (fun hHeld => ?_)
          refine takeL 0 (.slice (some ⟨g, o, none⟩) bs.length c) rfl (by kernel_rfl) (by kernel_rfl) (by kernel_rfl) (fun _ _ _ h => h) (Or.inl ⟨rfl, fun _ _ => rfl⟩) hHeld ?_
          try simp only [Act.put, List.setIfInBounds_toArray, List.set_cons_zero, List.set_cons_succ]
          refine takeL 1 (.int .i64 kk) rfl (by kernel_rfl) (by kernel_rfl) (by kernel_rfl) (fun _ _ _ h => h) (Or.inl ⟨rfl, fun _ _ => rfl⟩) hHeld ?_
          try simp only [Act.put, List.setIfInBounds_toArray, List.set_cons_zero, List.set_cons_succ]
          refine takeL 2 (.pointer (some ⟨wA.heap.size, 0, none⟩)) rfl (by kernel_rfl) (by kernel_rfl) (by kernel_rfl) (fun _ _ _ h => h) (Or.inl ⟨rfl, fun _ _ => rfl⟩) hHeld ?_
          try simp only [Act.put, List.setIfInBounds_toArray, List.set_cons_zero, List.set_cons_succ]
          refine takeL 7 (.agg #[.int .i64 rk, .int .i64 E, .int .i64 ra, .int .i64 rv]) rfl (by kernel_rfl) (by kernel_rfl) (by kernel_rfl) (fun _ _ _ h => h) (yieldsIf_load_mid rfl 25 _ rfl xb 0 rfl [.int .i64 rk, .int .i64 E, .int .i64 ra, .int .i64 rv] _ (fun _ hS => hS.range cL.cells hlL (by simp; omega)) Try.underlying25 rfl (unhide HRS)) hHeld ?_
          try simp only [Act.put, List.setIfInBounds_toArray, List.set_cons_zero, List.set_cons_succ]
          refine takeL 8 (.pointer (some ⟨wA.heap.size, 0, none⟩)) rfl (by kernel_rfl) (by kernel_rfl) (by kernel_rfl) (fun _ _ _ h => h) (Or.inl ⟨rfl, fun _ _ => rfl⟩) hHeld ?_
          try simp only [Act.put, List.setIfInBounds_toArray, List.set_cons_zero, List.set_cons_succ]
          have dD := dL.drew
          refine oneL 3 rfl (by kernel_rfl) rfl (fun K hK => ?_)
          go_simp
          refine (pick_k wA wA _ wA.heap.size a len' cap (p3 + 1 + 1) 24 hrow hl' dD (by omega) (by omega) (by omega) (by omega)).mono ?_
          rintro e w99 ⟨s9, rfl, s90, s91, d9, m9⟩
          go_wp2_with fail
          refine hK.out _ _ (hHeld.trans (m9.sub (fun x hx => by simp at hx; simp [hx]))) (fun hHeld => ?_)
          clear hK K
          try simp only [Act.put, List.setIfInBounds_toArray, List.set_cons_zero, List.set_cons_succ]
          obtain ⟨q, hq, hq0, hq1⟩ : ∃ q : Int, s9.tdiv 23 = q ∧ 0 ≤ q ∧ q ≤ 1 := by
            by_cases hs : s9 = 23
            · subst hs; exact ⟨1, rfl, by omega, by omega⟩
            · exact ⟨0, Int.tdiv_eq_zero_of_lt s90 (by omega), by omega, by omega⟩
          have hwq : IntKind.i64.wrap q = q := by
            rw [IntKind.wrap_i64]; omega
          have hwm : IntKind.i64.wrap (q * 4) = q * 4 := by
            rw [IntKind.wrap_i64]; omega
          have hwa : IntKind.i64.wrap (kk + q * 4) = kk + q * 4 := by
            rw [IntKind.wrap_i64]; omega
          refine takeL 4 (.int .i64 q) rfl (by kernel_rfl) (by kernel_rfl) (by kernel_rfl) (fun _ _ _ h => h) (Or.inl ⟨rfl, fun w9 hSw => by go_simp⟩) hHeld ?_
          try simp only [Act.put, List.setIfInBounds_toArray, List.set_cons_zero, List.set_cons_succ]
          refine takeL 5 (.int .i64 (q * 4)) rfl (by kernel_rfl) (by kernel_rfl) (by kernel_rfl) (fun _ _ _ h => h) (Or.inl ⟨rfl, fun w9 hSw => by go_simp⟩) hHeld ?_
          try simp only [Act.put, List.setIfInBounds_toArray, List.set_cons_zero, List.set_cons_succ]
          refine takeL 6 (.int .i64 (kk + q * 4)) rfl (by kernel_rfl) (by kernel_rfl) (by kernel_rfl) (fun _ _ _ h => h) (Or.inl ⟨rfl, fun w9 hSw => by go_simp⟩) hHeld ?_
          try simp only [Act.put, List.setIfInBounds_toArray, List.set_cons_zero, List.set_cons_succ]
          refine oneL 9 rfl (by kernel_rfl) rfl (fun K hK => ?_)
          go_simp
          refine (pick_k wA wA _ wA.heap.size a len' cap (p3 + 1 + 1 + 1) 3 hrow hl' d9 (by omega) (by omega) (by omega) (by omega)).mono ?_
          rintro e wA9 ⟨sA, rfl, sA0, sA1, dA, mA⟩
          go_wp2_with fail
          refine hK.out _ _ (hHeld.trans (mA.sub (fun x hx => by simp at hx; simp [hx]))) (fun hHeld => ?_)
          clear hK K
          try simp only [Act.put, List.setIfInBounds_toArray, List.set_cons_zero, List.set_cons_succ]
          refine takeL 10 (.bool (sA == 0)) rfl (by kernel_rfl) (by kernel_rfl) (by kernel_rfl) (fun _ _ _ h => h) (Or.inl ⟨rfl, fun w9 hSw => by go_simp⟩) hHeld ?_
          try simp only [Act.put, List.setIfInBounds_toArray, List.set_cons_zero, List.set_cons_succ]
          refine takeL 11 (.slice (some ⟨g, o, none⟩) bs.length c) rfl (by kernel_rfl) (by kernel_rfl) (by kernel_rfl) (fun _ _ _ h => h) (Or.inl ⟨rfl, fun _ _ => rfl⟩) hHeld ?_
          try simp only [Act.put, List.setIfInBounds_toArray, List.set_cons_zero, List.set_cons_succ]
          refine takeL 12 (.int .i64 (kk + q * 4)) rfl (by kernel_rfl) (by kernel_rfl) (by kernel_rfl) (fun _ _ _ h => h) (Or.inl ⟨rfl, fun _ _ => rfl⟩) hHeld ?_
          try simp only [Act.put, List.setIfInBounds_toArray, List.set_cons_zero, List.set_cons_succ]
          have z9 := csAt_kept (csAt_drew hcz0) m9 hzL (by simp; omega)
          have zA := csAt_kept z9 mA (z9.lt (by simp)) (by simp; omega)
          have tZ := zA.free
          refine oneL 13 rfl (by kernel_rfl) rfl (fun K hK => ?_)
          refine wp_store_mid 25 _ _ rfl w.heap.size 0 ([.int .i64 rk, .int .i64 E, .int .i64 ra, .int .i64 rv]).toArray rfl rfl tZ (unhide HRS) (all_oneCell_toArray (by intro v hv; simp at hv; rcases hv with rfl | rfl | rfl | rfl <;> rfl)) ?_
          refine hK.out _ _ (hHeld.setCells (.inl (by simp)) _ _) (fun hHeld => ?_)
          clear hK K
          try simp only [Act.put, List.setIfInBounds_toArray, List.set_cons_zero, List.set_cons_succ]
          refine takeL 14 (.bool (sA == 0)) rfl (by kernel_rfl) (by kernel_rfl) (by kernel_rfl) (fun _ _ _ h => h) (Or.inl ⟨rfl, fun _ _ => rfl⟩) hHeld ?_
          try simp only [Act.put, List.setIfInBounds_toArray, List.set_cons_zero, List.set_cons_succ]
          refine wpAnyH_done (by kernel_rfl) ?_ _
          refine NoPanic.normal ?_
          go_wp2
          refine bodyPost_ret (res_four Try.results24 _ _ w.heap.size [.int .i64 rk, .int .i64 E, .int .i64 ra, .int .i64 rv] _ rfl (World.rangeAt_setCells_same _ _ _ _ tZ) Try.underlying25 rfl (unhide HRS)) rfl ?_
          have KA := (KL.drew.trans m9).trans mA
          have FA := FsN.mono ((unhide HFN _ KA).kept (kept_cells wA9 w.heap.size 0 [.int .i64 rk, .int .i64 E, .int .i64 ra, .int .i64 rv]) (fun x hx => by simp at hx; subst hx; omega)) (show w.heap.size ≤ w1.heap.size by omega)
          have BA := ((Kept.of (L := []) ((unhide HBA).trans (dA.bel.mono (Nat.le_of_lt hsz)))).setCells (b := w.heap.size) (.inr (Nat.le_refl _)) 0 [.int .i64 rk, .int .i64 E, .int .i64 ra, .int .i64 rv]).all (by simp)
          exact ⟨g, o, c, bs, kk + q * 4, rk, E, ra, rv, (sA == 0), rfl, FA, by omega, by omega, BA⟩
        have hji : (j : Int) < 3 := by omega
        go_wp2_with fail
        refine (specClean_any _ c kk bs wr (unhide HFN _ KL).fs (by omega)).mono ?_
        rintro e wc ⟨rfl, bc⟩
        replace KL := KL.trans (Kept.of bc)
        replace dL := rd_kept dL (Kept.of (L := []) bc) (by simp)
        replace cL := cL.below bc (cL.lt (by simp))
        clear bc
        generalize cleanR bs kk = cv at *
        by_cases hcv : cv = 0
        · subst hcv
          obtain ⟨k', hk', k0', k1'⟩ : ∃ k' : Int, (kk + 1).tmod 4 = k' ∧ 0 ≤ k' ∧ k' < 4 := ⟨_, rfl, Int.tmod_nonneg 4 (by omega), Int.tmod_lt_of_pos _ (by omega)⟩
          have HDL := hide dL
          have HKL := hide KL
          have HCL := hide cL
          clear dL KL cL
          go_wp2
          go_roundw
          case rel => exact ⟨j + 1, k', by omega, by first | rfl | go_num, by first | rfl | rw [hk'] | simp [hk'], k0', k1', unhide HDL, unhide HKL, unhide HCL⟩
          case measure => simp [intOf]; omega
        · have hcz : (cv == 0) = false := by simpa using hcv
          go_upto_region 11 with fail
          have hlL := cL.lt (by simp)
          have hcz0 := csAt_kept (unhide HCZ) dL.kp hsz (by simp; omega)
          have hzL := hcz0.lt (by simp)
          refine wp_region_noPanic ?_
          refine wp_region_held_drew (S := fun w' => Kept [wA.heap.size, w.heap.size] wc w') (by kernel_rfl) ((Kept.refl _ _).drew) (fun hHeld => ?_)
          refine takeL 0 (.slice (some ⟨g, o, none⟩) bs.length c) rfl (by kernel_rfl) (by kernel_rfl) (by kernel_rfl) (fun _ _ _ h => h) (Or.inl ⟨rfl, fun _ _ => rfl⟩) hHeld ?_
          try simp only [Act.put, List.setIfInBounds_toArray, List.set_cons_zero, List.set_cons_succ]
          refine takeL 1 (.int .i64 kk) rfl (by kernel_rfl) (by kernel_rfl) (by kernel_rfl) (fun _ _ _ h => h) (Or.inl ⟨rfl, fun _ _ => rfl⟩) hHeld ?_
          try simp only [Act.put, List.setIfInBounds_toArray, List.set_cons_zero, List.set_cons_succ]
          refine takeL 2 (.pointer (some ⟨wA.heap.size, 0, none⟩)) rfl (by kernel_rfl) (by kernel_rfl) (by kernel_rfl) (fun _ _ _ h => h) (Or.inl ⟨rfl, fun _ _ => rfl⟩) hHeld ?_
          try simp only [Act.put, List.setIfInBounds_toArray, List.set_cons_zero, List.set_cons_succ]
          refine takeL 7 (.agg #[.int .i64 rk, .int .i64 E, .int .i64 ra, .int .i64 rv]) rfl (by kernel_rfl) (by kernel_rfl) (by kernel_rfl) (fun _ _ _ h => h) (yieldsIf_load_mid rfl 25 _ rfl xb 0 rfl [.int .i64 rk, .int .i64 E, .int .i64 ra, .int .i64 rv] _ (fun _ hS => hS.range cL.cells hlL (by simp; omega)) Try.underlying25 rfl (unhide HRS)) hHeld ?_
          try simp only [Act.put, List.setIfInBounds_toArray, List.set_cons_zero, List.set_cons_succ]
          refine takeL 8 (.pointer (some ⟨wA.heap.size, 0, none⟩)) rfl (by kernel_rfl) (by kernel_rfl) (by kernel_rfl) (fun _ _ _ h => h) (Or.inl ⟨rfl, fun _ _ => rfl⟩) hHeld ?_
          try simp only [Act.put, List.setIfInBounds_toArray, List.set_cons_zero, List.set_cons_succ]
          have dD := dL.drew
          refine oneL 3 rfl (by kernel_rfl) rfl (fun K hK => ?_)
          go_simp
          refine (pick_k wA wA _ wA.heap.size a len' cap (p3 + 1 + 1) 24 hrow hl' dD (by omega) (by omega) (by omega) (by omega)).mono ?_
          rintro e w99 ⟨s9, rfl, s90, s91, d9, m9⟩
          go_wp2_with fail
          refine hK.out _ _ (hHeld.trans (m9.sub (fun x hx => by simp at hx; simp [hx]))) (fun hHeld => ?_)
          clear hK K
          try simp only [Act.put, List.setIfInBounds_toArray, List.set_cons_zero, List.set_cons_succ]
          obtain ⟨q, hq, hq0, hq1⟩ : ∃ q : Int, s9.tdiv 23 = q ∧ 0 ≤ q ∧ q ≤ 1 := by
            by_cases hs : s9 = 23
            · subst hs; exact ⟨1, rfl, by omega, by omega⟩
            · exact ⟨0, Int.tdiv_eq_zero_of_lt s90 (by omega), by omega, by omega⟩
          have hwq : IntKind.i64.wrap q = q := by
            rw [IntKind.wrap_i64]; omega
          have hwm : IntKind.i64.wrap (q * 4) = q * 4 := by
            rw [IntKind.wrap_i64]; omega
          have hwa : IntKind.i64.wrap (kk + q * 4) = kk + q * 4 := by
            rw [IntKind.wrap_i64]; omega
          refine takeL 4 (.int .i64 q) rfl (by kernel_rfl) (by kernel_rfl) (by kernel_rfl) (fun _ _ _ h => h) (Or.inl ⟨rfl, fun w9 hSw => by go_simp⟩) hHeld ?_
          try simp only [Act.put, List.setIfInBounds_toArray, List.set_cons_zero, List.set_cons_succ]
          refine takeL 5 (.int .i64 (q * 4)) rfl (by kernel_rfl) (by kernel_rfl) (by kernel_rfl) (fun _ _ _ h => h) (Or.inl ⟨rfl, fun w9 hSw => by go_simp⟩) hHeld ?_
          try simp only [Act.put, List.setIfInBounds_toArray, List.set_cons_zero, List.set_cons_succ]
          refine takeL 6 (.int .i64 (kk + q * 4)) rfl (by kernel_rfl) (by kernel_rfl) (by kernel_rfl) (fun _ _ _ h => h) (Or.inl ⟨rfl, fun w9 hSw => by go_simp⟩) hHeld ?_
          try simp only [Act.put, List.setIfInBounds_toArray, List.set_cons_zero, List.set_cons_succ]
          refine oneL 9 rfl (by kernel_rfl) rfl (fun K hK => ?_)
          go_simp
          refine (pick_k wA wA _ wA.heap.size a len' cap (p3 + 1 + 1 + 1) 3 hrow hl' d9 (by omega) (by omega) (by omega) (by omega)).mono ?_
          rintro e wA9 ⟨sA, rfl, sA0, sA1, dA, mA⟩
          go_wp2_with fail
          refine hK.out _ _ (hHeld.trans (mA.sub (fun x hx => by simp at hx; simp [hx]))) (fun hHeld => ?_)
          clear hK K
          try simp only [Act.put, List.setIfInBounds_toArray, List.set_cons_zero, List.set_cons_succ]
          refine takeL 10 (.bool (sA == 0)) rfl (by kernel_rfl) (by kernel_rfl) (by kernel_rfl) (fun _ _ _ h => h) (Or.inl ⟨rfl, fun w9 hSw => by go_simp⟩) hHeld ?_
          try simp only [Act.put, List.setIfInBounds_toArray, List.set_cons_zero, List.set_cons_succ]
          refine takeL 11 (.slice (some ⟨g, o, none⟩) bs.length c) rfl (by kernel_rfl) (by kernel_rfl) (by kernel_rfl) (fun _ _ _ h => h) (Or.inl ⟨rfl, fun _ _ => rfl⟩) hHeld ?_
          try simp only [Act.put, List.setIfInBounds_toArray, List.set_cons_zero, List.set_cons_succ]
          refine takeL 12 (.int .i64 (kk + q * 4)) rfl (by kernel_rfl) (by kernel_rfl) (by kernel_rfl) (fun _ _ _ h => h) (Or.inl ⟨rfl, fun _ _ => rfl⟩) hHeld ?_
          try simp only [Act.put, List.setIfInBounds_toArray, List.set_cons_zero, List.set_cons_succ]
          have z9 := csAt_kept (csAt_drew hcz0) m9 hzL (by simp; omega)
          have zA := csAt_kept z9 mA (z9.lt (by simp)) (by simp; omega)
          have tZ := zA.free
          refine oneL 13 rfl (by kernel_rfl) rfl (fun K hK => ?_)
          refine wp_store_mid 25 _ _ rfl w.heap.size 0 ([.int .i64 rk, .int .i64 E, .int .i64 ra, .int .i64 rv]).toArray rfl rfl tZ (unhide HRS) (all_oneCell_toArray (by intro v hv; simp at hv; rcases hv with rfl | rfl | rfl | rfl <;> rfl)) ?_
          refine hK.out _ _ (hHeld.setCells (.inl (by simp)) _ _) (fun hHeld => ?_)
          clear hK K
          try simp only [Act.put, List.setIfInBounds_toArray, List.set_cons_zero, List.set_cons_succ]
          refine takeL 14 (.bool (sA == 0)) rfl (by kernel_rfl) (by kernel_rfl) (by kernel_rfl) (fun _ _ _ h => h) (Or.inl ⟨rfl, fun _ _ => rfl⟩) hHeld ?_
          try simp only [Act.put, List.setIfInBounds_toArray, List.set_cons_zero, List.set_cons_succ]
          refine wpAnyH_done (by kernel_rfl) ?_ _
          refine NoPanic.normal ?_
          go_wp2
          refine bodyPost_ret (res_four Try.results24 _ _ w.heap.size [.int .i64 rk, .int .i64 E, .int .i64 ra, .int .i64 rv] _ rfl (World.rangeAt_setCells_same _ _ _ _ tZ) Try.underlying25 rfl (unhide HRS)) rfl ?_
          have KA := (KL.drew.trans m9).trans mA
          have FA := FsN.mono ((unhide HFN _ KA).kept (kept_cells wA9 w.heap.size 0 [.int .i64 rk, .int .i64 E, .int .i64 ra, .int .i64 rv]) (fun x hx => by simp at hx; subst hx; omega)) (show w.heap.size ≤ w1.heap.size by omega)
          have BA := ((Kept.of (L := []) ((unhide HBA).trans (dA.bel.mono (Nat.le_of_lt hsz)))).setCells (b := w.heap.size) (.inr (Nat.le_refl _)) 0 [.int .i64 rk, .int .i64 E, .int .i64 ra, .int .i64 rv]).all (by simp)
          exact ⟨g, o, c, bs, kk + q * 4, rk, E, ra, rv, (sA == 0), rfl, FA, by omega, by omega, BA⟩
  · have dX := d5
    have KX := K5
    have cX := cX5
    have hE : rs = rs := rfl
    clear d5 K5 cX5
    generalize hwx : w5 = wX at *
    generalize hEE : rs = E at *
    go_wp2_with fail
    refine (pick_k wA wA wX wA.heap.size a len' cap (p3 + 1) 4 hrow hl' dX (by omega) (by omega) (by omega) (by omega)).mono ?_
    rintro e w8 ⟨k, rfl, k0, k1, d8, m8⟩
    have K8 := KX.trans m8
    have c8 := csAt_kept cX m8 (cX.lt (by simp)) (by simp; omega)
    clear dX KX cX m8
    have HD := hide d8
    have HK := hide K8
    have HC := hide c8
    clear d8 K8 c8
    go_wp2
    go_loopw [9, 10] (fun q i w' => ∃ (j : Nat) (kk : Int), j ≤ 3 ∧ i = .int .i64 j ∧ q = .int .i64 kk ∧ 0 ≤ kk ∧ kk < 4 ∧ Rd wA wA wA.heap.size a len' cap (p3 + 1 + 1) w' ∧ Kept [wA.heap.size] w3 w' ∧ CsAt w' xb [.int .i64 rk, .int .i64 E, .int .i64 ra, .int .i64 rv]) (fun _ i _ => 3 - (intOf i).toNat)
    case atStart => exact ⟨0, k, by omega, rfl, rfl, k0, k1, unhide HD, unhide HK, unhide HC⟩
    case round =>
      obtain ⟨j, kk, hj, rfl, rfl, kk0, kk1, dL, KL, cL⟩ := hrel
      clear HD HK HC
      by_cases hj3 : j = 3
      · subst hj3
        go_upto_region 11 with fail
        have hlL := cL.lt (by simp)
        have hcz0 := csAt_kept (unhide HCZ) dL.kp hsz (by simp; omega)
        have hzL := hcz0.lt (by simp)
        refine wp_region_noPanic ?_
        refine wp_region_held_drew (S := fun w' => Kept [wA.heap.size, w.heap.size] wr w') (by kernel_rfl) ((Kept.refl _ _).drew) (fun hHeld => ?_)
        refine takeL 0 (.slice (some ⟨g, o, none⟩) bs.length c) rfl (by kernel_rfl) (by kernel_rfl) (by kernel_rfl) (fun _ _ _ h => h) (Or.inl ⟨rfl, fun _ _ => rfl⟩) hHeld ?_
        try simp only [Act.put, List.setIfInBounds_toArray, List.set_cons_zero, List.set_cons_succ]
        refine takeL 1 (.int .i64 kk) rfl (by kernel_rfl) (by kernel_rfl) (by kernel_rfl) (fun _ _ _ h => h) (Or.inl ⟨rfl, fun _ _ => rfl⟩) hHeld ?_
        try simp only [Act.put, List.setIfInBounds_toArray, List.set_cons_zero, List.set_cons_succ]
        refine takeL 2 (.pointer (some ⟨wA.heap.size, 0, none⟩)) rfl (by kernel_rfl) (by kernel_rfl) (by kernel_rfl) (fun _ _ _ h => h) (Or.inl ⟨rfl, fun _ _ => rfl⟩) hHeld ?_
        try simp only [Act.put, List.setIfInBounds_toArray, List.set_cons_zero, List.set_cons_succ]
        refine takeL 7 (.agg #[.int .i64 rk, .int .i64 E, .int .i64 ra, .int .i64 rv]) rfl (by kernel_rfl) (by kernel_rfl) (by kernel_rfl) (fun _ _ _ h => h) (yieldsIf_load_mid rfl 25 _ rfl xb 0 rfl [.int .i64 rk, .int .i64 E, .int .i64 ra, .int .i64 rv] _ (fun _ hS => hS.range cL.cells hlL (by simp; omega)) Try.underlying25 rfl (unhide HRS)) hHeld ?_
        try simp only [Act.put, List.setIfInBounds_toArray, List.set_cons_zero, List.set_cons_succ]
        refine takeL 8 (.pointer (some ⟨wA.heap.size, 0, none⟩)) rfl (by kernel_rfl) (by kernel_rfl) (by kernel_rfl) (fun _ _ _ h => h) (Or.inl ⟨rfl, fun _ _ => rfl⟩) hHeld ?_
        try simp only [Act.put, List.setIfInBounds_toArray, List.set_cons_zero, List.set_cons_succ]
        have dD := dL.drew
        refine oneL 3 rfl (by kernel_rfl) rfl (fun K hK => ?_)
        go_simp
        refine (pick_k wA wA _ wA.heap.size a len' cap (p3 + 1 + 1) 24 hrow hl' dD (by omega) (by omega) (by omega) (by omega)).mono ?_
        rintro e w99 ⟨s9, rfl, s90, s91, d9, m9⟩
        go_wp2_with fail
        refine hK.out _ _ (hHeld.trans (m9.sub (fun x hx => by simp at hx; simp [hx]))) (fun hHeld => ?_)
        clear hK K
        try simp only [Act.put, List.setIfInBounds_toArray, List.set_cons_zero, List.set_cons_succ]
        obtain ⟨q, hq, hq0, hq1⟩ : ∃ q : Int, s9.tdiv 23 = q ∧ 0 ≤ q ∧ q ≤ 1 := by
          by_cases hs : s9 = 23
          · subst hs; exact ⟨1, rfl, by omega, by omega⟩
          · exact ⟨0, Int.tdiv_eq_zero_of_lt s90 (by omega), by omega, by omega⟩
        have hwq : IntKind.i64.wrap q = q := by
          rw [IntKind.wrap_i64]; omega
        have hwm : IntKind.i64.wrap (q * 4) = q * 4 := by
          rw [IntKind.wrap_i64]; omega
        have hwa : IntKind.i64.wrap (kk + q * 4) = kk + q * 4 := by
          rw [IntKind.wrap_i64]; omega
        refine takeL 4 (.int .i64 q) rfl (by kernel_rfl) (by kernel_rfl) (by kernel_rfl) (fun _ _ _ h => h) (Or.inl ⟨rfl, fun w9 hSw => by go_simp⟩) hHeld ?_
        try simp only [Act.put, List.setIfInBounds_toArray, List.set_cons_zero, List.set_cons_succ]
        refine takeL 5 (.int .i64 (q * 4)) rfl (by kernel_rfl) (by kernel_rfl) (by kernel_rfl) (fun _ _ _ h => h) (Or.inl ⟨rfl, fun w9 hSw => by go_simp⟩) hHeld ?_
        try simp only [Act.put, List.setIfInBounds_toArray, List.set_cons_zero, List.set_cons_succ]
        refine takeL 6 (.int .i64 (kk + q * 4)) rfl (by kernel_rfl) (by kernel_rfl) (by kernel_rfl) (fun _ _ _ h => h) (Or.inl ⟨rfl, fun w9 hSw => by go_simp⟩) hHeld ?_
        try simp only [Act.put, List.setIfInBounds_toArray, List.set_cons_zero, List.set_cons_succ]
        refine oneL 9 rfl (by kernel_rfl) rfl (fun K hK => ?_)
        go_simp
        refine (pick_k wA wA _ wA.heap.size a len' cap (p3 + 1 + 1 + 1) 3 hrow hl' d9 (by omega) (by omega) (by omega) (by omega)).mono ?_
        rintro e wA9 ⟨sA, rfl, sA0, sA1, dA, mA⟩
        go_wp2_with fail
        refine hK.out _ _ (hHeld.trans (mA.sub (fun x hx => by simp at hx; simp [hx]))) (fun hHeld => ?_)
        clear hK K
        try simp only [Act.put, List.setIfInBounds_toArray, List.set_cons_zero, List.set_cons_succ]
        refine takeL 10 (.bool (sA == 0)) rfl (by kernel_rfl) (by kernel_rfl) (by kernel_rfl) (fun _ _ _ h => h) (Or.inl ⟨rfl, fun w9 hSw => by go_simp⟩) hHeld ?_
        try simp only [Act.put, List.setIfInBounds_toArray, List.set_cons_zero, List.set_cons_succ]
        refine takeL 11 (.slice (some ⟨g, o, none⟩) bs.length c) rfl (by kernel_rfl) (by kernel_rfl) (by kernel_rfl) (fun _ _ _ h => h) (Or.inl ⟨rfl, fun _ _ => rfl⟩) hHeld ?_
        try simp only [Act.put, List.setIfInBounds_toArray, List.set_cons_zero, List.set_cons_succ]
        refine takeL 12 (.int .i64 (kk + q * 4)) rfl (by kernel_rfl) (by kernel_rfl) (by kernel_rfl) (fun _ _ _ h => h) (Or.inl ⟨rfl, fun _ _ => rfl⟩) hHeld ?_
        try simp only [Act.put, List.setIfInBounds_toArray, List.set_cons_zero, List.set_cons_succ]
        have z9 := csAt_kept (csAt_drew hcz0) m9 hzL (by simp; omega)
        have zA := csAt_kept z9 mA (z9.lt (by simp)) (by simp; omega)
        have tZ := zA.free
        refine oneL 13 rfl (by kernel_rfl) rfl (fun K hK => ?_)
        refine wp_store_mid 25 _ _ rfl w.heap.size 0 ([.int .i64 rk, .int .i64 E, .int .i64 ra, .int .i64 rv]).toArray rfl rfl tZ (unhide HRS) (all_oneCell_toArray (by intro v hv; simp at hv; rcases hv with rfl | rfl | rfl | rfl <;> rfl)) ?_
        refine hK.out _ _ (hHeld.setCells (.inl (by simp)) _ _) (fun hHeld => ?_)
        clear hK K
        try simp only [Act.put, List.setIfInBounds_toArray, List.set_cons_zero, List.set_cons_succ]
        refine takeL 14 (.bool (sA == 0)) rfl (by kernel_rfl) (by kernel_rfl) (by kernel_rfl) (fun _ _ _ h => h) (Or.inl ⟨rfl, fun _ _ => rfl⟩) hHeld ?_
        try simp only [Act.put, List.setIfInBounds_toArray, List.set_cons_zero, List.set_cons_succ]
        refine wpAnyH_done (by kernel_rfl) ?_ _
        refine NoPanic.normal ?_
        go_wp2
        refine bodyPost_ret (res_four Try.results24 _ _ w.heap.size [.int .i64 rk, .int .i64 E, .int .i64 ra, .int .i64 rv] _ rfl (World.rangeAt_setCells_same _ _ _ _ tZ) Try.underlying25 rfl (unhide HRS)) rfl ?_
        have KA := (KL.drew.trans m9).trans mA
        have FA := FsN.mono ((unhide HFN _ KA).kept (kept_cells wA9 w.heap.size 0 [.int .i64 rk, .int .i64 E, .int .i64 ra, .int .i64 rv]) (fun x hx => by simp at hx; subst hx; omega)) (show w.heap.size ≤ w1.heap.size by omega)
        have BA := ((Kept.of (L := []) ((unhide HBA).trans (dA.bel.mono (Nat.le_of_lt hsz)))).setCells (b := w.heap.size) (.inr (Nat.le_refl _)) 0 [.int .i64 rk, .int .i64 E, .int .i64 ra, .int .i64 rv]).all (by simp)
        exact ⟨g, o, c, bs, kk + q * 4, rk, E, ra, rv, (sA == 0), rfl, FA, by omega, by omega, BA⟩
      have hji : (j : Int) < 3 := by omega
      go_wp2_with fail
      refine (specClean_any _ c kk bs wr (unhide HFN _ KL).fs (by omega)).mono ?_
      rintro e wc ⟨rfl, bc⟩
      replace KL := KL.trans (Kept.of bc)
      replace dL := rd_kept dL (Kept.of (L := []) bc) (by simp)
      replace cL := cL.below bc (cL.lt (by simp))
      clear bc
      generalize cleanR bs kk = cv at *
      by_cases hcv : cv = 0
      · subst hcv
        obtain ⟨k', hk', k0', k1'⟩ : ∃ k' : Int, (kk + 1).tmod 4 = k' ∧ 0 ≤ k' ∧ k' < 4 := ⟨_, rfl, Int.tmod_nonneg 4 (by omega), Int.tmod_lt_of_pos _ (by omega)⟩
        have HDL := hide dL
        have HKL := hide KL
        have HCL := hide cL
        clear dL KL cL
        go_wp2
        go_roundw
        case rel => exact ⟨j + 1, k', by omega, by first | rfl | go_num, by first | rfl | rw [hk'] | simp [hk'], k0', k1', unhide HDL, unhide HKL, unhide HCL⟩
        case measure => simp [intOf]; omega
      · have hcz : (cv == 0) = false := by simpa using hcv
        go_upto_region 11 with fail
        have hlL := cL.lt (by simp)
        have hcz0 := csAt_kept (unhide HCZ) dL.kp hsz (by simp; omega)
        have hzL := hcz0.lt (by simp)
        refine wp_region_noPanic ?_
        refine wp_region_held_drew (S := fun w' => Kept [wA.heap.size, w.heap.size] wc w') (by kernel_rfl) ((Kept.refl _ _).drew) (fun hHeld => ?_)
        refine takeL 0 (.slice (some ⟨g, o, none⟩) bs.length c) rfl (by kernel_rfl) (by kernel_rfl) (by kernel_rfl) (fun _ _ _ h => h) (Or.inl ⟨rfl, fun _ _ => rfl⟩) hHeld ?_
        try simp only [Act.put, List.setIfInBounds_toArray, List.set_cons_zero, List.set_cons_succ]
        refine takeL 1 (.int .i64 kk) rfl (by kernel_rfl) (by kernel_rfl) (by kernel_rfl) (fun _ _ _ h => h) (Or.inl ⟨rfl, fun _ _ => rfl⟩) hHeld ?_
        try simp only [Act.put, List.setIfInBounds_toArray, List.set_cons_zero, List.set_cons_succ]
        refine takeL 2 (.pointer (some ⟨wA.heap.size, 0, none⟩)) rfl (by kernel_rfl) (by kernel_rfl) (by kernel_rfl) (fun _ _ _ h => h) (Or.inl ⟨rfl, fun _ _ => rfl⟩) hHeld ?_
        try simp only [Act.put, List.setIfInBounds_toArray, List.set_cons_zero, List.set_cons_succ]
        refine takeL 7 (.agg #[.int .i64 rk, .int .i64 E, .int .i64 ra, .int .i64 rv]) rfl (by kernel_rfl) (by kernel_rfl) (by kernel_rfl) (fun _ _ _ h => h) (yieldsIf_load_mid rfl 25 _ rfl xb 0 rfl [.int .i64 rk, .int .i64 E, .int .i64 ra, .int .i64 rv] _ (fun _ hS => hS.range cL.cells hlL (by simp; omega)) Try.underlying25 rfl (unhide HRS)) hHeld ?_
        try simp only [Act.put, List.setIfInBounds_toArray, List.set_cons_zero, List.set_cons_succ]
        refine takeL 8 (.pointer (some ⟨wA.heap.size, 0, none⟩)) rfl (by kernel_rfl) (by kernel_rfl) (by kernel_rfl) (fun _ _ _ h => h) (Or.inl ⟨rfl, fun _ _ => rfl⟩) hHeld ?_
        try simp only [Act.put, List.setIfInBounds_toArray, List.set_cons_zero, List.set_cons_succ]
        have dD := dL.drew
        refine oneL 3 rfl (by kernel_rfl) rfl (fun K hK => ?_)
        go_simp
        refine (pick_k wA wA _ wA.heap.size a len' cap (p3 + 1 + 1) 24 hrow hl' dD (by omega) (by omega) (by omega) (by omega)).mono ?_
        rintro e w99 ⟨s9, rfl, s90, s91, d9, m9⟩
        go_wp2_with fail
        refine hK.out _ _ (hHeld.trans (m9.sub (fun x hx => by simp at hx; simp [hx]))) (fun hHeld => ?_)
        clear hK K
        try simp only [Act.put, List.setIfInBounds_toArray, List.set_cons_zero, List.set_cons_succ]
        obtain ⟨q, hq, hq0, hq1⟩ : ∃ q : Int, s9.tdiv 23 = q ∧ 0 ≤ q ∧ q ≤ 1 := by
          by_cases hs : s9 = 23
          · subst hs; exact ⟨1, rfl, by omega, by omega⟩
          · exact ⟨0, Int.tdiv_eq_zero_of_lt s90 (by omega), by omega, by omega⟩
        have hwq : IntKind.i64.wrap q = q := by
          rw [IntKind.wrap_i64]; omega
        have hwm : IntKind.i64.wrap (q * 4) = q * 4 := by
          rw [IntKind.wrap_i64]; omega
        have hwa : IntKind.i64.wrap (kk + q * 4) = kk + q * 4 := by
          rw [IntKind.wrap_i64]; omega
        refine takeL 4 (.int .i64 q) rfl (by kernel_rfl) (by kernel_rfl) (by kernel_rfl) (fun _ _ _ h => h) (Or.inl ⟨rfl, fun w9 hSw => by go_simp⟩) hHeld ?_
        try simp only [Act.put, List.setIfInBounds_toArray, List.set_cons_zero, List.set_cons_succ]
        refine takeL 5 (.int .i64 (q * 4)) rfl (by kernel_rfl) (by kernel_rfl) (by kernel_rfl) (fun _ _ _ h => h) (Or.inl ⟨rfl, fun w9 hSw => by go_simp⟩) hHeld ?_
        try simp only [Act.put, List.setIfInBounds_toArray, List.set_cons_zero, List.set_cons_succ]
        refine takeL 6 (.int .i64 (kk + q * 4)) rfl (by kernel_rfl) (by kernel_rfl) (by kernel_rfl) (fun _ _ _ h => h) (Or.inl ⟨rfl, fun w9 hSw => by go_simp⟩) hHeld ?_
        try simp only [Act.put, List.setIfInBounds_toArray, List.set_cons_zero, List.set_cons_succ]
        refine oneL 9 rfl (by kernel_rfl) rfl (fun K hK => ?_)
        go_simp
        refine (pick_k wA wA _ wA.heap.size a len' cap (p3 + 1 + 1 + 1) 3 hrow hl' d9 (by omega) (by omega) (by omega) (by omega)).mono ?_
        rintro e wA9 ⟨sA, rfl, sA0, sA1, dA, mA⟩
        go_wp2_with fail
        refine hK.out _ _ (hHeld.trans (mA.sub (fun x hx => by simp at hx; simp [hx]))) (fun hHeld => ?_)
        clear hK K
        try simp only [Act.put, List.setIfInBounds_toArray, List.set_cons_zero, List.set_cons_succ]
        refine takeL 10 (.bool (sA == 0)) rfl (by kernel_rfl) (by kernel_rfl) (by kernel_rfl) (fun _ _ _ h => h) (Or.inl ⟨rfl, fun w9 hSw => by go_simp⟩) hHeld ?_
        try simp only [Act.put, List.setIfInBounds_toArray, List.set_cons_zero, List.set_cons_succ]
        refine takeL 11 (.slice (some ⟨g, o, none⟩) bs.length c) rfl (by kernel_rfl) (by kernel_rfl) (by kernel_rfl) (fun _ _ _ h => h) (Or.inl ⟨rfl, fun _ _ => rfl⟩) hHeld ?_
        try simp only [Act.put, List.setIfInBounds_toArray, List.set_cons_zero, List.set_cons_succ]
        refine takeL 12 (.int .i64 (kk + q * 4)) rfl (by kernel_rfl) (by kernel_rfl) (by kernel_rfl) (fun _ _ _ h => h) (Or.inl ⟨rfl, fun _ _ => rfl⟩) hHeld ?_
        try simp only [Act.put, List.setIfInBounds_toArray, List.set_cons_zero, List.set_cons_succ]
        have z9 := csAt_kept (csAt_drew hcz0) m9 hzL (by simp; omega)
        have zA := csAt_kept z9 mA (z9.lt (by simp)) (by simp; omega)
        have tZ := zA.free
        refine oneL 13 rfl (by kernel_rfl) rfl (fun K hK => ?_)
        refine wp_store_mid 25 _ _ rfl w.heap.size 0 ([.int .i64 rk, .int .i64 E, .int .i64 ra, .int .i64 rv]).toArray rfl rfl tZ (unhide HRS) (all_oneCell_toArray (by intro v hv; simp at hv; rcases hv with rfl | rfl | rfl | rfl <;> rfl)) ?_
        refine hK.out _ _ (hHeld.setCells (.inl (by simp)) _ _) (fun hHeld => ?_)
        clear hK K
        try simp only [Act.put, List.setIfInBounds_toArray, List.set_cons_zero, List.set_cons_succ]
        refine takeL 14 (.bool (sA == 0)) rfl (by kernel_rfl) (by kernel_rfl) (by kernel_rfl) (fun _ _ _ h => h) (Or.inl ⟨rfl, fun _ _ => rfl⟩) hHeld ?_
        try simp only [Act.put, List.setIfInBounds_toArray, List.set_cons_zero, List.set_cons_succ]
        refine wpAnyH_done (by kernel_rfl) ?_ _
        refine NoPanic.normal ?_
        go_wp2
        refine bodyPost_ret (res_four Try.results24 _ _ w.heap.size [.int .i64 rk, .int .i64 E, .int .i64 ra, .int .i64 rv] _ rfl (World.rangeAt_setCells_same _ _ _ _ tZ) Try.underlying25 rfl (unhide HRS)) rfl ?_
        have KA := (KL.drew.trans m9).trans mA
        have FA := FsN.mono ((unhide HFN _ KA).kept (kept_cells wA9 w.heap.size 0 [.int .i64 rk, .int .i64 E, .int .i64 ra, .int .i64 rv]) (fun x hx => by simp at hx; subst hx; omega)) (show w.heap.size ≤ w1.heap.size by omega)
        have BA := ((Kept.of (L := []) ((unhide HBA).trans (dA.bel.mono (Nat.le_of_lt hsz)))).setCells (b := w.heap.size) (.inr (Nat.le_refl _)) 0 [.int .i64 rk, .int .i64 E, .int .i64 ra, .int .i64 rv]).all (by simp)
        exact ⟨g, o, c, bs, kk + q * 4, rk, E, ra, rv, (sA == 0), rfl, FA, by omega, by omega, BA⟩
end Go.Proofs.Ytogioeflbbmppaa.DrW
