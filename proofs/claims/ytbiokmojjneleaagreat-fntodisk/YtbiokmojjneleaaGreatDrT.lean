/-
  Steps that are drawn, of a store: what is done of them, and whether torn.
-/
import Derived.Test.YtbiokmojjneleaaGreatRbU
import Derived.Test.YtbiokmojjneleaaGreatHbQ
import Derived.Test.YtbiokmojjneleaaGreatHbK
import Derived.Test.YtbiokmojjneleaaGreatRcA
import Derived.Test.YtbiokmojjneleaaGreatRbS
namespace Go.Proofs.YtbiokmojjneleaaGreat.DrT
open Go.ChangeShapes Go.WideShapes Go.ChangeAt Go.RowKit Go.Shelf Big Fl ImplF ImplL Kp StA RmA WrA DoA AlA DpA NwA Pick Draw EvA ImplB ImplS ImplU SpecC SpecD SpecW SpecL FindL Pl ImplW PyA FlB ClA DrB StB StG StN Fu DrF Sv LawU PaA PaB PaC PdA PdB QuB QuE MkN TwA TwB
set_option linter.unusedVariables false
set_option linter.unusedSimpArgs false
attribute [local go_sem ↓] Go.wp_at_zero Go.wp_at_succ

theorem res_c3 {P : Program} {fn : Func} {p q r s : Tmp} {ty : TypeId} (h : fn.results = #[.cell p ty, .tmp q, .tmp r, .tmp s]) (tmps : Array Value) (w : World) (g : Nat) (cs : List Value) (d : TypeDesc)
    (hp : tmps.getD p undef = .pointer (some ⟨g, 0, none⟩)) (hg : w.rangeAt g 0 cs) (hu : P.underlying ty = some d) (hd : d.isRow = true) (hi : (P.info? ty).map (·.size) = some cs.length) :
    (results fn tmps).run P w = .ok (.tuple #[.agg cs.toArray, tmps.getD q undef, tmps.getD r undef, tmps.getD s undef]) w := by
  have hp' : tmps[p]?.getD undef = .pointer (some ⟨g, 0, none⟩) := by simpa using hp
  simp [results, h, hp', asAddr, run_loadVar_mid w g 0 ty cs d hg hu hd hi]
def Sf (w : World) (sa : Option Addr) (sc : Nat) (L : List Stp) : Prop := SsAt w sa L ∧ ((sa = none ∧ sc = 0 ∧ L.length = 0) ∨ ∃ b, sa = some ⟨b, 0, none⟩ ∧ L.length ≤ sc)
theorem sts_ss {w : World} {lo n sc : Nat} {sa : Option Addr} {L : List Stp} (h : Sts w lo (.slice sa n sc) L) : Sf w sa sc L := by
  rcases form2 h with ⟨e, rfl⟩ | ⟨g, cap, e, h1, _, _, _, hc⟩
  · cases e; exact ⟨.inl rfl, .inl ⟨rfl, rfl, rfl⟩⟩
  · cases e
    exact ⟨.inr ⟨g, 0, rfl, fun j u hu => by have := hc j u hu; rw [Addr.add_lit] at this; exact this⟩, .inr ⟨g, rfl, h1⟩⟩
def DtPost (w : World) (e : Ending) (w' : World) : Prop := ∃ g o c bs d z dc dk sa sc L cut tt, e = .returned (.tuple #[.agg #[.slice (some ⟨g, o, none⟩) bs.length c, .slice (some ⟨d, z, none⟩) dk.length dc], .slice sa (L : List Stp).length sc, .int .i64 cut, .bool tt]) ∧ SN w.heap.size w' g o bs d z dk ∧ Sf w' sa sc L ∧ L.length ≤ 8 ∧ -9 ≤ cut ∧ cut ≤ 12 ∧ Below w.heap.size w w'
set_option maxRecDepth 100000 in
set_option maxHeartbeats 4000000 in
theorem drawTo_any (w : World) (a : Option Addr) (len cap : Nat) (zs : List Int) (h : IsRow .u8 w a len cap zs) :
    Calls Tryz.prog 20 #[.slice a len cap] w fun e w' => DtPost w e w' := by
  have bA : Below w.heap.size w (w.alloc (.cells #[.slice none 0 0, .slice none 0 0] 26)) := (Below.refl _ _).alloc (Nat.le_refl _) _
  have cZ := CsAt.new w [.slice none 0 0, .slice none 0 0] 26
  have hsz : w.heap.size < (w.alloc (.cells #[.slice none 0 0, .slice none 0 0] 26)).heap.size := by simp
  have HO := hide (open_any _ a len cap zs (isRow_below h bA))
  have HSS := hide (show (Tryz.prog.info? 26).map (·.size) = some 2 by kernel_rfl)
  clear h
  go_enter Tryz.func20, Tryz.ntmps20
  go_wp2_with fail
  generalize w.alloc (.cells #[.slice none 0 0, .slice none 0 0] 26) = wA at *
  refine (unhide HO).mono ?_
  rintro e w1 ⟨rfl, len', hl', hrow, d1⟩
  have hlt := d1.lt
  clear HO
  go_wp2_with fail
  refine (full_any wA wA w1 wA.heap.size a len' cap 0 hrow hl' d1 (by omega) (by omega)).mono ?_
  rintro e w2 ⟨g, o, c, bs, d, z, dc, dk, p', rfl, S2, hp0, hp1, d2, k2⟩
  have bB : Below w2.heap.size w2 (w2.alloc (.cells #[.slice (some ⟨g, o, none⟩) bs.length c, .slice (some ⟨d, z, none⟩) dk.length dc] 26)) := (Below.refl _ _).alloc (Nat.le_refl _) _
  have cB := CsAt.new w2 [.slice (some ⟨g, o, none⟩) bs.length c, .slice (some ⟨d, z, none⟩) dk.length dc] 26
  have S3 := S2.kept (L := []) (Kept.of bB) (by simp)
  have d3 := rd_kept d2 (L := []) (Kept.of bB) (by simp)
  have lsb : w2.heap.size < (w2.alloc (.cells #[.slice (some ⟨g, o, none⟩) bs.length c, .slice (some ⟨d, z, none⟩) dk.length dc] 26)).heap.size := by simp
  have b3 := d3.bel
  have l12 := d2.lt
  have l2 := k2.size
  clear bB S2 d2 k2
  go_upto_region 3 with fail
  generalize w2.alloc (.cells #[.slice (some ⟨g, o, none⟩) bs.length c, .slice (some ⟨d, z, none⟩) dk.length dc] 26) = w3 at *
  generalize hsb : w2.heap.size = sb at *
  have hFF := S3.fs.four
  have hFP := hide S3.fs.pgs
  have h6 := S3.six
  have d3d := rd_kept d3 (L := []) (Kept.refl [] w3).drew (by simp)
  clear d3
  refine wp_region_noPanic ?_
  refine wp_region_held_drew (S := fun w' => Kept [wA.heap.size] w3 w') (by kernel_rfl) (Kept.refl _ _).drew (fun hHeld => ?_)
  generalize w3.drew = y0 at *
  have z0 := hHeld.size
  refine takeL 0 (.agg #[.slice (some ⟨g, o, none⟩) bs.length c, .slice (some ⟨d, z, none⟩) dk.length dc]) rfl (by kernel_rfl) (by kernel_rfl) (by kernel_rfl) (fun _ _ _ h => h) (yieldsIf_load_mid rfl 26 _ rfl sb 0 rfl [.slice (some ⟨g, o, none⟩) bs.length c, .slice (some ⟨d, z, none⟩) dk.length dc] _ (fun _ h => (csAt_kept cB h (by omega) (by simp; omega)).cells) Tryz.underlying26 rfl (unhide HSS)) hHeld ?_
  try simp only [Act.put, List.setIfInBounds_toArray, List.set_cons_zero, List.set_cons_succ]
  refine takeL 1 (.pointer (some ⟨wA.heap.size, 0, none⟩)) rfl (by kernel_rfl) (by kernel_rfl) (by kernel_rfl) (fun _ _ _ h => h) (Or.inl ⟨rfl, fun _ _ => rfl⟩) hHeld ?_
  try simp only [Act.put, List.setIfInBounds_toArray, List.set_cons_zero, List.set_cons_succ]
  refine oneL 2 rfl (by kernel_rfl) rfl (fun K hK => ?_)
  go_simp
  refine (event_any wA wA y0 wA.heap.size a len' cap p' hrow hl' d3d (by omega) (by omega)).mono ?_
  rintro e y1 ⟨kd, xx, bb, cc, tn, p2, rfl, hp2, hp3, d4, k4⟩
  go_wp2_with fail
  refine hK.out _ _ (hHeld.trans k4) (fun hHeld => ?_)
  clear hK K d3d
  try simp only [Act.put, List.setIfInBounds_toArray, List.set_cons_zero, List.set_cons_succ]
  have z1 := k4.size
  clear k4
  refine oneL 3 rfl (by kernel_rfl) rfl (fun K hK => ?_)
  have S4 := S3.kept hHeld (fun x hx => by simp at hx; subst hx; exact hlt)
  go_simp
  refine (specPlaySteps_any kd xx bb cc tn (some ⟨g, o, none⟩) c bs (some ⟨d, z, none⟩) dc dk _ S4.at (by omega) (fun b hb => by have := unhide hFP b hb; omega) (by omega)).mono ?_
  rintro e y2 ⟨v8, rfl, V, b⟩
  go_wp2_with fail
  refine hK.out _ _ (hHeld.trans (Kept.of b)) (fun hHeld => ?_)
  clear hK K
  try simp only [Act.put, List.setIfInBounds_toArray, List.set_cons_zero, List.set_cons_succ]
  have z2 := b.size
  have d5 := rd_kept d4 (L := []) (Kept.of b) (by simp)
  clear S4 d4 b
  refine takeL 4 (v8) rfl (by kernel_rfl) (by kernel_rfl) (by kernel_rfl) (fun _ _ _ h => h) (Or.inl ⟨rfl, fun _ _ => rfl⟩) hHeld ?_
  try simp only [Act.put, List.setIfInBounds_toArray, List.set_cons_zero, List.set_cons_succ]
  refine wpAnyH_done (by kernel_rfl) ?_ _
  refine NoPanic.normal ?_
  have cB2 := csAt_kept cB hHeld (by omega) (by simp; omega)
  have cR2 := csAt_kept cZ (L := [wA.heap.size]) ((Kept.of d5.bel)) (by omega) (by simp; omega)
  have B2 := bA.trans (d5.bel.mono bA.size)
  have hL7 := hide (ev_len bs dk ⟨kd, xx, bb, cc, tn⟩)
  generalize evS bs dk ⟨kd, xx, bb, cc, tn⟩ = L at *
  generalize y1.heap.size = lo at *
  have K2 := hHeld
  clear hHeld cB cZ b3 bA
  go_wp2_with fail
  refine (pick_k wA wA y2 wA.heap.size a len' cap p2 12 hrow hl' d5 (by omega) (by omega) (by omega) (by omega)).mono ?_
  rintro e w6 ⟨r, rfl, r0, r1, d6, m6⟩
  have K6 := K2.trans m6
  have cB6 := csAt_kept cB2 m6 (by omega) (by simp; omega)
  have cR6 := csAt_kept cR2 m6 (by omega) (by simp; omega)
  have V6 := Sts.kept V m6 (fun z hz => by simp at hz; omega)
  have B6 := B2.trans (Below.mono (Kept.below m6 (B := w.heap.size) (by simp; omega) (by omega)) (Nat.le_refl _))
  have q6 := m6.size
  clear K2 cB2 cR2 V B2 m6
  by_cases h0 : r = 0
  · have hz0 := True.intro
    subst h0
    go_wp2_with fail
    refine (pick_k wA wA w6 wA.heap.size a len' cap _ 4 hrow hl' d6 (by omega) (by omega) (by omega) (by omega)).mono ?_
    rintro e w7 ⟨s1, rfl, s10, s11, d7, m7⟩
    have K7 := K6.trans m7
    have cB7 := csAt_kept cB6 m7 (by omega) (by simp; omega)
    have cR7 := csAt_kept cR6 m7 (by omega) (by simp; omega)
    have V7 := Sts.kept V6 m7 (fun z hz => by simp at hz; omega)
    have B7 := B6.trans (Below.mono (Kept.below m7 (B := w.heap.size) (by simp; omega) (by omega)) (Nat.le_refl _))
    have q7 := m7.size
    clear K6 cB6 cR6 V6 B6 m7
    clear d6
    have hwa : IntKind.i64.wrap (1 + s1) = 1 + s1 := by rw [IntKind.wrap_i64] <;> omega
    go_wp2_with fail
    refine (pick_k wA wA w7 wA.heap.size a len' cap _ 6 hrow hl' d7 (by omega) (by omega) (by omega) (by omega)).mono ?_
    rintro e w8 ⟨s2, rfl, s20, s21, d8, m8⟩
    have K8 := K7.trans m8
    have cB8 := csAt_kept cB7 m8 (by omega) (by simp; omega)
    have cR8 := csAt_kept cR7 m8 (by omega) (by simp; omega)
    have V8 := Sts.kept V7 m8 (fun z hz => by simp at hz; omega)
    have B8 := B7.trans (Below.mono (Kept.below m8 (B := w.heap.size) (by simp; omega) (by omega)) (Nat.le_refl _))
    have q8 := m8.size
    clear K7 cB7 cR7 V7 B7 m8
    clear d7
    have hwb : IntKind.i64.wrap (1 + s2) = 1 + s2 := by rw [IntKind.wrap_i64] <;> omega
    go_wp2_with fail
    refine (pick_k wA wA w8 wA.heap.size a len' cap _ 10 hrow hl' d8 (by omega) (by omega) (by omega) (by omega)).mono ?_
    rintro e w9 ⟨s3, rfl, s30, s31, d9, m9⟩
    have K9 := K8.trans m9
    have cB9 := csAt_kept cB8 m9 (by omega) (by simp; omega)
    have cR9 := csAt_kept cR8 m9 (by omega) (by simp; omega)
    have V9 := Sts.kept V8 m9 (fun z hz => by simp at hz; omega)
    have B9 := B8.trans (Below.mono (Kept.below m9 (B := w.heap.size) (by simp; omega) (by omega)) (Nat.le_refl _))
    have q9 := m9.size
    clear K8 cB8 cR8 V8 B8 m9
    clear d8
    obtain ⟨iS, hiS, hzS, hsS, hbS⟩ := infoS
    have bm : Below w9.heap.size w9 (w9.alloc (.cells #[.int .i64 (1 + s1), .int .i64 (1 + s2), .int .i64 s3, .int .i64 0, .int .i64 0, .int .i64 0, .int .i64 0, .int .i64 0] 38)) := (Below.refl _ _).alloc (Nat.le_refl _) _
    have nw := CsAt.new w9 (stC ⟨1 + s1, 1 + s2, s3, 0, zRc⟩) 38
    have hnw := src_mid nw.cells
    have Va := V9.below bm (Nat.le_refl _)
    have hRa := Va.row
    have sza : w9.heap.size < (w9.alloc (.cells #[.int .i64 (1 + s1), .int .i64 (1 + s2), .int .i64 s3, .int .i64 0, .int .i64 0, .int .i64 0, .int .i64 0, .int .i64 0] 38)).heap.size := by simp
    have hll := unhide hL7
    rw [show (stC ⟨1 + s1, 1 + s2, s3, 0, zRc⟩).toArray = #[.int .i64 (1 + s1), .int .i64 (1 + s2), .int .i64 s3, .int .i64 0, .int .i64 0, .int .i64 0, .int .i64 0, .int .i64 0] from rfl] at nw hnw
    have da := rd_kept d9 (L := []) (Kept.of bm) (by simp)
    go_wp2_with (refine wpList_append_own _ rfl _ _ 27 rfl lo 38 iS (.agg (stC zSt).toArray) 8 64 Tryz.underlying27 hiS hzS hsS hbS rfl (by omega) _ L.length (stsC L) rfl hRa ⟨w9.heap.size, 0, none⟩ 1 1 (stC ⟨1 + s1, 1 + s2, s3, 0, zRc⟩) rfl rfl hnw (one_stC _) (by simp [maxLen]; omega) (by omega) (by omega) ?_; intro v' w10 ho hg _)
    obtain ⟨V10, bp⟩ := Va.push (by omega) ho hg
    have hown : ∀ z ∈ v8.ownBlock.toList, lo ≤ z := fun z hz => (Va.lt z (by simpa using hz)).1
    have kZ : Kept v8.ownBlock.toList (w9.alloc (.cells #[.int .i64 (1 + s1), .int .i64 (1 + s2), .int .i64 s3, .int .i64 0, .int .i64 0, .int .i64 0, .int .i64 0, .int .i64 0] 38)) w10 := (Kept.refl _ _).grown hg (fun k e => .inl (by first | (simp [e]; done) | (simpa using e) | (simpa using e.symm) | exact (by simp; exact e)))
    have K10 := (K9.trans (Kept.of bm)).then kZ (fun z hz => .inr (by have := hown z hz; omega))
    have cB10 := (cB9.below bm (by omega)).below bp (by omega)
    have cR10 := (cR9.below bm (by omega)).below bp (by omega)
    have d10 := rd_kept da kZ (fun z hz => by have := hown z hz; omega)
    have B10 := (B9.trans (bm.mono (by omega))).trans (bp.mono (by omega))
    have q10 := bp.size
    clear K9 cB9 cR9 V9 B9 d9 bm nw hnw Va hRa da ho hg hown kZ bp
    obtain ⟨L2, hL2⟩ : ∃ x, x = L ++ [(⟨1 + s1, 1 + s2, s3, 0, zRc⟩ : Stp)] := ⟨_, rfl⟩
    rw [← hL2] at V10
    have hl8 : L2.length ≤ 8 := by have := unhide hL7; rw [hL2, List.length_append]; simp; omega
    clear hL2
    obtain ⟨sa, sc, rfl, hss, hap⟩ := stepsArg V10
    clear hss hap
    have cR := cR10
    have cB := cB10
    obtain ⟨pp, hpp0, hpp1, dd⟩ : ∃ p, 0 ≤ p ∧ p ≤ 1200 ∧ Rd wA wA wA.heap.size a len' cap p w10.drew := ⟨_, by omega, by omega, rd_kept d10 (L := []) (Kept.refl [] w10).drew (by simp)⟩
    clear cR10 cB10 d10
    have hdiv : ∀ s : Int, 0 ≤ s → s < 24 → ∃ q : Int, s.tdiv 23 = q ∧ (q = 0 ∨ q = 1) := fun s t0 t1 => ⟨_, rfl, by
      by_cases e : s = 23
      · subst e; right; rfl
      · left; exact Int.tdiv_eq_zero_of_lt t0 (by omega)⟩
    have hw2 : IntKind.i64.wrap (((L2).length : Int) + 2) = ((L2).length : Int) + 2 := by rw [IntKind.wrap_i64] <;> omega
    go_upto_region 11 with fail
    refine wp_region_noPanic ?_
    refine wp_region_held_drew (S := fun w' => Kept [wA.heap.size, w.heap.size] w10 w') (by kernel_rfl) (Kept.refl _ _).drew (fun hHeld => ?_)
    replace cR := OrdL.ckept cR (L := []) (Kept.refl [] w10).drew (CsAt.lt cR (by first | (simp; done) | assumption)) (by simp)
    generalize w10.drew = y0 at *
    have z0 := hHeld.size
    refine takeL 0 (.agg #[.slice (some ⟨g, o, none⟩) bs.length c, .slice (some ⟨d, z, none⟩) dk.length dc]) rfl (by kernel_rfl) (by kernel_rfl) (by kernel_rfl) (fun _ _ _ h => h) (yieldsIf_load_mid rfl 26 _ rfl sb 0 rfl [.slice (some ⟨g, o, none⟩) bs.length c, .slice (some ⟨d, z, none⟩) dk.length dc] _ (fun _ h => (csAt_kept cB h (by omega) (by simp; omega)).cells) Tryz.underlying26 rfl (unhide HSS)) hHeld ?_
    try simp only [Act.put, List.setIfInBounds_toArray, List.set_cons_zero, List.set_cons_succ]
    refine takeL 1 (.slice sa (L2).length sc) rfl (by kernel_rfl) (by kernel_rfl) (by kernel_rfl) (fun _ _ _ h => h) (Or.inl ⟨rfl, fun _ _ => rfl⟩) hHeld ?_
    try simp only [Act.put, List.setIfInBounds_toArray, List.set_cons_zero, List.set_cons_succ]
    refine takeL 2 (.pointer (some ⟨wA.heap.size, 0, none⟩)) rfl (by kernel_rfl) (by kernel_rfl) (by kernel_rfl) (fun _ _ _ h => h) (Or.inl ⟨rfl, fun _ _ => rfl⟩) hHeld ?_
    try simp only [Act.put, List.setIfInBounds_toArray, List.set_cons_zero, List.set_cons_succ]
    refine takeL 3 (.slice sa (L2).length sc) rfl (by kernel_rfl) (by kernel_rfl) (by kernel_rfl) (fun _ _ _ h => h) (Or.inl ⟨rfl, fun _ _ => rfl⟩) hHeld ?_
    try simp only [Act.put, List.setIfInBounds_toArray, List.set_cons_zero, List.set_cons_succ]
    refine takeL 4 (.int .i64 ((L2).length : Int)) rfl (by kernel_rfl) (by kernel_rfl) (by kernel_rfl) (fun _ _ _ h => h) (Or.inl ⟨rfl, fun w9 hSw => by go_simp⟩) hHeld ?_
    try simp only [Act.put, List.setIfInBounds_toArray, List.set_cons_zero, List.set_cons_succ]
    refine takeL 5 (.int .i64 (((L2).length : Int) + 2)) rfl (by kernel_rfl) (by kernel_rfl) (by kernel_rfl) (fun _ _ _ h => h) (Or.inl ⟨rfl, fun w9 hSw => by go_simp⟩) hHeld ?_
    try simp only [Act.put, List.setIfInBounds_toArray, List.set_cons_zero, List.set_cons_succ]
    refine takeL 7 (.pointer (some ⟨wA.heap.size, 0, none⟩)) rfl (by kernel_rfl) (by kernel_rfl) (by kernel_rfl) (fun _ _ _ h => h) (Or.inl ⟨rfl, fun _ _ => rfl⟩) hHeld ?_
    try simp only [Act.put, List.setIfInBounds_toArray, List.set_cons_zero, List.set_cons_succ]
    refine takeL 12 (.pointer (some ⟨wA.heap.size, 0, none⟩)) rfl (by kernel_rfl) (by kernel_rfl) (by kernel_rfl) (fun _ _ _ h => h) (Or.inl ⟨rfl, fun _ _ => rfl⟩) hHeld ?_
    try simp only [Act.put, List.setIfInBounds_toArray, List.set_cons_zero, List.set_cons_succ]
    refine oneL 6 rfl (by kernel_rfl) rfl (fun K hK => ?_)
    go_simp
    refine (pick_k wA wA y0 wA.heap.size a len' cap pp (((L2).length : Int) + 2) hrow hl' dd (by omega) (by omega) (by omega) (by omega)).mono ?_
    rintro e y1 ⟨t, rfl, t0, t1, dd2, mm⟩
    go_wp2_with fail
    replace cR := csAt_kept cR mm (CsAt.lt cR (by simp)) (by simp; omega)
    refine hK.out _ _ (hHeld.then mm (fun z hz => .inl (by simp at hz; simp [hz]))) (fun hHeld => ?_)
    clear hK K
    try simp only [Act.put, List.setIfInBounds_toArray, List.set_cons_zero, List.set_cons_succ]
    have z1 := mm.size
    clear mm dd
    have dd := dd2
    clear dd2
    obtain ⟨pp, hpp0, hpp1, dd⟩ : ∃ p, 0 ≤ p ∧ p ≤ 1210 ∧ Rd wA wA wA.heap.size a len' cap p y1 := ⟨_, by omega, by omega, dd⟩
    refine oneL 8 rfl (by kernel_rfl) rfl (fun K hK => ?_)
    go_simp
    refine (pick_k wA wA y1 wA.heap.size a len' cap pp (24) hrow hl' dd (by omega) (by omega) (by omega) (by omega)).mono ?_
    rintro e y2 ⟨s, rfl, s0, s1, dd2, mm⟩
    go_wp2_with fail
    replace cR := csAt_kept cR mm (CsAt.lt cR (by simp)) (by simp; omega)
    refine hK.out _ _ (hHeld.then mm (fun z hz => .inl (by simp at hz; simp [hz]))) (fun hHeld => ?_)
    clear hK K
    try simp only [Act.put, List.setIfInBounds_toArray, List.set_cons_zero, List.set_cons_succ]
    have z2 := mm.size
    clear mm dd
    have dd := dd2
    clear dd2
    obtain ⟨pp, hpp0, hpp1, dd⟩ : ∃ p, 0 ≤ p ∧ p ≤ 1220 ∧ Rd wA wA wA.heap.size a len' cap p y2 := ⟨_, by omega, by omega, dd⟩
    obtain ⟨q, hq, hqq⟩ := hdiv s s0 s1
    have hq' : s / 23 = q := by rw [← hq, Int.tdiv_eq_ediv_of_nonneg s0]
    have hw0 : IntKind.i64.wrap q = q := by rw [IntKind.wrap_i64] <;> omega
    have hw3 : IntKind.i64.wrap (q * 9) = q * 9 := by rw [IntKind.wrap_i64] <;> omega
    have hw4 : IntKind.i64.wrap (t - q * 9) = t - q * 9 := by rw [IntKind.wrap_i64] <;> omega
    refine takeL 9 (.int .i64 q) rfl (by kernel_rfl) (by kernel_rfl) (by kernel_rfl) (fun _ _ _ h => h) (Or.inl ⟨rfl, fun w9 hSw => by go_simp⟩) hHeld ?_
    try simp only [Act.put, List.setIfInBounds_toArray, List.set_cons_zero, List.set_cons_succ]
    refine takeL 10 (.int .i64 (q * 9)) rfl (by kernel_rfl) (by kernel_rfl) (by kernel_rfl) (fun _ _ _ h => h) (Or.inl ⟨rfl, fun w9 hSw => by go_simp⟩) hHeld ?_
    try simp only [Act.put, List.setIfInBounds_toArray, List.set_cons_zero, List.set_cons_succ]
    refine takeL 11 (.int .i64 (t - q * 9)) rfl (by kernel_rfl) (by kernel_rfl) (by kernel_rfl) (fun _ _ _ h => h) (Or.inl ⟨rfl, fun w9 hSw => by go_simp⟩) hHeld ?_
    try simp only [Act.put, List.setIfInBounds_toArray, List.set_cons_zero, List.set_cons_succ]
    refine oneL 13 rfl (by kernel_rfl) rfl (fun K hK => ?_)
    go_simp
    refine (pick_k wA wA y2 wA.heap.size a len' cap pp (2) hrow hl' dd (by omega) (by omega) (by omega) (by omega)).mono ?_
    rintro e y3 ⟨u, rfl, u0, u1, dd2, mm⟩
    go_wp2_with fail
    replace cR := csAt_kept cR mm (CsAt.lt cR (by simp)) (by simp; omega)
    refine hK.out _ _ (hHeld.then mm (fun z hz => .inl (by simp at hz; simp [hz]))) (fun hHeld => ?_)
    clear hK K
    try simp only [Act.put, List.setIfInBounds_toArray, List.set_cons_zero, List.set_cons_succ]
    have z3 := mm.size
    clear mm dd
    have dd := dd2
    clear dd2
    obtain ⟨pp, hpp0, hpp1, dd⟩ : ∃ p, 0 ≤ p ∧ p ≤ 1230 ∧ Rd wA wA wA.heap.size a len' cap p y3 := ⟨_, by omega, by omega, dd⟩
    refine takeL 14 (.bool (u == 0)) rfl (by kernel_rfl) (by kernel_rfl) (by kernel_rfl) (fun _ _ _ h => h) (Or.inl ⟨rfl, fun w9 hSw => by go_simp⟩) hHeld ?_
    try simp only [Act.put, List.setIfInBounds_toArray, List.set_cons_zero, List.set_cons_succ]
    refine oneL 15 rfl (by kernel_rfl) rfl (fun K hK => ?_)
    have pcR := cR.put [.slice (some ⟨g, o, none⟩) bs.length c, .slice (some ⟨d, z, none⟩) dk.length dc] rfl
    have kz := OrdL.kcells y3 w.heap.size 0 [.slice (some ⟨g, o, none⟩) bs.length c, .slice (some ⟨d, z, none⟩) dk.length dc]
    refine wp_store_mid 26 _ _ rfl w.heap.size 0 [.slice (some ⟨g, o, none⟩) bs.length c, .slice (some ⟨d, z, none⟩) dk.length dc].toArray rfl rfl cR.free (unhide HSS) (by kernel_rfl) ?_
    refine hK.out _ _ (hHeld.then kz (fun y hy => by simp at hy; subst hy; first | (left; simp; done) | (right; omega))) (fun hHeld => ?_)
    clear hK K
    try simp only [Act.put, List.setIfInBounds_toArray, List.set_cons_zero, List.set_cons_succ]
    clear cR kz
    generalize y3.setCells w.heap.size 0 [.slice (some ⟨g, o, none⟩) bs.length c, .slice (some ⟨d, z, none⟩) dk.length dc] = y4 at *
    have cR := pcR
    clear pcR
    refine takeL 16 (.slice sa (L2).length sc) rfl (by kernel_rfl) (by kernel_rfl) (by kernel_rfl) (fun _ _ _ h => h) (Or.inl ⟨rfl, fun _ _ => rfl⟩) hHeld ?_
    try simp only [Act.put, List.setIfInBounds_toArray, List.set_cons_zero, List.set_cons_succ]
    refine takeL 17 (.int .i64 (t - q * 9)) rfl (by kernel_rfl) (by kernel_rfl) (by kernel_rfl) (fun _ _ _ h => h) (Or.inl ⟨rfl, fun _ _ => rfl⟩) hHeld ?_
    try simp only [Act.put, List.setIfInBounds_toArray, List.set_cons_zero, List.set_cons_succ]
    refine takeL 18 (.bool (u == 0)) rfl (by kernel_rfl) (by kernel_rfl) (by kernel_rfl) (fun _ _ _ h => h) (Or.inl ⟨rfl, fun _ _ => rfl⟩) hHeld ?_
    try simp only [Act.put, List.setIfInBounds_toArray, List.set_cons_zero, List.set_cons_succ]
    refine wpAnyH_done (by kernel_rfl) ?_ _
    refine NoPanic.normal ?_
    have KT := ((Kept.refl [wA.heap.size, w.heap.size] w3).then K10 (fun z hz => .inl (by simp at hz; simp [hz]))).trans hHeld
    have SZ := SN.mono (SN.kept S3 KT (fun x hx => by simp at hx; omega)) (show w.heap.size ≤ w1.heap.size by omega)
    have VZ := sts_ss (Sts.kept V10 hHeld (fun z hz => by simp at hz; omega))
    have BZ := B10.trans (Below.mono (Kept.below hHeld (B := w.heap.size) (by simp; omega) (by omega)) (Nat.le_refl _))
    have hcut : -9 ≤ t - q * 9 ∧ t - q * 9 ≤ 12 := by rcases hqq with rfl | rfl <;> omega
    clear hHeld KT K10 V10 B10 cB dd
    go_wp2
    refine bodyPost_ret (res_c3 Tryz.results20 _ _ w.heap.size [.slice (some ⟨g, o, none⟩) bs.length c, .slice (some ⟨d, z, none⟩) dk.length dc] _ rfl cR.cells Tryz.underlying26 rfl (by kernel_rfl)) rfl ?_
    exact ⟨g, o, c, bs, d, z, dc, dk, sa, sc, L2, t - q * 9, u == 0, rfl, SZ, VZ, hl8, hcut.1, hcut.2, BZ⟩
  by_cases h1 : r = 1
  · have hz0 := True.intro
    subst h1
    go_wp2_with fail
    refine (pick_k wA wA w6 wA.heap.size a len' cap _ 5 hrow hl' d6 (by omega) (by omega) (by omega) (by omega)).mono ?_
    rintro e w7 ⟨s1, rfl, s10, s11, d7, m7⟩
    have K7 := K6.trans m7
    have cB7 := csAt_kept cB6 m7 (by omega) (by simp; omega)
    have cR7 := csAt_kept cR6 m7 (by omega) (by simp; omega)
    have V7 := Sts.kept V6 m7 (fun z hz => by simp at hz; omega)
    have B7 := B6.trans (Below.mono (Kept.below m7 (B := w.heap.size) (by simp; omega) (by omega)) (Nat.le_refl _))
    have q7 := m7.size
    clear K6 cB6 cR6 V6 B6 m7
    clear d6
    obtain ⟨iS, hiS, hzS, hsS, hbS⟩ := infoS
    have bm : Below w7.heap.size w7 (w7.alloc (.cells #[.int .i64 2, .int .i64 0, .int .i64 0, .int .i64 s1, .int .i64 0, .int .i64 0, .int .i64 0, .int .i64 0] 38)) := (Below.refl _ _).alloc (Nat.le_refl _) _
    have nw := CsAt.new w7 (stC ⟨2, 0, 0, s1, zRc⟩) 38
    have hnw := src_mid nw.cells
    have Va := V7.below bm (Nat.le_refl _)
    have hRa := Va.row
    have sza : w7.heap.size < (w7.alloc (.cells #[.int .i64 2, .int .i64 0, .int .i64 0, .int .i64 s1, .int .i64 0, .int .i64 0, .int .i64 0, .int .i64 0] 38)).heap.size := by simp
    have hll := unhide hL7
    rw [show (stC ⟨2, 0, 0, s1, zRc⟩).toArray = #[.int .i64 2, .int .i64 0, .int .i64 0, .int .i64 s1, .int .i64 0, .int .i64 0, .int .i64 0, .int .i64 0] from rfl] at nw hnw
    have da := rd_kept d7 (L := []) (Kept.of bm) (by simp)
    go_wp2_with (refine wpList_append_own _ rfl _ _ 27 rfl lo 38 iS (.agg (stC zSt).toArray) 8 64 Tryz.underlying27 hiS hzS hsS hbS rfl (by omega) _ L.length (stsC L) rfl hRa ⟨w7.heap.size, 0, none⟩ 1 1 (stC ⟨2, 0, 0, s1, zRc⟩) rfl rfl hnw (one_stC _) (by simp [maxLen]; omega) (by omega) (by omega) ?_; intro v' w8 ho hg _)
    obtain ⟨V8, bp⟩ := Va.push (by omega) ho hg
    have hown : ∀ z ∈ v8.ownBlock.toList, lo ≤ z := fun z hz => (Va.lt z (by simpa using hz)).1
    have kZ : Kept v8.ownBlock.toList (w7.alloc (.cells #[.int .i64 2, .int .i64 0, .int .i64 0, .int .i64 s1, .int .i64 0, .int .i64 0, .int .i64 0, .int .i64 0] 38)) w8 := (Kept.refl _ _).grown hg (fun k e => .inl (by first | (simp [e]; done) | (simpa using e) | (simpa using e.symm) | exact (by simp; exact e)))
    have K8 := (K7.trans (Kept.of bm)).then kZ (fun z hz => .inr (by have := hown z hz; omega))
    have cB8 := (cB7.below bm (by omega)).below bp (by omega)
    have cR8 := (cR7.below bm (by omega)).below bp (by omega)
    have d8 := rd_kept da kZ (fun z hz => by have := hown z hz; omega)
    have B8 := (B7.trans (bm.mono (by omega))).trans (bp.mono (by omega))
    have q8 := bp.size
    clear K7 cB7 cR7 V7 B7 d7 bm nw hnw Va hRa da ho hg hown kZ bp
    obtain ⟨L2, hL2⟩ : ∃ x, x = L ++ [(⟨2, 0, 0, s1, zRc⟩ : Stp)] := ⟨_, rfl⟩
    rw [← hL2] at V8
    have hl8 : L2.length ≤ 8 := by have := unhide hL7; rw [hL2, List.length_append]; simp; omega
    clear hL2
    obtain ⟨sa, sc, rfl, hss, hap⟩ := stepsArg V8
    clear hss hap
    have cR := cR8
    have cB := cB8
    obtain ⟨pp, hpp0, hpp1, dd⟩ : ∃ p, 0 ≤ p ∧ p ≤ 1200 ∧ Rd wA wA wA.heap.size a len' cap p w8.drew := ⟨_, by omega, by omega, rd_kept d8 (L := []) (Kept.refl [] w8).drew (by simp)⟩
    clear cR8 cB8 d8
    have hdiv : ∀ s : Int, 0 ≤ s → s < 24 → ∃ q : Int, s.tdiv 23 = q ∧ (q = 0 ∨ q = 1) := fun s t0 t1 => ⟨_, rfl, by
      by_cases e : s = 23
      · subst e; right; rfl
      · left; exact Int.tdiv_eq_zero_of_lt t0 (by omega)⟩
    have hw2 : IntKind.i64.wrap (((L2).length : Int) + 2) = ((L2).length : Int) + 2 := by rw [IntKind.wrap_i64] <;> omega
    go_upto_region 11 with fail
    refine wp_region_noPanic ?_
    refine wp_region_held_drew (S := fun w' => Kept [wA.heap.size, w.heap.size] w8 w') (by kernel_rfl) (Kept.refl _ _).drew (fun hHeld => ?_)
    replace cR := OrdL.ckept cR (L := []) (Kept.refl [] w8).drew (CsAt.lt cR (by first | (simp; done) | assumption)) (by simp)
    generalize w8.drew = y0 at *
    have z0 := hHeld.size
    refine takeL 0 (.agg #[.slice (some ⟨g, o, none⟩) bs.length c, .slice (some ⟨d, z, none⟩) dk.length dc]) rfl (by kernel_rfl) (by kernel_rfl) (by kernel_rfl) (fun _ _ _ h => h) (yieldsIf_load_mid rfl 26 _ rfl sb 0 rfl [.slice (some ⟨g, o, none⟩) bs.length c, .slice (some ⟨d, z, none⟩) dk.length dc] _ (fun _ h => (csAt_kept cB h (by omega) (by simp; omega)).cells) Tryz.underlying26 rfl (unhide HSS)) hHeld ?_
    try simp only [Act.put, List.setIfInBounds_toArray, List.set_cons_zero, List.set_cons_succ]
    refine takeL 1 (.slice sa (L2).length sc) rfl (by kernel_rfl) (by kernel_rfl) (by kernel_rfl) (fun _ _ _ h => h) (Or.inl ⟨rfl, fun _ _ => rfl⟩) hHeld ?_
    try simp only [Act.put, List.setIfInBounds_toArray, List.set_cons_zero, List.set_cons_succ]
    refine takeL 2 (.pointer (some ⟨wA.heap.size, 0, none⟩)) rfl (by kernel_rfl) (by kernel_rfl) (by kernel_rfl) (fun _ _ _ h => h) (Or.inl ⟨rfl, fun _ _ => rfl⟩) hHeld ?_
    try simp only [Act.put, List.setIfInBounds_toArray, List.set_cons_zero, List.set_cons_succ]
    refine takeL 3 (.slice sa (L2).length sc) rfl (by kernel_rfl) (by kernel_rfl) (by kernel_rfl) (fun _ _ _ h => h) (Or.inl ⟨rfl, fun _ _ => rfl⟩) hHeld ?_
    try simp only [Act.put, List.setIfInBounds_toArray, List.set_cons_zero, List.set_cons_succ]
    refine takeL 4 (.int .i64 ((L2).length : Int)) rfl (by kernel_rfl) (by kernel_rfl) (by kernel_rfl) (fun _ _ _ h => h) (Or.inl ⟨rfl, fun w9 hSw => by go_simp⟩) hHeld ?_
    try simp only [Act.put, List.setIfInBounds_toArray, List.set_cons_zero, List.set_cons_succ]
    refine takeL 5 (.int .i64 (((L2).length : Int) + 2)) rfl (by kernel_rfl) (by kernel_rfl) (by kernel_rfl) (fun _ _ _ h => h) (Or.inl ⟨rfl, fun w9 hSw => by go_simp⟩) hHeld ?_
    try simp only [Act.put, List.setIfInBounds_toArray, List.set_cons_zero, List.set_cons_succ]
    refine takeL 7 (.pointer (some ⟨wA.heap.size, 0, none⟩)) rfl (by kernel_rfl) (by kernel_rfl) (by kernel_rfl) (fun _ _ _ h => h) (Or.inl ⟨rfl, fun _ _ => rfl⟩) hHeld ?_
    try simp only [Act.put, List.setIfInBounds_toArray, List.set_cons_zero, List.set_cons_succ]
    refine takeL 12 (.pointer (some ⟨wA.heap.size, 0, none⟩)) rfl (by kernel_rfl) (by kernel_rfl) (by kernel_rfl) (fun _ _ _ h => h) (Or.inl ⟨rfl, fun _ _ => rfl⟩) hHeld ?_
    try simp only [Act.put, List.setIfInBounds_toArray, List.set_cons_zero, List.set_cons_succ]
    refine oneL 6 rfl (by kernel_rfl) rfl (fun K hK => ?_)
    go_simp
    refine (pick_k wA wA y0 wA.heap.size a len' cap pp (((L2).length : Int) + 2) hrow hl' dd (by omega) (by omega) (by omega) (by omega)).mono ?_
    rintro e y1 ⟨t, rfl, t0, t1, dd2, mm⟩
    go_wp2_with fail
    replace cR := csAt_kept cR mm (CsAt.lt cR (by simp)) (by simp; omega)
    refine hK.out _ _ (hHeld.then mm (fun z hz => .inl (by simp at hz; simp [hz]))) (fun hHeld => ?_)
    clear hK K
    try simp only [Act.put, List.setIfInBounds_toArray, List.set_cons_zero, List.set_cons_succ]
    have z1 := mm.size
    clear mm dd
    have dd := dd2
    clear dd2
    obtain ⟨pp, hpp0, hpp1, dd⟩ : ∃ p, 0 ≤ p ∧ p ≤ 1210 ∧ Rd wA wA wA.heap.size a len' cap p y1 := ⟨_, by omega, by omega, dd⟩
    refine oneL 8 rfl (by kernel_rfl) rfl (fun K hK => ?_)
    go_simp
    refine (pick_k wA wA y1 wA.heap.size a len' cap pp (24) hrow hl' dd (by omega) (by omega) (by omega) (by omega)).mono ?_
    rintro e y2 ⟨s, rfl, s0, s1, dd2, mm⟩
    go_wp2_with fail
    replace cR := csAt_kept cR mm (CsAt.lt cR (by simp)) (by simp; omega)
    refine hK.out _ _ (hHeld.then mm (fun z hz => .inl (by simp at hz; simp [hz]))) (fun hHeld => ?_)
    clear hK K
    try simp only [Act.put, List.setIfInBounds_toArray, List.set_cons_zero, List.set_cons_succ]
    have z2 := mm.size
    clear mm dd
    have dd := dd2
    clear dd2
    obtain ⟨pp, hpp0, hpp1, dd⟩ : ∃ p, 0 ≤ p ∧ p ≤ 1220 ∧ Rd wA wA wA.heap.size a len' cap p y2 := ⟨_, by omega, by omega, dd⟩
    obtain ⟨q, hq, hqq⟩ := hdiv s s0 s1
    have hq' : s / 23 = q := by rw [← hq, Int.tdiv_eq_ediv_of_nonneg s0]
    have hw0 : IntKind.i64.wrap q = q := by rw [IntKind.wrap_i64] <;> omega
    have hw3 : IntKind.i64.wrap (q * 9) = q * 9 := by rw [IntKind.wrap_i64] <;> omega
    have hw4 : IntKind.i64.wrap (t - q * 9) = t - q * 9 := by rw [IntKind.wrap_i64] <;> omega
    refine takeL 9 (.int .i64 q) rfl (by kernel_rfl) (by kernel_rfl) (by kernel_rfl) (fun _ _ _ h => h) (Or.inl ⟨rfl, fun w9 hSw => by go_simp⟩) hHeld ?_
    try simp only [Act.put, List.setIfInBounds_toArray, List.set_cons_zero, List.set_cons_succ]
    refine takeL 10 (.int .i64 (q * 9)) rfl (by kernel_rfl) (by kernel_rfl) (by kernel_rfl) (fun _ _ _ h => h) (Or.inl ⟨rfl, fun w9 hSw => by go_simp⟩) hHeld ?_
    try simp only [Act.put, List.setIfInBounds_toArray, List.set_cons_zero, List.set_cons_succ]
    refine takeL 11 (.int .i64 (t - q * 9)) rfl (by kernel_rfl) (by kernel_rfl) (by kernel_rfl) (fun _ _ _ h => h) (Or.inl ⟨rfl, fun w9 hSw => by go_simp⟩) hHeld ?_
    try simp only [Act.put, List.setIfInBounds_toArray, List.set_cons_zero, List.set_cons_succ]
    refine oneL 13 rfl (by kernel_rfl) rfl (fun K hK => ?_)
    go_simp
    refine (pick_k wA wA y2 wA.heap.size a len' cap pp (2) hrow hl' dd (by omega) (by omega) (by omega) (by omega)).mono ?_
    rintro e y3 ⟨u, rfl, u0, u1, dd2, mm⟩
    go_wp2_with fail
    replace cR := csAt_kept cR mm (CsAt.lt cR (by simp)) (by simp; omega)
    refine hK.out _ _ (hHeld.then mm (fun z hz => .inl (by simp at hz; simp [hz]))) (fun hHeld => ?_)
    clear hK K
    try simp only [Act.put, List.setIfInBounds_toArray, List.set_cons_zero, List.set_cons_succ]
    have z3 := mm.size
    clear mm dd
    have dd := dd2
    clear dd2
    obtain ⟨pp, hpp0, hpp1, dd⟩ : ∃ p, 0 ≤ p ∧ p ≤ 1230 ∧ Rd wA wA wA.heap.size a len' cap p y3 := ⟨_, by omega, by omega, dd⟩
    refine takeL 14 (.bool (u == 0)) rfl (by kernel_rfl) (by kernel_rfl) (by kernel_rfl) (fun _ _ _ h => h) (Or.inl ⟨rfl, fun w9 hSw => by go_simp⟩) hHeld ?_
    try simp only [Act.put, List.setIfInBounds_toArray, List.set_cons_zero, List.set_cons_succ]
    refine oneL 15 rfl (by kernel_rfl) rfl (fun K hK => ?_)
    have pcR := cR.put [.slice (some ⟨g, o, none⟩) bs.length c, .slice (some ⟨d, z, none⟩) dk.length dc] rfl
    have kz := OrdL.kcells y3 w.heap.size 0 [.slice (some ⟨g, o, none⟩) bs.length c, .slice (some ⟨d, z, none⟩) dk.length dc]
    refine wp_store_mid 26 _ _ rfl w.heap.size 0 [.slice (some ⟨g, o, none⟩) bs.length c, .slice (some ⟨d, z, none⟩) dk.length dc].toArray rfl rfl cR.free (unhide HSS) (by kernel_rfl) ?_
    refine hK.out _ _ (hHeld.then kz (fun y hy => by simp at hy; subst hy; first | (left; simp; done) | (right; omega))) (fun hHeld => ?_)
    clear hK K
    try simp only [Act.put, List.setIfInBounds_toArray, List.set_cons_zero, List.set_cons_succ]
    clear cR kz
    generalize y3.setCells w.heap.size 0 [.slice (some ⟨g, o, none⟩) bs.length c, .slice (some ⟨d, z, none⟩) dk.length dc] = y4 at *
    have cR := pcR
    clear pcR
    refine takeL 16 (.slice sa (L2).length sc) rfl (by kernel_rfl) (by kernel_rfl) (by kernel_rfl) (fun _ _ _ h => h) (Or.inl ⟨rfl, fun _ _ => rfl⟩) hHeld ?_
    try simp only [Act.put, List.setIfInBounds_toArray, List.set_cons_zero, List.set_cons_succ]
    refine takeL 17 (.int .i64 (t - q * 9)) rfl (by kernel_rfl) (by kernel_rfl) (by kernel_rfl) (fun _ _ _ h => h) (Or.inl ⟨rfl, fun _ _ => rfl⟩) hHeld ?_
    try simp only [Act.put, List.setIfInBounds_toArray, List.set_cons_zero, List.set_cons_succ]
    refine takeL 18 (.bool (u == 0)) rfl (by kernel_rfl) (by kernel_rfl) (by kernel_rfl) (fun _ _ _ h => h) (Or.inl ⟨rfl, fun _ _ => rfl⟩) hHeld ?_
    try simp only [Act.put, List.setIfInBounds_toArray, List.set_cons_zero, List.set_cons_succ]
    refine wpAnyH_done (by kernel_rfl) ?_ _
    refine NoPanic.normal ?_
    have KT := ((Kept.refl [wA.heap.size, w.heap.size] w3).then K8 (fun z hz => .inl (by simp at hz; simp [hz]))).trans hHeld
    have SZ := SN.mono (SN.kept S3 KT (fun x hx => by simp at hx; omega)) (show w.heap.size ≤ w1.heap.size by omega)
    have VZ := sts_ss (Sts.kept V8 hHeld (fun z hz => by simp at hz; omega))
    have BZ := B8.trans (Below.mono (Kept.below hHeld (B := w.heap.size) (by simp; omega) (by omega)) (Nat.le_refl _))
    have hcut : -9 ≤ t - q * 9 ∧ t - q * 9 ≤ 12 := by rcases hqq with rfl | rfl <;> omega
    clear hHeld KT K8 V8 B8 cB dd
    go_wp2
    refine bodyPost_ret (res_c3 Tryz.results20 _ _ w.heap.size [.slice (some ⟨g, o, none⟩) bs.length c, .slice (some ⟨d, z, none⟩) dk.length dc] _ rfl cR.cells Tryz.underlying26 rfl (by kernel_rfl)) rfl ?_
    exact ⟨g, o, c, bs, d, z, dc, dk, sa, sc, L2, t - q * 9, u == 0, rfl, SZ, VZ, hl8, hcut.1, hcut.2, BZ⟩
  by_cases h2 : r = 2
  · have hz0 := True.intro
    subst h2
    go_wp2_with fail
    refine (pick_k wA wA w6 wA.heap.size a len' cap _ 4 hrow hl' d6 (by omega) (by omega) (by omega) (by omega)).mono ?_
    rintro e w7 ⟨s1, rfl, s10, s11, d7, m7⟩
    have K7 := K6.trans m7
    have cB7 := csAt_kept cB6 m7 (by omega) (by simp; omega)
    have cR7 := csAt_kept cR6 m7 (by omega) (by simp; omega)
    have V7 := Sts.kept V6 m7 (fun z hz => by simp at hz; omega)
    have B7 := B6.trans (Below.mono (Kept.below m7 (B := w.heap.size) (by simp; omega) (by omega)) (Nat.le_refl _))
    have q7 := m7.size
    clear K6 cB6 cR6 V6 B6 m7
    clear d6
    go_wp2_with fail
    refine (rec_k wA wA w7 wA.heap.size a len' cap _ hrow hl' d7 (by omega) (by omega)).mono ?_
    rintro e w8 ⟨rk, rs, rx, rv, p9, rfl, hp8, hp9, d8, m8⟩
    have K8 := K7.trans m8
    have cB8 := csAt_kept cB7 m8 (by omega) (by simp; omega)
    have cR8 := csAt_kept cR7 m8 (by omega) (by simp; omega)
    have V8 := Sts.kept V7 m8 (fun z hz => by simp at hz; omega)
    have B8 := B7.trans (Below.mono (Kept.below m8 (B := w.heap.size) (by simp; omega) (by omega)) (Nat.le_refl _))
    have q8 := m8.size
    clear K7 cB7 cR7 V7 B7 m8
    clear d7
    obtain ⟨iS, hiS, hzS, hsS, hbS⟩ := infoS
    have bm : Below w8.heap.size w8 (w8.alloc (.cells #[.int .i64 3, .int .i64 0, .int .i64 0, .int .i64 s1, .int .i64 rk, .int .i64 rs, .int .i64 rx, .int .i64 rv] 38)) := (Below.refl _ _).alloc (Nat.le_refl _) _
    have nw := CsAt.new w8 (stC ⟨3, 0, 0, s1, ⟨rk, rs, rx, rv⟩⟩) 38
    have hnw := src_mid nw.cells
    have Va := V8.below bm (Nat.le_refl _)
    have hRa := Va.row
    have sza : w8.heap.size < (w8.alloc (.cells #[.int .i64 3, .int .i64 0, .int .i64 0, .int .i64 s1, .int .i64 rk, .int .i64 rs, .int .i64 rx, .int .i64 rv] 38)).heap.size := by simp
    have hll := unhide hL7
    rw [show (stC ⟨3, 0, 0, s1, ⟨rk, rs, rx, rv⟩⟩).toArray = #[.int .i64 3, .int .i64 0, .int .i64 0, .int .i64 s1, .int .i64 rk, .int .i64 rs, .int .i64 rx, .int .i64 rv] from rfl] at nw hnw
    have da := rd_kept d8 (L := []) (Kept.of bm) (by simp)
    go_wp2_with (refine wpList_append_own _ rfl _ _ 27 rfl lo 38 iS (.agg (stC zSt).toArray) 8 64 Tryz.underlying27 hiS hzS hsS hbS rfl (by omega) _ L.length (stsC L) rfl hRa ⟨w8.heap.size, 0, none⟩ 1 1 (stC ⟨3, 0, 0, s1, ⟨rk, rs, rx, rv⟩⟩) rfl rfl hnw (one_stC _) (by simp [maxLen]; omega) (by omega) (by omega) ?_; intro v' w9 ho hg _)
    obtain ⟨V9, bp⟩ := Va.push (by omega) ho hg
    have hown : ∀ z ∈ v8.ownBlock.toList, lo ≤ z := fun z hz => (Va.lt z (by simpa using hz)).1
    have kZ : Kept v8.ownBlock.toList (w8.alloc (.cells #[.int .i64 3, .int .i64 0, .int .i64 0, .int .i64 s1, .int .i64 rk, .int .i64 rs, .int .i64 rx, .int .i64 rv] 38)) w9 := (Kept.refl _ _).grown hg (fun k e => .inl (by first | (simp [e]; done) | (simpa using e) | (simpa using e.symm) | exact (by simp; exact e)))
    have K9 := (K8.trans (Kept.of bm)).then kZ (fun z hz => .inr (by have := hown z hz; omega))
    have cB9 := (cB8.below bm (by omega)).below bp (by omega)
    have cR9 := (cR8.below bm (by omega)).below bp (by omega)
    have d9 := rd_kept da kZ (fun z hz => by have := hown z hz; omega)
    have B9 := (B8.trans (bm.mono (by omega))).trans (bp.mono (by omega))
    have q9 := bp.size
    clear K8 cB8 cR8 V8 B8 d8 bm nw hnw Va hRa da ho hg hown kZ bp
    obtain ⟨L2, hL2⟩ : ∃ x, x = L ++ [(⟨3, 0, 0, s1, ⟨rk, rs, rx, rv⟩⟩ : Stp)] := ⟨_, rfl⟩
    rw [← hL2] at V9
    have hl8 : L2.length ≤ 8 := by have := unhide hL7; rw [hL2, List.length_append]; simp; omega
    clear hL2
    obtain ⟨sa, sc, rfl, hss, hap⟩ := stepsArg V9
    clear hss hap
    have cR := cR9
    have cB := cB9
    obtain ⟨pp, hpp0, hpp1, dd⟩ : ∃ p, 0 ≤ p ∧ p ≤ 1200 ∧ Rd wA wA wA.heap.size a len' cap p w9.drew := ⟨_, by omega, by omega, rd_kept d9 (L := []) (Kept.refl [] w9).drew (by simp)⟩
    clear cR9 cB9 d9
    have hdiv : ∀ s : Int, 0 ≤ s → s < 24 → ∃ q : Int, s.tdiv 23 = q ∧ (q = 0 ∨ q = 1) := fun s t0 t1 => ⟨_, rfl, by
      by_cases e : s = 23
      · subst e; right; rfl
      · left; exact Int.tdiv_eq_zero_of_lt t0 (by omega)⟩
    have hw2 : IntKind.i64.wrap (((L2).length : Int) + 2) = ((L2).length : Int) + 2 := by rw [IntKind.wrap_i64] <;> omega
    go_upto_region 11 with fail
    refine wp_region_noPanic ?_
    refine wp_region_held_drew (S := fun w' => Kept [wA.heap.size, w.heap.size] w9 w') (by kernel_rfl) (Kept.refl _ _).drew (fun hHeld => ?_)
    replace cR := OrdL.ckept cR (L := []) (Kept.refl [] w9).drew (CsAt.lt cR (by first | (simp; done) | assumption)) (by simp)
    generalize w9.drew = y0 at *
    have z0 := hHeld.size
    refine takeL 0 (.agg #[.slice (some ⟨g, o, none⟩) bs.length c, .slice (some ⟨d, z, none⟩) dk.length dc]) rfl (by kernel_rfl) (by kernel_rfl) (by kernel_rfl) (fun _ _ _ h => h) (yieldsIf_load_mid rfl 26 _ rfl sb 0 rfl [.slice (some ⟨g, o, none⟩) bs.length c, .slice (some ⟨d, z, none⟩) dk.length dc] _ (fun _ h => (csAt_kept cB h (by omega) (by simp; omega)).cells) Tryz.underlying26 rfl (unhide HSS)) hHeld ?_
    try simp only [Act.put, List.setIfInBounds_toArray, List.set_cons_zero, List.set_cons_succ]
    refine takeL 1 (.slice sa (L2).length sc) rfl (by kernel_rfl) (by kernel_rfl) (by kernel_rfl) (fun _ _ _ h => h) (Or.inl ⟨rfl, fun _ _ => rfl⟩) hHeld ?_
    try simp only [Act.put, List.setIfInBounds_toArray, List.set_cons_zero, List.set_cons_succ]
    refine takeL 2 (.pointer (some ⟨wA.heap.size, 0, none⟩)) rfl (by kernel_rfl) (by kernel_rfl) (by kernel_rfl) (fun _ _ _ h => h) (Or.inl ⟨rfl, fun _ _ => rfl⟩) hHeld ?_
    try simp only [Act.put, List.setIfInBounds_toArray, List.set_cons_zero, List.set_cons_succ]
    refine takeL 3 (.slice sa (L2).length sc) rfl (by kernel_rfl) (by kernel_rfl) (by kernel_rfl) (fun _ _ _ h => h) (Or.inl ⟨rfl, fun _ _ => rfl⟩) hHeld ?_
    try simp only [Act.put, List.setIfInBounds_toArray, List.set_cons_zero, List.set_cons_succ]
    refine takeL 4 (.int .i64 ((L2).length : Int)) rfl (by kernel_rfl) (by kernel_rfl) (by kernel_rfl) (fun _ _ _ h => h) (Or.inl ⟨rfl, fun w9 hSw => by go_simp⟩) hHeld ?_
    try simp only [Act.put, List.setIfInBounds_toArray, List.set_cons_zero, List.set_cons_succ]
    refine takeL 5 (.int .i64 (((L2).length : Int) + 2)) rfl (by kernel_rfl) (by kernel_rfl) (by kernel_rfl) (fun _ _ _ h => h) (Or.inl ⟨rfl, fun w9 hSw => by go_simp⟩) hHeld ?_
    try simp only [Act.put, List.setIfInBounds_toArray, List.set_cons_zero, List.set_cons_succ]
    refine takeL 7 (.pointer (some ⟨wA.heap.size, 0, none⟩)) rfl (by kernel_rfl) (by kernel_rfl) (by kernel_rfl) (fun _ _ _ h => h) (Or.inl ⟨rfl, fun _ _ => rfl⟩) hHeld ?_
    try simp only [Act.put, List.setIfInBounds_toArray, List.set_cons_zero, List.set_cons_succ]
    refine takeL 12 (.pointer (some ⟨wA.heap.size, 0, none⟩)) rfl (by kernel_rfl) (by kernel_rfl) (by kernel_rfl) (fun _ _ _ h => h) (Or.inl ⟨rfl, fun _ _ => rfl⟩) hHeld ?_
    try simp only [Act.put, List.setIfInBounds_toArray, List.set_cons_zero, List.set_cons_succ]
    refine oneL 6 rfl (by kernel_rfl) rfl (fun K hK => ?_)
    go_simp
    refine (pick_k wA wA y0 wA.heap.size a len' cap pp (((L2).length : Int) + 2) hrow hl' dd (by omega) (by omega) (by omega) (by omega)).mono ?_
    rintro e y1 ⟨t, rfl, t0, t1, dd2, mm⟩
    go_wp2_with fail
    replace cR := csAt_kept cR mm (CsAt.lt cR (by simp)) (by simp; omega)
    refine hK.out _ _ (hHeld.then mm (fun z hz => .inl (by simp at hz; simp [hz]))) (fun hHeld => ?_)
    clear hK K
    try simp only [Act.put, List.setIfInBounds_toArray, List.set_cons_zero, List.set_cons_succ]
    have z1 := mm.size
    clear mm dd
    have dd := dd2
    clear dd2
    obtain ⟨pp, hpp0, hpp1, dd⟩ : ∃ p, 0 ≤ p ∧ p ≤ 1210 ∧ Rd wA wA wA.heap.size a len' cap p y1 := ⟨_, by omega, by omega, dd⟩
    refine oneL 8 rfl (by kernel_rfl) rfl (fun K hK => ?_)
    go_simp
    refine (pick_k wA wA y1 wA.heap.size a len' cap pp (24) hrow hl' dd (by omega) (by omega) (by omega) (by omega)).mono ?_
    rintro e y2 ⟨s, rfl, s0, s1, dd2, mm⟩
    go_wp2_with fail
    replace cR := csAt_kept cR mm (CsAt.lt cR (by simp)) (by simp; omega)
    refine hK.out _ _ (hHeld.then mm (fun z hz => .inl (by simp at hz; simp [hz]))) (fun hHeld => ?_)
    clear hK K
    try simp only [Act.put, List.setIfInBounds_toArray, List.set_cons_zero, List.set_cons_succ]
    have z2 := mm.size
    clear mm dd
    have dd := dd2
    clear dd2
    obtain ⟨pp, hpp0, hpp1, dd⟩ : ∃ p, 0 ≤ p ∧ p ≤ 1220 ∧ Rd wA wA wA.heap.size a len' cap p y2 := ⟨_, by omega, by omega, dd⟩
    obtain ⟨q, hq, hqq⟩ := hdiv s s0 s1
    have hq' : s / 23 = q := by rw [← hq, Int.tdiv_eq_ediv_of_nonneg s0]
    have hw0 : IntKind.i64.wrap q = q := by rw [IntKind.wrap_i64] <;> omega
    have hw3 : IntKind.i64.wrap (q * 9) = q * 9 := by rw [IntKind.wrap_i64] <;> omega
    have hw4 : IntKind.i64.wrap (t - q * 9) = t - q * 9 := by rw [IntKind.wrap_i64] <;> omega
    refine takeL 9 (.int .i64 q) rfl (by kernel_rfl) (by kernel_rfl) (by kernel_rfl) (fun _ _ _ h => h) (Or.inl ⟨rfl, fun w9 hSw => by go_simp⟩) hHeld ?_
    try simp only [Act.put, List.setIfInBounds_toArray, List.set_cons_zero, List.set_cons_succ]
    refine takeL 10 (.int .i64 (q * 9)) rfl (by kernel_rfl) (by kernel_rfl) (by kernel_rfl) (fun _ _ _ h => h) (Or.inl ⟨rfl, fun w9 hSw => by go_simp⟩) hHeld ?_
    try simp only [Act.put, List.setIfInBounds_toArray, List.set_cons_zero, List.set_cons_succ]
    refine takeL 11 (.int .i64 (t - q * 9)) rfl (by kernel_rfl) (by kernel_rfl) (by kernel_rfl) (fun _ _ _ h => h) (Or.inl ⟨rfl, fun w9 hSw => by go_simp⟩) hHeld ?_
    try simp only [Act.put, List.setIfInBounds_toArray, List.set_cons_zero, List.set_cons_succ]
    refine oneL 13 rfl (by kernel_rfl) rfl (fun K hK => ?_)
    go_simp
    refine (pick_k wA wA y2 wA.heap.size a len' cap pp (2) hrow hl' dd (by omega) (by omega) (by omega) (by omega)).mono ?_
    rintro e y3 ⟨u, rfl, u0, u1, dd2, mm⟩
    go_wp2_with fail
    replace cR := csAt_kept cR mm (CsAt.lt cR (by simp)) (by simp; omega)
    refine hK.out _ _ (hHeld.then mm (fun z hz => .inl (by simp at hz; simp [hz]))) (fun hHeld => ?_)
    clear hK K
    try simp only [Act.put, List.setIfInBounds_toArray, List.set_cons_zero, List.set_cons_succ]
    have z3 := mm.size
    clear mm dd
    have dd := dd2
    clear dd2
    obtain ⟨pp, hpp0, hpp1, dd⟩ : ∃ p, 0 ≤ p ∧ p ≤ 1230 ∧ Rd wA wA wA.heap.size a len' cap p y3 := ⟨_, by omega, by omega, dd⟩
    refine takeL 14 (.bool (u == 0)) rfl (by kernel_rfl) (by kernel_rfl) (by kernel_rfl) (fun _ _ _ h => h) (Or.inl ⟨rfl, fun w9 hSw => by go_simp⟩) hHeld ?_
    try simp only [Act.put, List.setIfInBounds_toArray, List.set_cons_zero, List.set_cons_succ]
    refine oneL 15 rfl (by kernel_rfl) rfl (fun K hK => ?_)
    have pcR := cR.put [.slice (some ⟨g, o, none⟩) bs.length c, .slice (some ⟨d, z, none⟩) dk.length dc] rfl
    have kz := OrdL.kcells y3 w.heap.size 0 [.slice (some ⟨g, o, none⟩) bs.length c, .slice (some ⟨d, z, none⟩) dk.length dc]
    refine wp_store_mid 26 _ _ rfl w.heap.size 0 [.slice (some ⟨g, o, none⟩) bs.length c, .slice (some ⟨d, z, none⟩) dk.length dc].toArray rfl rfl cR.free (unhide HSS) (by kernel_rfl) ?_
    refine hK.out _ _ (hHeld.then kz (fun y hy => by simp at hy; subst hy; first | (left; simp; done) | (right; omega))) (fun hHeld => ?_)
    clear hK K
    try simp only [Act.put, List.setIfInBounds_toArray, List.set_cons_zero, List.set_cons_succ]
    clear cR kz
    generalize y3.setCells w.heap.size 0 [.slice (some ⟨g, o, none⟩) bs.length c, .slice (some ⟨d, z, none⟩) dk.length dc] = y4 at *
    have cR := pcR
    clear pcR
    refine takeL 16 (.slice sa (L2).length sc) rfl (by kernel_rfl) (by kernel_rfl) (by kernel_rfl) (fun _ _ _ h => h) (Or.inl ⟨rfl, fun _ _ => rfl⟩) hHeld ?_
    try simp only [Act.put, List.setIfInBounds_toArray, List.set_cons_zero, List.set_cons_succ]
    refine takeL 17 (.int .i64 (t - q * 9)) rfl (by kernel_rfl) (by kernel_rfl) (by kernel_rfl) (fun _ _ _ h => h) (Or.inl ⟨rfl, fun _ _ => rfl⟩) hHeld ?_
    try simp only [Act.put, List.setIfInBounds_toArray, List.set_cons_zero, List.set_cons_succ]
    refine takeL 18 (.bool (u == 0)) rfl (by kernel_rfl) (by kernel_rfl) (by kernel_rfl) (fun _ _ _ h => h) (Or.inl ⟨rfl, fun _ _ => rfl⟩) hHeld ?_
    try simp only [Act.put, List.setIfInBounds_toArray, List.set_cons_zero, List.set_cons_succ]
    refine wpAnyH_done (by kernel_rfl) ?_ _
    refine NoPanic.normal ?_
    have KT := ((Kept.refl [wA.heap.size, w.heap.size] w3).then K9 (fun z hz => .inl (by simp at hz; simp [hz]))).trans hHeld
    have SZ := SN.mono (SN.kept S3 KT (fun x hx => by simp at hx; omega)) (show w.heap.size ≤ w1.heap.size by omega)
    have VZ := sts_ss (Sts.kept V9 hHeld (fun z hz => by simp at hz; omega))
    have BZ := B9.trans (Below.mono (Kept.below hHeld (B := w.heap.size) (by simp; omega) (by omega)) (Nat.le_refl _))
    have hcut : -9 ≤ t - q * 9 ∧ t - q * 9 ≤ 12 := by rcases hqq with rfl | rfl <;> omega
    clear hHeld KT K9 V9 B9 cB dd
    go_wp2
    refine bodyPost_ret (res_c3 Tryz.results20 _ _ w.heap.size [.slice (some ⟨g, o, none⟩) bs.length c, .slice (some ⟨d, z, none⟩) dk.length dc] _ rfl cR.cells Tryz.underlying26 rfl (by kernel_rfl)) rfl ?_
    exact ⟨g, o, c, bs, d, z, dc, dk, sa, sc, L2, t - q * 9, u == 0, rfl, SZ, VZ, hl8, hcut.1, hcut.2, BZ⟩
  have e0 : (r == 0) = false := by simpa using h0
  have e1 : (r == 1) = false := by simpa using h1
  have e2 : (r == 2) = false := by simpa using h2
  have hl8 : L.length ≤ 8 := by have := unhide hL7; omega
  obtain ⟨sa, sc, rfl, hss, hap⟩ := stepsArg V6
  clear hss hap
  have cR := cR6
  have cB := cB6
  obtain ⟨pp, hpp0, hpp1, dd⟩ : ∃ p, 0 ≤ p ∧ p ≤ 1200 ∧ Rd wA wA wA.heap.size a len' cap p w6.drew := ⟨_, by omega, by omega, rd_kept d6 (L := []) (Kept.refl [] w6).drew (by simp)⟩
  clear cR6 cB6 d6
  have hdiv : ∀ s : Int, 0 ≤ s → s < 24 → ∃ q : Int, s.tdiv 23 = q ∧ (q = 0 ∨ q = 1) := fun s t0 t1 => ⟨_, rfl, by
    by_cases e : s = 23
    · subst e; right; rfl
    · left; exact Int.tdiv_eq_zero_of_lt t0 (by omega)⟩
  have hw2 : IntKind.i64.wrap (((L).length : Int) + 2) = ((L).length : Int) + 2 := by rw [IntKind.wrap_i64] <;> omega
  go_upto_region 11 with fail
  refine wp_region_noPanic ?_
  refine wp_region_held_drew (S := fun w' => Kept [wA.heap.size, w.heap.size] w6 w') (by kernel_rfl) (Kept.refl _ _).drew (fun hHeld => ?_)
  replace cR := OrdL.ckept cR (L := []) (Kept.refl [] w6).drew (CsAt.lt cR (by first | (simp; done) | assumption)) (by simp)
  generalize w6.drew = y0 at *
  have z0 := hHeld.size
  refine takeL 0 (.agg #[.slice (some ⟨g, o, none⟩) bs.length c, .slice (some ⟨d, z, none⟩) dk.length dc]) rfl (by kernel_rfl) (by kernel_rfl) (by kernel_rfl) (fun _ _ _ h => h) (yieldsIf_load_mid rfl 26 _ rfl sb 0 rfl [.slice (some ⟨g, o, none⟩) bs.length c, .slice (some ⟨d, z, none⟩) dk.length dc] _ (fun _ h => (csAt_kept cB h (by omega) (by simp; omega)).cells) Tryz.underlying26 rfl (unhide HSS)) hHeld ?_
  try simp only [Act.put, List.setIfInBounds_toArray, List.set_cons_zero, List.set_cons_succ]
  refine takeL 1 (.slice sa (L).length sc) rfl (by kernel_rfl) (by kernel_rfl) (by kernel_rfl) (fun _ _ _ h => h) (Or.inl ⟨rfl, fun _ _ => rfl⟩) hHeld ?_
  try simp only [Act.put, List.setIfInBounds_toArray, List.set_cons_zero, List.set_cons_succ]
  refine takeL 2 (.pointer (some ⟨wA.heap.size, 0, none⟩)) rfl (by kernel_rfl) (by kernel_rfl) (by kernel_rfl) (fun _ _ _ h => h) (Or.inl ⟨rfl, fun _ _ => rfl⟩) hHeld ?_
  try simp only [Act.put, List.setIfInBounds_toArray, List.set_cons_zero, List.set_cons_succ]
  refine takeL 3 (.slice sa (L).length sc) rfl (by kernel_rfl) (by kernel_rfl) (by kernel_rfl) (fun _ _ _ h => h) (Or.inl ⟨rfl, fun _ _ => rfl⟩) hHeld ?_
  try simp only [Act.put, List.setIfInBounds_toArray, List.set_cons_zero, List.set_cons_succ]
  refine takeL 4 (.int .i64 ((L).length : Int)) rfl (by kernel_rfl) (by kernel_rfl) (by kernel_rfl) (fun _ _ _ h => h) (Or.inl ⟨rfl, fun w9 hSw => by go_simp⟩) hHeld ?_
  try simp only [Act.put, List.setIfInBounds_toArray, List.set_cons_zero, List.set_cons_succ]
  refine takeL 5 (.int .i64 (((L).length : Int) + 2)) rfl (by kernel_rfl) (by kernel_rfl) (by kernel_rfl) (fun _ _ _ h => h) (Or.inl ⟨rfl, fun w9 hSw => by go_simp⟩) hHeld ?_
  try simp only [Act.put, List.setIfInBounds_toArray, List.set_cons_zero, List.set_cons_succ]
  refine takeL 7 (.pointer (some ⟨wA.heap.size, 0, none⟩)) rfl (by kernel_rfl) (by kernel_rfl) (by kernel_rfl) (fun _ _ _ h => h) (Or.inl ⟨rfl, fun _ _ => rfl⟩) hHeld ?_
  try simp only [Act.put, List.setIfInBounds_toArray, List.set_cons_zero, List.set_cons_succ]
  refine takeL 12 (.pointer (some ⟨wA.heap.size, 0, none⟩)) rfl (by kernel_rfl) (by kernel_rfl) (by kernel_rfl) (fun _ _ _ h => h) (Or.inl ⟨rfl, fun _ _ => rfl⟩) hHeld ?_
  try simp only [Act.put, List.setIfInBounds_toArray, List.set_cons_zero, List.set_cons_succ]
  refine oneL 6 rfl (by kernel_rfl) rfl (fun K hK => ?_)
  go_simp
  refine (pick_k wA wA y0 wA.heap.size a len' cap pp (((L).length : Int) + 2) hrow hl' dd (by omega) (by omega) (by omega) (by omega)).mono ?_
  rintro e y1 ⟨t, rfl, t0, t1, dd2, mm⟩
  go_wp2_with fail
  replace cR := csAt_kept cR mm (CsAt.lt cR (by simp)) (by simp; omega)
  refine hK.out _ _ (hHeld.then mm (fun z hz => .inl (by simp at hz; simp [hz]))) (fun hHeld => ?_)
  clear hK K
  try simp only [Act.put, List.setIfInBounds_toArray, List.set_cons_zero, List.set_cons_succ]
  have z1 := mm.size
  clear mm dd
  have dd := dd2
  clear dd2
  obtain ⟨pp, hpp0, hpp1, dd⟩ : ∃ p, 0 ≤ p ∧ p ≤ 1210 ∧ Rd wA wA wA.heap.size a len' cap p y1 := ⟨_, by omega, by omega, dd⟩
  refine oneL 8 rfl (by kernel_rfl) rfl (fun K hK => ?_)
  go_simp
  refine (pick_k wA wA y1 wA.heap.size a len' cap pp (24) hrow hl' dd (by omega) (by omega) (by omega) (by omega)).mono ?_
  rintro e y2 ⟨s, rfl, s0, s1, dd2, mm⟩
  go_wp2_with fail
  replace cR := csAt_kept cR mm (CsAt.lt cR (by simp)) (by simp; omega)
  refine hK.out _ _ (hHeld.then mm (fun z hz => .inl (by simp at hz; simp [hz]))) (fun hHeld => ?_)
  clear hK K
  try simp only [Act.put, List.setIfInBounds_toArray, List.set_cons_zero, List.set_cons_succ]
  have z2 := mm.size
  clear mm dd
  have dd := dd2
  clear dd2
  obtain ⟨pp, hpp0, hpp1, dd⟩ : ∃ p, 0 ≤ p ∧ p ≤ 1220 ∧ Rd wA wA wA.heap.size a len' cap p y2 := ⟨_, by omega, by omega, dd⟩
  obtain ⟨q, hq, hqq⟩ := hdiv s s0 s1
  have hq' : s / 23 = q := by rw [← hq, Int.tdiv_eq_ediv_of_nonneg s0]
  have hw0 : IntKind.i64.wrap q = q := by rw [IntKind.wrap_i64] <;> omega
  have hw3 : IntKind.i64.wrap (q * 9) = q * 9 := by rw [IntKind.wrap_i64] <;> omega
  have hw4 : IntKind.i64.wrap (t - q * 9) = t - q * 9 := by rw [IntKind.wrap_i64] <;> omega
  refine takeL 9 (.int .i64 q) rfl (by kernel_rfl) (by kernel_rfl) (by kernel_rfl) (fun _ _ _ h => h) (Or.inl ⟨rfl, fun w9 hSw => by go_simp⟩) hHeld ?_
  try simp only [Act.put, List.setIfInBounds_toArray, List.set_cons_zero, List.set_cons_succ]
  refine takeL 10 (.int .i64 (q * 9)) rfl (by kernel_rfl) (by kernel_rfl) (by kernel_rfl) (fun _ _ _ h => h) (Or.inl ⟨rfl, fun w9 hSw => by go_simp⟩) hHeld ?_
  try simp only [Act.put, List.setIfInBounds_toArray, List.set_cons_zero, List.set_cons_succ]
  refine takeL 11 (.int .i64 (t - q * 9)) rfl (by kernel_rfl) (by kernel_rfl) (by kernel_rfl) (fun _ _ _ h => h) (Or.inl ⟨rfl, fun w9 hSw => by go_simp⟩) hHeld ?_
  try simp only [Act.put, List.setIfInBounds_toArray, List.set_cons_zero, List.set_cons_succ]
  refine oneL 13 rfl (by kernel_rfl) rfl (fun K hK => ?_)
  go_simp
  refine (pick_k wA wA y2 wA.heap.size a len' cap pp (2) hrow hl' dd (by omega) (by omega) (by omega) (by omega)).mono ?_
  rintro e y3 ⟨u, rfl, u0, u1, dd2, mm⟩
  go_wp2_with fail
  replace cR := csAt_kept cR mm (CsAt.lt cR (by simp)) (by simp; omega)
  refine hK.out _ _ (hHeld.then mm (fun z hz => .inl (by simp at hz; simp [hz]))) (fun hHeld => ?_)
  clear hK K
  try simp only [Act.put, List.setIfInBounds_toArray, List.set_cons_zero, List.set_cons_succ]
  have z3 := mm.size
  clear mm dd
  have dd := dd2
  clear dd2
  obtain ⟨pp, hpp0, hpp1, dd⟩ : ∃ p, 0 ≤ p ∧ p ≤ 1230 ∧ Rd wA wA wA.heap.size a len' cap p y3 := ⟨_, by omega, by omega, dd⟩
  refine takeL 14 (.bool (u == 0)) rfl (by kernel_rfl) (by kernel_rfl) (by kernel_rfl) (fun _ _ _ h => h) (Or.inl ⟨rfl, fun w9 hSw => by go_simp⟩) hHeld ?_
  try simp only [Act.put, List.setIfInBounds_toArray, List.set_cons_zero, List.set_cons_succ]
  refine oneL 15 rfl (by kernel_rfl) rfl (fun K hK => ?_)
  have pcR := cR.put [.slice (some ⟨g, o, none⟩) bs.length c, .slice (some ⟨d, z, none⟩) dk.length dc] rfl
  have kz := OrdL.kcells y3 w.heap.size 0 [.slice (some ⟨g, o, none⟩) bs.length c, .slice (some ⟨d, z, none⟩) dk.length dc]
  refine wp_store_mid 26 _ _ rfl w.heap.size 0 [.slice (some ⟨g, o, none⟩) bs.length c, .slice (some ⟨d, z, none⟩) dk.length dc].toArray rfl rfl cR.free (unhide HSS) (by kernel_rfl) ?_
  refine hK.out _ _ (hHeld.then kz (fun y hy => by simp at hy; subst hy; first | (left; simp; done) | (right; omega))) (fun hHeld => ?_)
  clear hK K
  try simp only [Act.put, List.setIfInBounds_toArray, List.set_cons_zero, List.set_cons_succ]
  clear cR kz
  generalize y3.setCells w.heap.size 0 [.slice (some ⟨g, o, none⟩) bs.length c, .slice (some ⟨d, z, none⟩) dk.length dc] = y4 at *
  have cR := pcR
  clear pcR
  refine takeL 16 (.slice sa (L).length sc) rfl (by kernel_rfl) (by kernel_rfl) (by kernel_rfl) (fun _ _ _ h => h) (Or.inl ⟨rfl, fun _ _ => rfl⟩) hHeld ?_
  try simp only [Act.put, List.setIfInBounds_toArray, List.set_cons_zero, List.set_cons_succ]
  refine takeL 17 (.int .i64 (t - q * 9)) rfl (by kernel_rfl) (by kernel_rfl) (by kernel_rfl) (fun _ _ _ h => h) (Or.inl ⟨rfl, fun _ _ => rfl⟩) hHeld ?_
  try simp only [Act.put, List.setIfInBounds_toArray, List.set_cons_zero, List.set_cons_succ]
  refine takeL 18 (.bool (u == 0)) rfl (by kernel_rfl) (by kernel_rfl) (by kernel_rfl) (fun _ _ _ h => h) (Or.inl ⟨rfl, fun _ _ => rfl⟩) hHeld ?_
  try simp only [Act.put, List.setIfInBounds_toArray, List.set_cons_zero, List.set_cons_succ]
  refine wpAnyH_done (by kernel_rfl) ?_ _
  refine NoPanic.normal ?_
  have KT := ((Kept.refl [wA.heap.size, w.heap.size] w3).then K6 (fun z hz => .inl (by simp at hz; simp [hz]))).trans hHeld
  have SZ := SN.mono (SN.kept S3 KT (fun x hx => by simp at hx; omega)) (show w.heap.size ≤ w1.heap.size by omega)
  have VZ := sts_ss (Sts.kept V6 hHeld (fun z hz => by simp at hz; omega))
  have BZ := B6.trans (Below.mono (Kept.below hHeld (B := w.heap.size) (by simp; omega) (by omega)) (Nat.le_refl _))
  have hcut : -9 ≤ t - q * 9 ∧ t - q * 9 ≤ 12 := by rcases hqq with rfl | rfl <;> omega
  clear hHeld KT K6 V6 B6 cB dd
  go_wp2
  refine bodyPost_ret (res_c3 Tryz.results20 _ _ w.heap.size [.slice (some ⟨g, o, none⟩) bs.length c, .slice (some ⟨d, z, none⟩) dk.length dc] _ rfl cR.cells Tryz.underlying26 rfl (by kernel_rfl)) rfl ?_
  exact ⟨g, o, c, bs, d, z, dc, dk, sa, sc, L, t - q * 9, u == 0, rfl, SZ, VZ, hl8, hcut.1, hcut.2, BZ⟩
end Go.Proofs.YtbiokmojjneleaaGreat.DrT
