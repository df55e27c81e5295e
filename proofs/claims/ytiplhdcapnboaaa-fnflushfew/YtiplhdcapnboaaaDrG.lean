/-
  A flush that is drawn: a store and an address.
-/
import Derived.Test.YtiplhdcapnboaaaFu
import Derived.Test.YtiplhdcapnboaaaSvM
import Derived.Test.YtiplhdcapnboaaaDrwD
namespace Go.Proofs.Ytiplhdcapnboaaa.DrG
open Go.ChangeShapes Go.WideShapes Go.ChangeAt Go.RowKit Go.Shelf Big Fl ImplF ImplL Kp StA RmA DoA AlA DpA NwA Pick Draw EvA ImplB ImplS ImplU SpecC SpecD SpecW ImplW PyA FlB ClA DrB StB StD StG SpS SpT StN Fu Sv
set_option linter.unusedVariables false
set_option linter.unusedSimpArgs false
attribute [local go_sem ↓] Go.wp_at_zero Go.wp_at_succ

def DgPost (w : World) (e : Ending) (w' : World) : Prop := ∃ g o c bs d z dc dk k, e = .returned (.tuple #[.agg #[.slice (some ⟨g, o, none⟩) bs.length c, .slice (some ⟨d, z, none⟩) dk.length dc], .int .i64 k]) ∧ SN w.heap.size w' g o bs d z dk ∧ 1 ≤ k ∧ k ≤ 12 ∧ Below w.heap.size w w'
theorem dy_rng (bs : List Bk) (dk : List Int) : ∀ x ∈ dyS bs dk, 1 ≤ x ∧ x ≤ 6 := fun x hx => by
  unfold dyS at hx
  split at hx
  · unfold dyK at hx
    have := (List.mem_filter.1 hx).1
    simp at this
    omega
  · simp at hx
theorem dy_le6 (bs : List Bk) (dk : List Int) : (dyS bs dk).length ≤ 6 := by
  unfold dyS
  split
  · exact dyK_len bs 6
  · simp
set_option maxRecDepth 100000 in
set_option maxHeartbeats 4000000 in
theorem drawFlush_any (w : World) (a : Option Addr) (len cap : Nat) (zs : List Int) (h : IsRow .u8 w a len cap zs) :
    Calls Try.prog 65 #[.slice a len cap] w fun e w' => DgPost w e w' := by
  have bA : Below w.heap.size w (w.alloc (.cells #[.slice none 0 0, .slice none 0 0] 54)) := (Below.refl _ _).alloc (Nat.le_refl _) _
  have cZ := CsAt.new w [.slice none 0 0, .slice none 0 0] 54
  have hsz : w.heap.size < (w.alloc (.cells #[.slice none 0 0, .slice none 0 0] 54)).heap.size := by simp
  have HO := hide (open_any _ a len cap zs (isRow_below h bA))
  have HSS := hide (show (Try.prog.info? 54).map (·.size) = some 2 by kernel_rfl)
  clear h
  go_enter Try.func65, Try.ntmps65
  go_wp2_with fail
  generalize w.alloc (.cells #[.slice none 0 0, .slice none 0 0] 54) = wA at *
  refine (unhide HO).mono ?_
  rintro e w1 ⟨rfl, len', hl', hrow, d1⟩
  have hlt := d1.lt
  clear HO
  go_wp2_with fail
  refine (full_any wA wA w1 wA.heap.size a len' cap 0 hrow hl' d1 (by omega) (by omega)).mono ?_
  rintro e w2 ⟨g, o, c, bs, d, z, dc, dk, p', rfl, S2, hp0, hp1, d2, k2⟩
  generalize hrb : wA.heap.size = rb at *
  generalize hlo : w1.heap.size = lo at *
  have cR2 := csAt_kept cZ (L := []) (Kept.of d2.bel) (by omega) (by simp)
  have sz2 := k2.size
  have bB : Below w2.heap.size w2 (w2.alloc (.cells #[.slice (some ⟨g, o, none⟩) bs.length c, .slice (some ⟨d, z, none⟩) dk.length dc] 54)) := (Below.refl _ _).alloc (Nat.le_refl _) _
  have cB := CsAt.new w2 [.slice (some ⟨g, o, none⟩) bs.length c, .slice (some ⟨d, z, none⟩) dk.length dc] 54
  have d3 := d2.alloc (.cells #[.slice (some ⟨g, o, none⟩) bs.length c, .slice (some ⟨d, z, none⟩) dk.length dc] 54)
  have S3 := S2.below bB
  have cR3 := csAt_kept cR2 (L := []) (Kept.of bB) (by omega) (by simp)
  have sz3 : (w2.alloc (.cells #[.slice (some ⟨g, o, none⟩) bs.length c, .slice (some ⟨d, z, none⟩) dk.length dc] 54)).heap.size = w2.heap.size + 1 := by simp
  have h4 := S2.fs.four
  have h6 := S2.six
  have hp4 := hide S2.fs.pgs
  have y0 := cB.cell 0 _ rfl
  have y1 := cB.cell 1 _ rfl
  clear d1 d2 k2 S2 cR2 bB
  go_wp2_with fail
  generalize hsb : w2.heap.size = sb at *
  generalize w2.alloc (.cells #[.slice (some ⟨g, o, none⟩) bs.length c, .slice (some ⟨d, z, none⟩) dk.length dc] 54) = w3 at *
  refine (sDirty (fc := c) (dc := dc) w3 S3.at h4 h6 (unhide hp4)).mono ?_
  rintro e w4 ⟨lv, rfl, hN, b⟩
  have HRG := hide (dy_rng bs dk)
  have hL6 := dy_le6 bs dk
  have S4 := S3.below b
  have cR4 := csAt_kept cR3 (L := []) (Kept.of b) (by omega) (by simp)
  have cB4 := csAt_kept cB (L := []) (Kept.of b) (by omega) (by simp)
  have d4 := rd_kept d3 (L := []) (Kept.of b) (by simp)
  have s4 : sb + 1 ≤ w4.heap.size := by have := b.size; omega
  clear S3 cR3 cB d3 y0 y1 b
  have cB := cB4
  have y0 := cB.cell 0 _ rfl
  have y1 := cB.cell 1 _ rfl
  clear cB4
  generalize dyS bs dk = L at *
  rcases hN with ⟨rfl, la, lc, rfl⟩ | ⟨lg, lc, rfl, l0, l1, cL⟩
  · go_upto_region 6 with fail
    refine wp_region_noPanic ?_
    refine wp_region_held_drew (S := fun w' => Kept [rb, w.heap.size] w4 w') (by kernel_rfl) ((Kept.refl _ _).drew) (fun hHeld => ?_)
    refine takeL 0 (.agg #[.slice (some ⟨g, o, none⟩) bs.length c, .slice (some ⟨d, z, none⟩) dk.length dc]) rfl (by kernel_rfl) (by kernel_rfl) (by kernel_rfl) (fun _ _ _ h => h) (yieldsIf_load_mid rfl 54 _ rfl sb 0 rfl [.slice (some ⟨g, o, none⟩) bs.length c, .slice (some ⟨d, z, none⟩) dk.length dc] _ (fun _ h => (csAt_kept cB h (by omega) (by simp; omega)).cells) Try.underlying54 rfl (unhide HSS)) hHeld ?_
    try simp only [Act.put, List.setIfInBounds_toArray, List.set_cons_zero, List.set_cons_succ]
    refine takeL 1 (.pointer (some ⟨rb, 0, none⟩)) rfl (by kernel_rfl) (by kernel_rfl) (by kernel_rfl) (fun _ _ _ h => h) (Or.inl ⟨rfl, fun _ _ => rfl⟩) hHeld ?_
    try simp only [Act.put, List.setIfInBounds_toArray, List.set_cons_zero, List.set_cons_succ]
    refine takeL 4 (.pointer (some ⟨rb, 0, none⟩)) rfl (by kernel_rfl) (by kernel_rfl) (by kernel_rfl) (fun _ _ _ h => h) (Or.inl ⟨rfl, fun _ _ => rfl⟩) hHeld ?_
    try simp only [Act.put, List.setIfInBounds_toArray, List.set_cons_zero, List.set_cons_succ]
    have S5 := S4.kept (L := []) (Kept.refl [] w4).drew (by simp)
    have cR5 := csAt_kept cR4 (L := []) (Kept.refl [] w4).drew (by omega) (by simp)
    have d5 := d4.drew
    have s5 : sb + 1 ≤ w4.drew.heap.size := s4
    generalize w4.drew = w5 at *
    refine oneL 2 rfl (by kernel_rfl) rfl (fun K hK => ?_)
    go_simp
    refine (pick_k wA wA _ rb a len' cap (p') 6 hrow hl' d5 (by omega) (by omega) (by omega) (by omega)).mono ?_
    rintro e w6 ⟨r, rfl, r0, r1, d6, m⟩
    go_wp2_with fail
    refine hK.out _ _ (hHeld.trans (m.sub (fun x hx => by simp at hx; simp [hx]))) (fun hHeld => ?_)
    clear hK K
    try simp only [Act.put, List.setIfInBounds_toArray, List.set_cons_zero, List.set_cons_succ]
    have S6 := S5.kept m (fun x hx => by simp at hx; omega)
    have cR6 := csAt_kept cR5 m (by omega) (by simp; omega)
    have s6 := Nat.le_trans s5 m.size
    clear m
    refine takeL 3 (.int .i64 (1 + r)) rfl (by kernel_rfl) (by kernel_rfl) (by kernel_rfl) (fun _ _ _ h => h) (Or.inl ⟨rfl, fun w9 hSw => by have hw := (show IntKind.i64.wrap (1 + r) = 1 + r from (by rw [IntKind.wrap_i64] <;> omega)); go_simp⟩) hHeld ?_
    try simp only [Act.put, List.setIfInBounds_toArray, List.set_cons_zero, List.set_cons_succ]
    refine oneL 5 rfl (by kernel_rfl) rfl (fun K hK => ?_)
    go_simp
    refine (pick_k wA wA _ rb a len' cap (p' + 1) 24 hrow hl' d6 (by omega) (by omega) (by omega) (by omega)).mono ?_
    rintro e w7 ⟨s, rfl, s0, s1, d7, m⟩
    go_wp2_with fail
    refine hK.out _ _ (hHeld.trans (m.sub (fun x hx => by simp at hx; simp [hx]))) (fun hHeld => ?_)
    clear hK K
    try simp only [Act.put, List.setIfInBounds_toArray, List.set_cons_zero, List.set_cons_succ]
    have S7 := S6.kept m (fun x hx => by simp at hx; omega)
    have cR7 := csAt_kept cR6 m (by omega) (by simp; omega)
    have s7 := Nat.le_trans s6 m.size
    clear m
    obtain ⟨q, hq, hqq⟩ : ∃ q : Int, s.tdiv 23 = q ∧ (q = 0 ∨ q = 1) := ⟨_, rfl, by
      by_cases e : s = 23
      · subst e; right; rfl
      · left; exact Int.tdiv_eq_zero_of_lt s0 (by omega)⟩
    have hq' : s / 23 = q := by rw [← hq, Int.tdiv_eq_ediv_of_nonneg s0]
    have hw0 : IntKind.i64.wrap q = q := by rw [IntKind.wrap_i64] <;> omega
    have hw1 : IntKind.i64.wrap (q * 6) = q * 6 := by rw [IntKind.wrap_i64] <;> omega
    have hw2 : IntKind.i64.wrap (1 + r + q * 6) = 1 + r + q * 6 := by rw [IntKind.wrap_i64] <;> omega
    refine takeL 6 (.int .i64 q) rfl (by kernel_rfl) (by kernel_rfl) (by kernel_rfl) (fun _ _ _ h => h) (Or.inl ⟨rfl, fun w9 hSw => by go_simp⟩) hHeld ?_
    try simp only [Act.put, List.setIfInBounds_toArray, List.set_cons_zero, List.set_cons_succ]
    refine takeL 7 (.int .i64 (q * 6)) rfl (by kernel_rfl) (by kernel_rfl) (by kernel_rfl) (fun _ _ _ h => h) (Or.inl ⟨rfl, fun w9 hSw => by go_simp⟩) hHeld ?_
    try simp only [Act.put, List.setIfInBounds_toArray, List.set_cons_zero, List.set_cons_succ]
    refine takeL 8 (.int .i64 (1 + r + q * 6)) rfl (by kernel_rfl) (by kernel_rfl) (by kernel_rfl) (fun _ _ _ h => h) (Or.inl ⟨rfl, fun w9 hSw => by go_simp⟩) hHeld ?_
    try simp only [Act.put, List.setIfInBounds_toArray, List.set_cons_zero, List.set_cons_succ]
    have pt := cR7.put [.slice (some ⟨g, o, none⟩) bs.length c, .slice (some ⟨d, z, none⟩) dk.length dc] rfl
    have kz := kept_cells w7 w.heap.size 0 [.slice (some ⟨g, o, none⟩) bs.length c, .slice (some ⟨d, z, none⟩) dk.length dc]
    refine oneL 9 rfl (by kernel_rfl) rfl (fun K hK => ?_)
    refine wp_store_mid 54 _ _ rfl w.heap.size 0 [.slice (some ⟨g, o, none⟩) bs.length c, .slice (some ⟨d, z, none⟩) dk.length dc].toArray rfl rfl cR7.free (unhide HSS) (by kernel_rfl) ?_
    refine hK.out _ _ (hHeld.trans (kz.sub (fun x hx => by simp at hx; simp [hx]))) (fun hHeld => ?_)
    clear hK K
    try simp only [Act.put, List.setIfInBounds_toArray, List.set_cons_zero, List.set_cons_succ]
    refine takeL 10 (.int .i64 (1 + r + q * 6)) rfl (by kernel_rfl) (by kernel_rfl) (by kernel_rfl) (fun _ _ _ h => h) (Or.inl ⟨rfl, fun _ _ => rfl⟩) hHeld ?_
    try simp only [Act.put, List.setIfInBounds_toArray, List.set_cons_zero, List.set_cons_succ]
    refine wpAnyH_done (by kernel_rfl) ?_ _
    refine NoPanic.normal ?_
    have b9 := d7.bel
    have B9 := bA.trans (b9.mono bA.size)
    have SZ := SN.mono (S7.kept kz (fun x hx => by simp at hx; omega)) (show w.heap.size ≤ lo by omega)
    have BZ := ((Kept.of (L := []) B9).setCells (b := w.heap.size) (.inr (Nat.le_refl _)) 0 [.slice (some ⟨g, o, none⟩) bs.length c, .slice (some ⟨d, z, none⟩) dk.length dc]).all (by simp)
    clear hHeld
    go_wp2
    refine bodyPost_ret (res_cell_tmp Try.results65 _ _ w.heap.size [.slice (some ⟨g, o, none⟩) bs.length c, .slice (some ⟨d, z, none⟩) dk.length dc] _ rfl pt.cells Try.underlying54 rfl (by kernel_rfl)) rfl ?_
    exact ⟨g, o, c, bs, d, z, dc, dk, 1 + r + q * 6, rfl, SZ, by omega, by omega, BZ⟩
  by_cases hL0 : L.length = 0
  · have hLi : (L.length : Int) = 0 := by omega
    have hLb : ¬ (0 : Int) < (L.length : Int) := by omega
    go_upto_region 6 with fail
    refine wp_region_noPanic ?_
    refine wp_region_held_drew (S := fun w' => Kept [rb, w.heap.size] w4 w') (by kernel_rfl) ((Kept.refl _ _).drew) (fun hHeld => ?_)
    refine takeL 0 (.agg #[.slice (some ⟨g, o, none⟩) bs.length c, .slice (some ⟨d, z, none⟩) dk.length dc]) rfl (by kernel_rfl) (by kernel_rfl) (by kernel_rfl) (fun _ _ _ h => h) (yieldsIf_load_mid rfl 54 _ rfl sb 0 rfl [.slice (some ⟨g, o, none⟩) bs.length c, .slice (some ⟨d, z, none⟩) dk.length dc] _ (fun _ h => (csAt_kept cB h (by omega) (by simp; omega)).cells) Try.underlying54 rfl (unhide HSS)) hHeld ?_
    try simp only [Act.put, List.setIfInBounds_toArray, List.set_cons_zero, List.set_cons_succ]
    refine takeL 1 (.pointer (some ⟨rb, 0, none⟩)) rfl (by kernel_rfl) (by kernel_rfl) (by kernel_rfl) (fun _ _ _ h => h) (Or.inl ⟨rfl, fun _ _ => rfl⟩) hHeld ?_
    try simp only [Act.put, List.setIfInBounds_toArray, List.set_cons_zero, List.set_cons_succ]
    refine takeL 4 (.pointer (some ⟨rb, 0, none⟩)) rfl (by kernel_rfl) (by kernel_rfl) (by kernel_rfl) (fun _ _ _ h => h) (Or.inl ⟨rfl, fun _ _ => rfl⟩) hHeld ?_
    try simp only [Act.put, List.setIfInBounds_toArray, List.set_cons_zero, List.set_cons_succ]
    have S5 := S4.kept (L := []) (Kept.refl [] w4).drew (by simp)
    have cR5 := csAt_kept cR4 (L := []) (Kept.refl [] w4).drew (by omega) (by simp)
    have d5 := d4.drew
    have s5 : sb + 1 ≤ w4.drew.heap.size := s4
    generalize w4.drew = w5 at *
    refine oneL 2 rfl (by kernel_rfl) rfl (fun K hK => ?_)
    go_simp
    refine (pick_k wA wA _ rb a len' cap (p') 6 hrow hl' d5 (by omega) (by omega) (by omega) (by omega)).mono ?_
    rintro e w6 ⟨r, rfl, r0, r1, d6, m⟩
    go_wp2_with fail
    refine hK.out _ _ (hHeld.trans (m.sub (fun x hx => by simp at hx; simp [hx]))) (fun hHeld => ?_)
    clear hK K
    try simp only [Act.put, List.setIfInBounds_toArray, List.set_cons_zero, List.set_cons_succ]
    have S6 := S5.kept m (fun x hx => by simp at hx; omega)
    have cR6 := csAt_kept cR5 m (by omega) (by simp; omega)
    have s6 := Nat.le_trans s5 m.size
    clear m
    refine takeL 3 (.int .i64 (1 + r)) rfl (by kernel_rfl) (by kernel_rfl) (by kernel_rfl) (fun _ _ _ h => h) (Or.inl ⟨rfl, fun w9 hSw => by have hw := (show IntKind.i64.wrap (1 + r) = 1 + r from (by rw [IntKind.wrap_i64] <;> omega)); go_simp⟩) hHeld ?_
    try simp only [Act.put, List.setIfInBounds_toArray, List.set_cons_zero, List.set_cons_succ]
    refine oneL 5 rfl (by kernel_rfl) rfl (fun K hK => ?_)
    go_simp
    refine (pick_k wA wA _ rb a len' cap (p' + 1) 24 hrow hl' d6 (by omega) (by omega) (by omega) (by omega)).mono ?_
    rintro e w7 ⟨s, rfl, s0, s1, d7, m⟩
    go_wp2_with fail
    refine hK.out _ _ (hHeld.trans (m.sub (fun x hx => by simp at hx; simp [hx]))) (fun hHeld => ?_)
    clear hK K
    try simp only [Act.put, List.setIfInBounds_toArray, List.set_cons_zero, List.set_cons_succ]
    have S7 := S6.kept m (fun x hx => by simp at hx; omega)
    have cR7 := csAt_kept cR6 m (by omega) (by simp; omega)
    have s7 := Nat.le_trans s6 m.size
    clear m
    obtain ⟨q, hq, hqq⟩ : ∃ q : Int, s.tdiv 23 = q ∧ (q = 0 ∨ q = 1) := ⟨_, rfl, by
      by_cases e : s = 23
      · subst e; right; rfl
      · left; exact Int.tdiv_eq_zero_of_lt s0 (by omega)⟩
    have hq' : s / 23 = q := by rw [← hq, Int.tdiv_eq_ediv_of_nonneg s0]
    have hw0 : IntKind.i64.wrap q = q := by rw [IntKind.wrap_i64] <;> omega
    have hw1 : IntKind.i64.wrap (q * 6) = q * 6 := by rw [IntKind.wrap_i64] <;> omega
    have hw2 : IntKind.i64.wrap (1 + r + q * 6) = 1 + r + q * 6 := by rw [IntKind.wrap_i64] <;> omega
    refine takeL 6 (.int .i64 q) rfl (by kernel_rfl) (by kernel_rfl) (by kernel_rfl) (fun _ _ _ h => h) (Or.inl ⟨rfl, fun w9 hSw => by go_simp⟩) hHeld ?_
    try simp only [Act.put, List.setIfInBounds_toArray, List.set_cons_zero, List.set_cons_succ]
    refine takeL 7 (.int .i64 (q * 6)) rfl (by kernel_rfl) (by kernel_rfl) (by kernel_rfl) (fun _ _ _ h => h) (Or.inl ⟨rfl, fun w9 hSw => by go_simp⟩) hHeld ?_
    try simp only [Act.put, List.setIfInBounds_toArray, List.set_cons_zero, List.set_cons_succ]
    refine takeL 8 (.int .i64 (1 + r + q * 6)) rfl (by kernel_rfl) (by kernel_rfl) (by kernel_rfl) (fun _ _ _ h => h) (Or.inl ⟨rfl, fun w9 hSw => by go_simp⟩) hHeld ?_
    try simp only [Act.put, List.setIfInBounds_toArray, List.set_cons_zero, List.set_cons_succ]
    have pt := cR7.put [.slice (some ⟨g, o, none⟩) bs.length c, .slice (some ⟨d, z, none⟩) dk.length dc] rfl
    have kz := kept_cells w7 w.heap.size 0 [.slice (some ⟨g, o, none⟩) bs.length c, .slice (some ⟨d, z, none⟩) dk.length dc]
    refine oneL 9 rfl (by kernel_rfl) rfl (fun K hK => ?_)
    refine wp_store_mid 54 _ _ rfl w.heap.size 0 [.slice (some ⟨g, o, none⟩) bs.length c, .slice (some ⟨d, z, none⟩) dk.length dc].toArray rfl rfl cR7.free (unhide HSS) (by kernel_rfl) ?_
    refine hK.out _ _ (hHeld.trans (kz.sub (fun x hx => by simp at hx; simp [hx]))) (fun hHeld => ?_)
    clear hK K
    try simp only [Act.put, List.setIfInBounds_toArray, List.set_cons_zero, List.set_cons_succ]
    refine takeL 10 (.int .i64 (1 + r + q * 6)) rfl (by kernel_rfl) (by kernel_rfl) (by kernel_rfl) (fun _ _ _ h => h) (Or.inl ⟨rfl, fun _ _ => rfl⟩) hHeld ?_
    try simp only [Act.put, List.setIfInBounds_toArray, List.set_cons_zero, List.set_cons_succ]
    refine wpAnyH_done (by kernel_rfl) ?_ _
    refine NoPanic.normal ?_
    have b9 := d7.bel
    have B9 := bA.trans (b9.mono bA.size)
    have SZ := SN.mono (S7.kept kz (fun x hx => by simp at hx; omega)) (show w.heap.size ≤ lo by omega)
    have BZ := ((Kept.of (L := []) B9).setCells (b := w.heap.size) (.inr (Nat.le_refl _)) 0 [.slice (some ⟨g, o, none⟩) bs.length c, .slice (some ⟨d, z, none⟩) dk.length dc]).all (by simp)
    clear hHeld
    go_wp2
    refine bodyPost_ret (res_cell_tmp Try.results65 _ _ w.heap.size [.slice (some ⟨g, o, none⟩) bs.length c, .slice (some ⟨d, z, none⟩) dk.length dc] _ rfl pt.cells Try.underlying54 rfl (by kernel_rfl)) rfl ?_
    exact ⟨g, o, c, bs, d, z, dc, dk, 1 + r + q * 6, rfl, SZ, by omega, by omega, BZ⟩
  have hLb : (0 : Int) < (L.length : Int) := by omega
  go_wp2_with fail
  refine (pick_k wA wA w4 rb a len' cap p' 6 hrow hl' d4 (by omega) (by omega) (by omega) (by omega)).mono ?_
  rintro e w5 ⟨t, rfl, t0, t1, d5, m⟩
  have S5 := S4.kept m (fun x hx => by simp at hx; omega)
  have cR5 := csAt_kept cR4 m (by omega) (by simp; omega)
  have cB5 := csAt_kept cB m (by omega) (by simp; omega)
  have cL5 := csAt_kept cL m (by omega) (by simp; omega)
  have s5 := Nat.le_trans s4 m.size
  have hlg := Nat.lt_of_lt_of_le l1 m.size
  clear S4 cR4 cB d4 cL y0 y1 m
  have cB := cB5
  have cL := cL5
  have y0 := cB.cell 0 _ rfl
  have y1 := cB.cell 1 _ rfl
  clear cB5 cL5
  by_cases ht : t = 0
  · subst ht
    go_upto_region 6 with fail
    refine wp_region_noPanic ?_
    refine wp_region_held_drew (S := fun w' => Kept [rb, w.heap.size] w5 w') (by kernel_rfl) ((Kept.refl _ _).drew) (fun hHeld => ?_)
    refine takeL 0 (.agg #[.slice (some ⟨g, o, none⟩) bs.length c, .slice (some ⟨d, z, none⟩) dk.length dc]) rfl (by kernel_rfl) (by kernel_rfl) (by kernel_rfl) (fun _ _ _ h => h) (yieldsIf_load_mid rfl 54 _ rfl sb 0 rfl [.slice (some ⟨g, o, none⟩) bs.length c, .slice (some ⟨d, z, none⟩) dk.length dc] _ (fun _ h => (csAt_kept cB h (by omega) (by simp; omega)).cells) Try.underlying54 rfl (unhide HSS)) hHeld ?_
    try simp only [Act.put, List.setIfInBounds_toArray, List.set_cons_zero, List.set_cons_succ]
    refine takeL 1 (.pointer (some ⟨rb, 0, none⟩)) rfl (by kernel_rfl) (by kernel_rfl) (by kernel_rfl) (fun _ _ _ h => h) (Or.inl ⟨rfl, fun _ _ => rfl⟩) hHeld ?_
    try simp only [Act.put, List.setIfInBounds_toArray, List.set_cons_zero, List.set_cons_succ]
    refine takeL 4 (.pointer (some ⟨rb, 0, none⟩)) rfl (by kernel_rfl) (by kernel_rfl) (by kernel_rfl) (fun _ _ _ h => h) (Or.inl ⟨rfl, fun _ _ => rfl⟩) hHeld ?_
    try simp only [Act.put, List.setIfInBounds_toArray, List.set_cons_zero, List.set_cons_succ]
    have S6 := S5.kept (L := []) (Kept.refl [] w5).drew (by simp)
    have cR6 := csAt_kept cR5 (L := []) (Kept.refl [] w5).drew (by omega) (by simp)
    have d6 := d5.drew
    have s6 : sb + 1 ≤ w5.drew.heap.size := s5
    generalize w5.drew = w6 at *
    refine oneL 2 rfl (by kernel_rfl) rfl (fun K hK => ?_)
    go_simp
    refine (pick_k wA wA _ rb a len' cap (p' + 1) 6 hrow hl' d6 (by omega) (by omega) (by omega) (by omega)).mono ?_
    rintro e w7 ⟨r, rfl, r0, r1, d7, m⟩
    go_wp2_with fail
    refine hK.out _ _ (hHeld.trans (m.sub (fun x hx => by simp at hx; simp [hx]))) (fun hHeld => ?_)
    clear hK K
    try simp only [Act.put, List.setIfInBounds_toArray, List.set_cons_zero, List.set_cons_succ]
    have S7 := S6.kept m (fun x hx => by simp at hx; omega)
    have cR7 := csAt_kept cR6 m (by omega) (by simp; omega)
    have s7 := Nat.le_trans s6 m.size
    clear m
    refine takeL 3 (.int .i64 (1 + r)) rfl (by kernel_rfl) (by kernel_rfl) (by kernel_rfl) (fun _ _ _ h => h) (Or.inl ⟨rfl, fun w9 hSw => by have hw := (show IntKind.i64.wrap (1 + r) = 1 + r from (by rw [IntKind.wrap_i64] <;> omega)); go_simp⟩) hHeld ?_
    try simp only [Act.put, List.setIfInBounds_toArray, List.set_cons_zero, List.set_cons_succ]
    refine oneL 5 rfl (by kernel_rfl) rfl (fun K hK => ?_)
    go_simp
    refine (pick_k wA wA _ rb a len' cap (p' + 1 + 1) 24 hrow hl' d7 (by omega) (by omega) (by omega) (by omega)).mono ?_
    rintro e w8 ⟨s, rfl, s0, s1, d8, m⟩
    go_wp2_with fail
    refine hK.out _ _ (hHeld.trans (m.sub (fun x hx => by simp at hx; simp [hx]))) (fun hHeld => ?_)
    clear hK K
    try simp only [Act.put, List.setIfInBounds_toArray, List.set_cons_zero, List.set_cons_succ]
    have S8 := S7.kept m (fun x hx => by simp at hx; omega)
    have cR8 := csAt_kept cR7 m (by omega) (by simp; omega)
    have s8 := Nat.le_trans s7 m.size
    clear m
    obtain ⟨q, hq, hqq⟩ : ∃ q : Int, s.tdiv 23 = q ∧ (q = 0 ∨ q = 1) := ⟨_, rfl, by
      by_cases e : s = 23
      · subst e; right; rfl
      · left; exact Int.tdiv_eq_zero_of_lt s0 (by omega)⟩
    have hq' : s / 23 = q := by rw [← hq, Int.tdiv_eq_ediv_of_nonneg s0]
    have hw0 : IntKind.i64.wrap q = q := by rw [IntKind.wrap_i64] <;> omega
    have hw1 : IntKind.i64.wrap (q * 6) = q * 6 := by rw [IntKind.wrap_i64] <;> omega
    have hw2 : IntKind.i64.wrap (1 + r + q * 6) = 1 + r + q * 6 := by rw [IntKind.wrap_i64] <;> omega
    refine takeL 6 (.int .i64 q) rfl (by kernel_rfl) (by kernel_rfl) (by kernel_rfl) (fun _ _ _ h => h) (Or.inl ⟨rfl, fun w9 hSw => by go_simp⟩) hHeld ?_
    try simp only [Act.put, List.setIfInBounds_toArray, List.set_cons_zero, List.set_cons_succ]
    refine takeL 7 (.int .i64 (q * 6)) rfl (by kernel_rfl) (by kernel_rfl) (by kernel_rfl) (fun _ _ _ h => h) (Or.inl ⟨rfl, fun w9 hSw => by go_simp⟩) hHeld ?_
    try simp only [Act.put, List.setIfInBounds_toArray, List.set_cons_zero, List.set_cons_succ]
    refine takeL 8 (.int .i64 (1 + r + q * 6)) rfl (by kernel_rfl) (by kernel_rfl) (by kernel_rfl) (fun _ _ _ h => h) (Or.inl ⟨rfl, fun w9 hSw => by go_simp⟩) hHeld ?_
    try simp only [Act.put, List.setIfInBounds_toArray, List.set_cons_zero, List.set_cons_succ]
    have pt := cR8.put [.slice (some ⟨g, o, none⟩) bs.length c, .slice (some ⟨d, z, none⟩) dk.length dc] rfl
    have kz := kept_cells w8 w.heap.size 0 [.slice (some ⟨g, o, none⟩) bs.length c, .slice (some ⟨d, z, none⟩) dk.length dc]
    refine oneL 9 rfl (by kernel_rfl) rfl (fun K hK => ?_)
    refine wp_store_mid 54 _ _ rfl w.heap.size 0 [.slice (some ⟨g, o, none⟩) bs.length c, .slice (some ⟨d, z, none⟩) dk.length dc].toArray rfl rfl cR8.free (unhide HSS) (by kernel_rfl) ?_
    refine hK.out _ _ (hHeld.trans (kz.sub (fun x hx => by simp at hx; simp [hx]))) (fun hHeld => ?_)
    clear hK K
    try simp only [Act.put, List.setIfInBounds_toArray, List.set_cons_zero, List.set_cons_succ]
    refine takeL 10 (.int .i64 (1 + r + q * 6)) rfl (by kernel_rfl) (by kernel_rfl) (by kernel_rfl) (fun _ _ _ h => h) (Or.inl ⟨rfl, fun _ _ => rfl⟩) hHeld ?_
    try simp only [Act.put, List.setIfInBounds_toArray, List.set_cons_zero, List.set_cons_succ]
    refine wpAnyH_done (by kernel_rfl) ?_ _
    refine NoPanic.normal ?_
    have b9 := d8.bel
    have B9 := bA.trans (b9.mono bA.size)
    have SZ := SN.mono (S8.kept kz (fun x hx => by simp at hx; omega)) (show w.heap.size ≤ lo by omega)
    have BZ := ((Kept.of (L := []) B9).setCells (b := w.heap.size) (.inr (Nat.le_refl _)) 0 [.slice (some ⟨g, o, none⟩) bs.length c, .slice (some ⟨d, z, none⟩) dk.length dc]).all (by simp)
    clear hHeld
    go_wp2
    refine bodyPost_ret (res_cell_tmp Try.results65 _ _ w.heap.size [.slice (some ⟨g, o, none⟩) bs.length c, .slice (some ⟨d, z, none⟩) dk.length dc] _ rfl pt.cells Try.underlying54 rfl (by kernel_rfl)) rfl ?_
    exact ⟨g, o, c, bs, d, z, dc, dk, 1 + r + q * 6, rfl, SZ, by omega, by omega, BZ⟩
  have htp : 0 < t := by omega
  go_upto_region 5 with fail
  refine wp_region_noPanic ?_
  refine wp_region_held_drew (S := fun w' => Kept [rb, w.heap.size] w5 w') (by kernel_rfl) ((Kept.refl _ _).drew) (fun hHeld => ?_)
  refine takeL 0 (.agg #[.slice (some ⟨g, o, none⟩) bs.length c, .slice (some ⟨d, z, none⟩) dk.length dc]) rfl (by kernel_rfl) (by kernel_rfl) (by kernel_rfl) (fun _ _ _ h => h) (yieldsIf_load_mid rfl 54 _ rfl sb 0 rfl [.slice (some ⟨g, o, none⟩) bs.length c, .slice (some ⟨d, z, none⟩) dk.length dc] _ (fun _ h => (csAt_kept cB h (by omega) (by simp; omega)).cells) Try.underlying54 rfl (unhide HSS)) hHeld ?_
  try simp only [Act.put, List.setIfInBounds_toArray, List.set_cons_zero, List.set_cons_succ]
  refine takeL 1 (.slice (some ⟨lg, 0, none⟩) L.length lc) rfl (by kernel_rfl) (by kernel_rfl) (by kernel_rfl) (fun _ _ _ h => h) (Or.inl ⟨rfl, fun _ _ => rfl⟩) hHeld ?_
  try simp only [Act.put, List.setIfInBounds_toArray, List.set_cons_zero, List.set_cons_succ]
  refine takeL 2 (.pointer (some ⟨rb, 0, none⟩)) rfl (by kernel_rfl) (by kernel_rfl) (by kernel_rfl) (fun _ _ _ h => h) (Or.inl ⟨rfl, fun _ _ => rfl⟩) hHeld ?_
  try simp only [Act.put, List.setIfInBounds_toArray, List.set_cons_zero, List.set_cons_succ]
  refine takeL 3 (.slice (some ⟨lg, 0, none⟩) L.length lc) rfl (by kernel_rfl) (by kernel_rfl) (by kernel_rfl) (fun _ _ _ h => h) (Or.inl ⟨rfl, fun _ _ => rfl⟩) hHeld ?_
  try simp only [Act.put, List.setIfInBounds_toArray, List.set_cons_zero, List.set_cons_succ]
  refine takeL 4 (.int .i64 (L.length : Nat)) rfl (by kernel_rfl) (by kernel_rfl) (by kernel_rfl) (fun _ _ _ h => h) (Or.inl ⟨rfl, fun w9 hSw => by go_simp⟩) hHeld ?_
  try simp only [Act.put, List.setIfInBounds_toArray, List.set_cons_zero, List.set_cons_succ]
  have S6 := S5.kept (L := []) (Kept.refl [] w5).drew (by simp)
  have cR6 := csAt_kept cR5 (L := []) (Kept.refl [] w5).drew (by omega) (by simp)
  have d6 := d5.drew
  have s6 : sb + 1 ≤ w5.drew.heap.size := s5
  generalize w5.drew = w6 at *
  refine oneL 5 rfl (by kernel_rfl) rfl (fun K hK => ?_)
  go_simp
  refine (pick_k wA wA _ rb a len' cap (p' + 1) (L.length : Int) hrow hl' d6 (by omega) (by omega) (by omega) (by omega)).mono ?_
  rintro e w7 ⟨r, rfl, r0, r1, d7, m⟩
  go_wp2_with fail
  refine hK.out _ _ (hHeld.trans (m.sub (fun x hx => by simp at hx; simp [hx]))) (fun hHeld => ?_)
  clear hK K
  try simp only [Act.put, List.setIfInBounds_toArray, List.set_cons_zero, List.set_cons_succ]
  have S7 := S6.kept m (fun x hx => by simp at hx; omega)
  have cR7 := csAt_kept cR6 m (by omega) (by simp; omega)
  have s7 := Nat.le_trans s6 m.size
  clear m
  obtain ⟨q, rfl⟩ := Int.eq_ofNat_of_zero_le r0
  have hqL : q < L.length := by omega
  have hlq := isC_at cL.cells q hqL
  rw [Nat.zero_add] at hlq
  have hrng := unhide HRG _ (List.getElem_mem hqL)
  rw [List.getD_eq_getElem?_getD, List.getElem?_eq_getElem hqL] at hlq
  replace hlq : w5.cell? ⟨lg, q, none⟩ = some (.int .i64 L[q]) := hlq
  generalize L[q] = x at *
  refine takeL 6 (.pointer (some ⟨lg, q, none⟩)) rfl (by kernel_rfl) (by kernel_rfl) (by kernel_rfl) (fun _ _ _ h => h) (Or.inl ⟨rfl, fun w9 hSw => by go_simp⟩) hHeld ?_
  try simp only [Act.put, List.setIfInBounds_toArray, List.set_cons_zero, List.set_cons_succ]
  refine takeL 7 (.int .i64 x) rfl (by kernel_rfl) (by kernel_rfl) (by kernel_rfl) (fun _ _ _ h => h) (Or.inl ⟨rfl, fun w9 hSw => by have hc := (hSw.cell (b := lg) q (by omega) (by simp; omega)).trans hlq; go_simp⟩) hHeld ?_
  try simp only [Act.put, List.setIfInBounds_toArray, List.set_cons_zero, List.set_cons_succ]
  have pt := cR7.put [.slice (some ⟨g, o, none⟩) bs.length c, .slice (some ⟨d, z, none⟩) dk.length dc] rfl
  have kz := kept_cells w7 w.heap.size 0 [.slice (some ⟨g, o, none⟩) bs.length c, .slice (some ⟨d, z, none⟩) dk.length dc]
  refine oneL 8 rfl (by kernel_rfl) rfl (fun K hK => ?_)
  refine wp_store_mid 54 _ _ rfl w.heap.size 0 [.slice (some ⟨g, o, none⟩) bs.length c, .slice (some ⟨d, z, none⟩) dk.length dc].toArray rfl rfl cR7.free (unhide HSS) (by kernel_rfl) ?_
  refine hK.out _ _ (hHeld.trans (kz.sub (fun x hx => by simp at hx; simp [hx]))) (fun hHeld => ?_)
  clear hK K
  try simp only [Act.put, List.setIfInBounds_toArray, List.set_cons_zero, List.set_cons_succ]
  refine takeL 9 (.int .i64 x) rfl (by kernel_rfl) (by kernel_rfl) (by kernel_rfl) (fun _ _ _ h => h) (Or.inl ⟨rfl, fun _ _ => rfl⟩) hHeld ?_
  try simp only [Act.put, List.setIfInBounds_toArray, List.set_cons_zero, List.set_cons_succ]
  refine wpAnyH_done (by kernel_rfl) ?_ _
  refine NoPanic.normal ?_
  have b9 := d7.bel
  have B9 := bA.trans (b9.mono bA.size)
  have SZ := SN.mono (S7.kept kz (fun x hx => by simp at hx; omega)) (show w.heap.size ≤ lo by omega)
  have BZ := ((Kept.of (L := []) B9).setCells (b := w.heap.size) (.inr (Nat.le_refl _)) 0 [.slice (some ⟨g, o, none⟩) bs.length c, .slice (some ⟨d, z, none⟩) dk.length dc]).all (by simp)
  clear hHeld
  go_wp2
  refine bodyPost_ret (res_cell_tmp Try.results65 _ _ w.heap.size [.slice (some ⟨g, o, none⟩) bs.length c, .slice (some ⟨d, z, none⟩) dk.length dc] _ rfl pt.cells Try.underlying54 rfl (by kernel_rfl)) rfl ?_
  exact ⟨g, o, c, bs, d, z, dc, dk, x, rfl, SZ, by omega, by omega, BZ⟩
end Go.Proofs.Ytiplhdcapnboaaa.DrG
