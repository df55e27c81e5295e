/-
  A page is laid over a page of drawn blocks: they are drawn blocks still.
-/
import Derived.Test.YtkikeapfjpnkgaaDrwD
import Derived.Test.YtkikeapfjpnkgaaImplX
import Derived.Test.YtkikeapfjpnkgaaLqM
namespace Go.Proofs.Ytkikeapfjpnkgaa.DrP
open Go.ChangeShapes Go.WideShapes Go.ChangeAt Go.RowKit Go.Shelf Big Fl ImplF ImplL Kp StA RmA DoA AlA DpA NwA Pick Draw EvA ImplB ImplS ImplU SpecC SpecD SpecW ImplW PyA FlB ClA ImplX LawsE DrB
set_option linter.unusedVariables false
set_option linter.unusedSimpArgs false
attribute [local go_sem ↓] Go.wp_at_zero Go.wp_at_succ

variable {lo g o : Nat} {w : World} {bs : List Bk}
theorem FsN.page (h : FsN lo w g o bs) (k : Nat) (hk : k < bs.length) (j : Nat) (hj : j < bs[k].ps.length) (p : Pg) (pb po pc : Nat) (hc : w.cell? ⟨g, o + k * 2, none⟩ = some (.slice (some ⟨pb, po, none⟩) bs[k].ps.length pc)) :
    FsN lo (w.setCells pb (po + j * 5) (pgC p)) g o (bs.set k ⟨bs[k].ps.set j p, bs[k].wn⟩) := by
  have hs := size_setCells pb (pgC p) (po + j * 5) w
  obtain ⟨qb, qo, qc, k1, k2, k3, k4, k5, k6, k7, k8⟩ := h.bk k hk
  have e := k1
  rw [hc] at e
  simp at e
  obtain ⟨⟨rfl, rfl⟩, rfl⟩ := e
  have hcell : ∀ x, (w.setCells pb (po + j * 5) (pgC p)).cell? ⟨g, x, none⟩ = w.cell? ⟨g, x, none⟩ := fun x => Own.cell_setCells_ne (.inl (fun e => k6 e.symm))
  refine ⟨h.glo, by rw [hs]; exact h.ghi, fun i hi => ?_, by simpa using h.four, fun b hb => ?_, fun i i' hi hi' hne pb1 po1 n1 c1 pb2 po2 n2 c2 h1 h2 => ?_⟩
  · simp only [List.length_set] at hi
    by_cases ei : i = k
    · subst ei
      simp only [List.getElem_set_self]
      refine ⟨pb, po, pc, by rw [hcell]; simpa using hc, by rw [hcell]; exact k2, ?_, k4, by rw [hs]; exact k5, k6, by simpa using k7, World.there_setCells (by simpa using k8) _ _ _⟩
      exact range_set' pgC 5 (fun _ _ => rfl) j hj p rfl k3 (World.rangeAt_setCells_same _ _ _ _ (there_sub k8 (j * 5) 5 (by omega))) (fun o' cs hr hd => World.rangeAt_setCells_apart hr _ _ _ (.inr (by rw [len_pgC]; omega)))
    · obtain ⟨qb, qo, qc, m1, m2, m3, m4, m5, m6, m7, m8⟩ := h.bk i hi
      have hq : qb ≠ pb := h.ap i k hi hk ei _ _ _ _ _ _ _ _ m1 hc
      rw [List.getElem_set_ne (fun q => ei q.symm)]
      refine ⟨qb, qo, qc, by rw [hcell]; exact m1, by rw [hcell]; exact m2, fun x v hv => ?_, m4, by rw [hs]; exact m5, m6, m7, World.there_setCells m8 _ _ _⟩
      rw [Own.cell_setCells_ne (.inl hq)]
      exact m3 x v hv
  · rcases List.mem_or_eq_of_mem_set hb with hb | rfl
    · exact h.pgs b hb
    · have := h.pgs _ (List.getElem_mem hk)
      simpa using this
  · rw [hcell] at h1 h2
    exact h.ap i i' (by simpa using hi) (by simpa using hi') hne _ _ _ _ _ _ _ _ h1 h2
set_option maxRecDepth 100000 in
set_option maxHeartbeats 4000000 in
theorem drawOrder_any (w : World) (a : Option Addr) (len cap : Nat) (zs : List Int) (h : IsRow .u8 w a len cap zs) :
    Calls Try.prog 31 #[.slice a len cap] w fun e w' => DnPost w e w' := by
  have HO := hide (open_any w a len cap zs h)
  have HPS := hide (fun (p : Pg) => (show (Try.prog.info? 33).map (·.size) = some (pgC p).length by rw [len_pgC]; kernel_rfl))
  go_enter Try.func31, Try.ntmps31
  go_wp2_with fail
  refine (unhide HO).mono ?_
  rintro e w1 ⟨rfl, len', hl', hrow, d1⟩
  have hlt := d1.lt
  clear HO
  go_wp2_with fail
  refine (flash_any w w w1 w.heap.size a len' cap 0 hrow hl' d1 (by omega) (by omega)).mono ?_
  rintro e w2 ⟨g, o, c, bs, p', rfl, F2, hp0, hp1, d2, k2⟩
  go_wp2_with fail
  refine (pick_k w w w2 w.heap.size a len' cap p' 3 hrow hl' d2 (by omega) (by omega) (by omega) (by omega)).mono ?_
  rintro e w3 ⟨r, rfl, r0, r1, d3, m3⟩
  have F3 := FsN.mono (F2.kept m3 (fun x hx => by simp at hx; subst hx; exact hlt)) (Nat.le_of_lt hlt)
  have b3 := d3.bel
  clear d1 d2 d3 m3 k2 F2
  by_cases hr : r = 0
  case neg =>
    have hrb : (r == 0) = false := by simpa using hr
    go_wp2
    go_ret
    exact ⟨g, o, c, bs, rfl, F3, b3⟩
  subst hr
  by_cases hb : 1 < bs.length
  case neg =>
    have hbi : ¬ (1 : Int) < (bs.length : Int) := by omega
    go_wp2
    go_ret
    exact ⟨g, o, c, bs, rfl, F3, b3⟩
  have hbi : (1 : Int) < (bs.length : Int) := by omega
  have hb0 : (0 : Int) < (bs.length : Int) := by omega
  have hbn : 0 < bs.length := by omega
  obtain ⟨pb, po, pc, c0, -, k0, l0, s0, n0, -, t0⟩ := F3.bk 0 hbn
  obtain ⟨qb, qo, qc, c1, -, k1, l1, s1, n1, -, t1⟩ := F3.bk 1 hb
  have hap : pb ≠ qb := F3.ap 0 1 hbn hb (by omega) _ _ _ _ _ _ _ _ c0 c1
  have HC0 := hide c0
  have HC1 := hide c1
  rw [Nat.zero_mul, Nat.add_zero] at c0
  rw [Nat.one_mul] at c1
  by_cases h0 : 1 < bs[0].ps.length
  case neg =>
    have h0i : ¬ (1 : Int) < (bs[0].ps.length : Int) := by omega
    clear k0 k1 t0 t1
    generalize bs[0].ps.length = x0 at *
    go_wp2
    go_ret
    exact ⟨g, o, c, bs, rfl, F3, b3⟩
  by_cases h1 : 1 < bs[1].ps.length
  case neg =>
    have h0i : (1 : Int) < (bs[0].ps.length : Int) := by omega
    have h1i : ¬ (1 : Int) < (bs[1].ps.length : Int) := by omega
    clear k0 k1 t0 t1
    generalize bs[0].ps.length = x0 at *
    generalize bs[1].ps.length = x1 at *
    go_wp2
    go_ret
    exact ⟨g, o, c, bs, rfl, F3, b3⟩
  have h0i : (1 : Int) < (bs[0].ps.length : Int) := by omega
  have h1i : (1 : Int) < (bs[1].ps.length : Int) := by omega
  obtain ⟨p0, hp0e⟩ : ∃ p, p = bs[0].ps[1] := ⟨_, rfl⟩
  obtain ⟨p1, hp1e⟩ : ∃ p, p = bs[1].ps[1] := ⟨_, rfl⟩
  have bX : Below w3.heap.size w3 (w3.alloc (.cells #[.int .i64 p0.st, .int .i64 p0.k, .int .i64 p0.s, .int .i64 p0.a, .int .i64 p0.v] 33)) := (Below.refl _ _).alloc (Nat.le_refl _) _
  have cX := CsAt.new w3 [.int .i64 p0.st, .int .i64 p0.k, .int .i64 p0.s, .int .i64 p0.a, .int .i64 p0.v] 33
  have R0 : w3.rangeAt pb (po + 5) [.int .i64 p0.st, .int .i64 p0.k, .int .i64 p0.s, .int .i64 p0.a, .int .i64 p0.v] := by
    have := range_pg k0 1 h0
    rw [← hp0e] at this
    exact this
  have F4 := FsN.below F3 bX
  have T0 : (w3.alloc (.cells #[.int .i64 p0.st, .int .i64 p0.k, .int .i64 p0.s, .int .i64 p0.a, .int .i64 p0.v] 33)).there pb (po + 5) 5 := there_below (there_sub t0 5 5 (by omega)) bX s0
  have T1' : (w3.alloc (.cells #[.int .i64 p0.st, .int .i64 p0.k, .int .i64 p0.s, .int .i64 p0.a, .int .i64 p0.v] 33)).there qb (qo + 5) 5 := there_below (there_sub t1 5 5 (by omega)) bX s1
  have R1 : (w3.alloc (.cells #[.int .i64 p0.st, .int .i64 p0.k, .int .i64 p0.s, .int .i64 p0.a, .int .i64 p0.v] 33)).rangeAt qb (qo + 5) (pgC p1) := by
    have := range_pg k1 1 h1
    rw [← hp1e] at this
    exact rangeAt_below this bX s1
  have e0 := c0
  rw [← bX.cell (p := ⟨g, o, none⟩) (Fl.cell_lt c0)] at e0
  have e1 := c1
  rw [← bX.cell (p := ⟨g, o + 2, none⟩) (Fl.cell_lt c1)] at e1
  have X0 : (w3.alloc (.cells #[.int .i64 p0.st, .int .i64 p0.k, .int .i64 p0.s, .int .i64 p0.a, .int .i64 p0.v] 33)).rangeAt w3.heap.size 0 (pgC p0) := cX.cells
  have hxp : w3.heap.size ≠ pb := by omega
  have hxq : w3.heap.size ≠ qb := by omega
  have n0' : g ≠ pb := fun e => n0 e.symm
  have n1' : g ≠ qb := fun e => n1 e.symm
  have b4 := b3.trans (bX.mono b3.size)
  have HE0 := hide e0
  have HE1 := hide e1
  have HHL : Hid (bs[1].ps.length = bs[1].ps.length ∧ 1 < bs[1].ps.length) := ⟨rfl, h1⟩
  clear F3 b3 k0 k1 t0 t1 cX hp0e hp1e bX e0 e1
  generalize hx0 : bs[0].ps.length = x0 at *
  generalize hx1 : bs[1].ps.length = x1 at *
  have HX0 := hide hx0
  have HX1 := hide hx1
  clear hx0 hx1
  have hh0 : (1 : Int) < (x0 : Int) := h0i
  go_upto_region 5 with (refine wpList_load_mid rfl 33 _ rfl pb (po + 5) rfl [.int .i64 p0.st, .int .i64 p0.k, .int .i64 p0.s, .int .i64 p0.a, .int .i64 p0.v] _ R0 Try.underlying33 rfl (unhide HPS p0) ?_)
  have e0 := unhide HE0
  have e1 := unhide HE1
  clear HE0 HE1 R0 c0 c1
  generalize w3.alloc (.cells #[.int .i64 p0.st, .int .i64 p0.k, .int .i64 p0.s, .int .i64 p0.a, .int .i64 p0.v] 33) = w4 at *
  generalize w3.heap.size = xb at *
  refine wp_region_noPanic ?_
  refine wp_region_held_drew (S := fun w' => w'.cell? ⟨g, o, none⟩ = some (.slice (some ⟨pb, po, none⟩) x0 pc) ∧ w'.cell? ⟨g, o + 2, none⟩ = some (.slice (some ⟨qb, qo, none⟩) x1 qc) ∧ w'.rangeAt qb (qo + 5) (pgC p1)) (by kernel_rfl) (⟨by simpa using e0, by simpa using e1, fun j v hv => by simpa using R1 j v hv⟩) (fun hHeld => ?_)
  refine takeL 0 (.slice (some ⟨g, o, none⟩) bs.length c) rfl (by kernel_rfl) (by kernel_rfl) (by kernel_rfl) (fun _ _ _ h => h) (Or.inl ⟨rfl, fun _ _ => rfl⟩) hHeld ?_
  try simp only [Act.put, List.setIfInBounds_toArray, List.set_cons_zero, List.set_cons_succ]
  refine takeL 1 (.pointer (some ⟨g, o, none⟩)) rfl (by kernel_rfl) (by kernel_rfl) (by kernel_rfl) (fun _ _ _ h => h) (Or.inl ⟨rfl, fun w9 hSw => by go_simp⟩) hHeld ?_
  try simp only [Act.put, List.setIfInBounds_toArray, List.set_cons_zero, List.set_cons_succ]
  refine takeL 2 (.pointer (some ⟨g, o, none⟩)) rfl (by kernel_rfl) (by kernel_rfl) (by kernel_rfl) (fun _ _ _ h => h) (Or.inl ⟨rfl, fun w9 hSw => by go_simp⟩) hHeld ?_
  try simp only [Act.put, List.setIfInBounds_toArray, List.set_cons_zero, List.set_cons_succ]
  refine takeL 3 (.slice (some ⟨pb, po, none⟩) x0 pc) rfl (by kernel_rfl) (by kernel_rfl) (by kernel_rfl) (fun _ _ _ h => h) (Or.inl ⟨rfl, fun w9 hSw => by have hc := hSw.1; go_simp⟩) hHeld ?_
  try simp only [Act.put, List.setIfInBounds_toArray, List.set_cons_zero, List.set_cons_succ]
  refine takeL 4 (.slice (some ⟨g, o, none⟩) bs.length c) rfl (by kernel_rfl) (by kernel_rfl) (by kernel_rfl) (fun _ _ _ h => h) (Or.inl ⟨rfl, fun _ _ => rfl⟩) hHeld ?_
  try simp only [Act.put, List.setIfInBounds_toArray, List.set_cons_zero, List.set_cons_succ]
  refine takeL 5 (.pointer (some ⟨g, o + 2, none⟩)) rfl (by kernel_rfl) (by kernel_rfl) (by kernel_rfl) (fun _ _ _ h => h) (Or.inl ⟨rfl, fun w9 hSw => by go_simp⟩) hHeld ?_
  try simp only [Act.put, List.setIfInBounds_toArray, List.set_cons_zero, List.set_cons_succ]
  refine takeL 6 (.pointer (some ⟨g, o + 2, none⟩)) rfl (by kernel_rfl) (by kernel_rfl) (by kernel_rfl) (fun _ _ _ h => h) (Or.inl ⟨rfl, fun w9 hSw => by go_simp⟩) hHeld ?_
  try simp only [Act.put, List.setIfInBounds_toArray, List.set_cons_zero, List.set_cons_succ]
  refine takeL 7 (.slice (some ⟨qb, qo, none⟩) x1 qc) rfl (by kernel_rfl) (by kernel_rfl) (by kernel_rfl) (fun _ _ _ h => h) (Or.inl ⟨rfl, fun w9 hSw => by have hc := hSw.2.1; go_simp⟩) hHeld ?_
  try simp only [Act.put, List.setIfInBounds_toArray, List.set_cons_zero, List.set_cons_succ]
  refine takeL 8 (.pointer (some ⟨qb, qo + 5, none⟩)) rfl (by kernel_rfl) (by kernel_rfl) (by kernel_rfl) (fun _ _ _ h => h) (Or.inl ⟨rfl, fun w9 hSw => by go_simp⟩) hHeld ?_
  try simp only [Act.put, List.setIfInBounds_toArray, List.set_cons_zero, List.set_cons_succ]
  refine takeL 9 (.agg (pgC p1).toArray) rfl (by kernel_rfl) (by kernel_rfl) (by kernel_rfl) (fun _ _ _ h => h) (yieldsIf_load_mid rfl 33 _ rfl qb (qo + 5) rfl (pgC p1) _ (fun _ h => h.2.2) Try.underlying33 rfl (unhide HPS p1)) hHeld ?_
  try simp only [Act.put, List.setIfInBounds_toArray, List.set_cons_zero, List.set_cons_succ]
  refine takeL 10 (.pointer (some ⟨pb, po + 5, none⟩)) rfl (by kernel_rfl) (by kernel_rfl) (by kernel_rfl) (fun _ _ _ h => h) (Or.inl ⟨rfl, fun w9 hSw => by go_simp⟩) hHeld ?_
  try simp only [Act.put, List.setIfInBounds_toArray, List.set_cons_zero, List.set_cons_succ]
  refine oneL 11 rfl (by kernel_rfl) rfl (fun K hK => ?_)
  refine wp_store_mid 33 _ _ rfl pb (po + 5) (pgC p1).toArray rfl rfl (fun j hj => by simpa using T0 j hj) (by have := unhide HPS p1; simpa using this) (all_oneCell_toArray (one_pgC _)) ?_
  refine hK.out _ _ ⟨by rw [Own.cell_setCells_ne (.inl n0')]; exact hHeld.1, by rw [Own.cell_setCells_ne (.inl n0')]; exact hHeld.2.1, World.rangeAt_setCells_apart hHeld.2.2 _ _ _ (.inl (fun e => hap e.symm))⟩ (fun hHeld => ?_)
  clear hK K
  try simp only [Act.put, List.setIfInBounds_toArray, List.set_cons_zero, List.set_cons_succ]
  refine wpAnyH_done (by kernel_rfl) ?_ _
  refine NoPanic.normal ?_
  have e0d := hHeld.1
  have e1d := hHeld.2.1
  clear hHeld
  have F4d := F4.kept ((Kept.refl [] w4).drew) (by simp)
  have F5 := FsN.page F4d 0 hbn 1 (by rw [unhide HX0]; exact h0) p1 pb po pc (by rw [unhide HX0, Nat.zero_mul, Nat.add_zero]; simpa using e0)
  rw [Nat.one_mul] at F5
  have X0' := World.rangeAt_setCells_apart (w := w4.drew) (fun j v hv => X0 j v hv) pb (po + 5) (pgC p1) (.inl hxp)
  have T1 := World.there_setCells (w := w4.drew) (fun j hj => T1' j hj) pb (po + 5) (pgC p1)
  have K5 := (Kept.of (L := []) b4).drew.setCells (b := pb) (.inr l0) (po + 5) (pgC p1)
  clear F4 F4d X0 T1' T0 R1 e0 e1 b4 e0d
  generalize w4.drew.setCells pb (po + 5) (pgC p1) = w5 at *
  have e1 := e1d
  have X0 := X0'
  clear X0' e1d
  go_wp2_with fail
  refine wp_region_noPanic ?_
  refine wp_region_held_drew (S := fun w' => w'.cell? ⟨g, o + 2, none⟩ = some (.slice (some ⟨qb, qo, none⟩) x1 qc) ∧ w'.rangeAt xb 0 (pgC p0)) (by kernel_rfl) (⟨by simpa using e1, fun j v hv => by simpa using X0 j v hv⟩) (fun hHeld => ?_)
  refine takeL 0 (.slice (some ⟨g, o, none⟩) bs.length c) rfl (by kernel_rfl) (by kernel_rfl) (by kernel_rfl) (fun _ _ _ h => h) (Or.inl ⟨rfl, fun _ _ => rfl⟩) hHeld ?_
  try simp only [Act.put, List.setIfInBounds_toArray, List.set_cons_zero, List.set_cons_succ]
  refine takeL 1 (.pointer (some ⟨g, o + 2, none⟩)) rfl (by kernel_rfl) (by kernel_rfl) (by kernel_rfl) (fun _ _ _ h => h) (Or.inl ⟨rfl, fun w9 hSw => by go_simp⟩) hHeld ?_
  try simp only [Act.put, List.setIfInBounds_toArray, List.set_cons_zero, List.set_cons_succ]
  refine takeL 2 (.pointer (some ⟨g, o + 2, none⟩)) rfl (by kernel_rfl) (by kernel_rfl) (by kernel_rfl) (fun _ _ _ h => h) (Or.inl ⟨rfl, fun w9 hSw => by go_simp⟩) hHeld ?_
  try simp only [Act.put, List.setIfInBounds_toArray, List.set_cons_zero, List.set_cons_succ]
  refine takeL 3 (.slice (some ⟨qb, qo, none⟩) x1 qc) rfl (by kernel_rfl) (by kernel_rfl) (by kernel_rfl) (fun _ _ _ h => h) (Or.inl ⟨rfl, fun w9 hSw => by have hc := hSw.1; go_simp⟩) hHeld ?_
  try simp only [Act.put, List.setIfInBounds_toArray, List.set_cons_zero, List.set_cons_succ]
  refine takeL 4 (.agg (pgC p0).toArray) rfl (by kernel_rfl) (by kernel_rfl) (by kernel_rfl) (fun _ _ _ h => h) (yieldsIf_load_mid rfl 33 _ rfl xb (0) rfl (pgC p0) _ (fun _ h => h.2) Try.underlying33 rfl (unhide HPS p0)) hHeld ?_
  try simp only [Act.put, List.setIfInBounds_toArray, List.set_cons_zero, List.set_cons_succ]
  refine takeL 5 (.pointer (some ⟨qb, qo + 5, none⟩)) rfl (by kernel_rfl) (by kernel_rfl) (by kernel_rfl) (fun _ _ _ h => h) (Or.inl ⟨rfl, fun w9 hSw => by go_simp⟩) hHeld ?_
  try simp only [Act.put, List.setIfInBounds_toArray, List.set_cons_zero, List.set_cons_succ]
  refine oneL 6 rfl (by kernel_rfl) rfl (fun K hK => ?_)
  refine wp_store_mid 33 _ _ rfl qb (qo + 5) (pgC p0).toArray rfl rfl (fun j hj => by simpa using T1 j hj) (by have := unhide HPS p0; simpa using this) (all_oneCell_toArray (one_pgC _)) ?_
  refine hK.out _ _ ⟨by rw [Own.cell_setCells_ne (.inl n1')]; exact hHeld.1, World.rangeAt_setCells_apart hHeld.2 _ _ _ (.inl hxq)⟩ (fun hHeld => ?_)
  clear hK K
  try simp only [Act.put, List.setIfInBounds_toArray, List.set_cons_zero, List.set_cons_succ]
  refine wpAnyH_done (by kernel_rfl) ?_ _
  refine NoPanic.normal ?_
  clear hHeld
  have F5d := F5.kept ((Kept.refl [] w5).drew) (by simp)
  have hl1 : (bs.set 0 ⟨bs[0].ps.set 1 p1, bs[0].wn⟩)[1]'(by simpa using hb) = bs[1] := List.getElem_set_ne (by omega) _
  have F6 := FsN.page F5d 1 (by simpa using hb) 1 (by rw [hl1, unhide HX1]; exact h1) p0 qb qo qc (by rw [hl1, unhide HX1, Nat.one_mul]; simpa using e1)
  rw [Nat.one_mul] at F6
  have K6 := K5.drew.setCells (b := qb) (.inr l1) (qo + 5) (pgC p0)
  have B6 := K6.all (by simp)
  clear F5 F5d K5 K6 e1 X0 T1
  go_wp2
  go_ret
  exact ⟨g, o, c, _, by simp, F6, B6⟩
end Go.Proofs.Ytkikeapfjpnkgaa.DrP
