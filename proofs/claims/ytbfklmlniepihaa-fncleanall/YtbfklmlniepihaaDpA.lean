/-
  The specification's letting something happen, in place.
-/
import Derived.Test.YtbfklmlniepihaaAlA
namespace Go.Proofs.Ytbfklmlniepihaa.DpA
open Go.ChangeShapes Go.WideShapes Go.ChangeAt Go.RowKit Go.Shelf OkA Big Fl ImplB ImplF ImplS _root_.Go.Proofs.Ytbfklmlniepihaa.Own ImplT ImplU SpecA SpecB SpecC SpecD SpecW SpecF SpecG SpecH Ok2 Pl FindP SpecX ImplL FindN FindL FindV Kp StA RmA WrA FlA DoA ToA PlA AlA
set_option linter.unusedVariables false
set_option linter.unusedSimpArgs false
attribute [local go_sem ↓] Go.wp_at_zero Go.wp_at_succ

set_option maxRecDepth 100000 in
set_option maxHeartbeats 4000000 in
theorem happen_any (lo g d cap dcap : Nat) (G : List Nat) (bs : List Bk) (dk : List Int) (kind a b c : Int) (torn : Bool) (w : World) (hS : St w lo g d G bs dk) (hok : okB bs = true) :
    Calls Try.prog 23 #[.agg #[.slice (some ⟨g, 0, none⟩) 4 cap, .slice (some ⟨d, 0, none⟩) 6 dcap], .agg #[.int .i64 kind, .int .i64 a, .int .i64 b, .int .i64 c, .bool torn]] w fun e w' => EndPost w lo g d cap dcap G e w' := by
  have b1 : Below w.heap.size w (((w.alloc (.cells #[.slice (some ⟨g, 0, none⟩) 4 cap, .slice (some ⟨d, 0, none⟩) 6 dcap] 59)).alloc (.cells #[.int .i64 kind, .int .i64 a, .int .i64 b, .int .i64 c, .bool torn] 67)).alloc (.cells #[.slice none 0 0, .slice none 0 0] 59)) := (((Below.refl _ _).alloc (Nat.le_refl _) _).alloc (by simp) _).alloc (by simp; omega) _
  have cS := ((store_box w (.slice (some ⟨g, 0, none⟩) 4 cap) (.slice (some ⟨d, 0, none⟩) 6 dcap)).alloc (by simp) (.cells #[.int .i64 kind, .int .i64 a, .int .i64 b, .int .i64 c, .bool torn] 67)).alloc (by simp; omega) (.cells #[.slice none 0 0, .slice none 0 0] 59)
  have cE := (CsAt.new (w.alloc (.cells #[.slice (some ⟨g, 0, none⟩) 4 cap, .slice (some ⟨d, 0, none⟩) 6 dcap] 59)) [.int .i64 kind, .int .i64 a, .int .i64 b, .int .i64 c, .bool torn] 67).alloc (by simp) (.cells #[.slice none 0 0, .slice none 0 0] 59)
  rw [World.size_alloc] at cE
  have cR := CsAt.new ((w.alloc (.cells #[.slice (some ⟨g, 0, none⟩) 4 cap, .slice (some ⟨d, 0, none⟩) 6 dcap] 59)).alloc (.cells #[.int .i64 kind, .int .i64 a, .int .i64 b, .int .i64 c, .bool torn] 67)) [.slice none 0 0, .slice none 0 0] 59
  rw [World.size_alloc, World.size_alloc] at cR
  have s1 : (((w.alloc (.cells #[.slice (some ⟨g, 0, none⟩) 4 cap, .slice (some ⟨d, 0, none⟩) 6 dcap] 59)).alloc (.cells #[.int .i64 kind, .int .i64 a, .int .i64 b, .int .i64 c, .bool torn] 67)).alloc (.cells #[.slice none 0 0, .slice none 0 0] 59)).heap.size = w.heap.size + 3 := by simp
  have S1 := hS.below b1
  have k1 : Kept (d :: g :: G) w (((w.alloc (.cells #[.slice (some ⟨g, 0, none⟩) 4 cap, .slice (some ⟨d, 0, none⟩) 6 dcap] 59)).alloc (.cells #[.int .i64 kind, .int .i64 a, .int .i64 b, .int .i64 c, .bool torn] 67)).alloc (.cells #[.slice none 0 0, .slice none 0 0] 59)) := Kept.of b1
  have hall := hS.all
  have HOK := hide hok
  clear hS hok b1
  go_enter Try.func23, Try.ntmps23
  go_upto_region 1 with fail
  generalize ((w.alloc (.cells #[.slice (some ⟨g, 0, none⟩) 4 cap, .slice (some ⟨d, 0, none⟩) 6 dcap] 59)).alloc (.cells #[.int .i64 kind, .int .i64 a, .int .i64 b, .int .i64 c, .bool torn] 67)).alloc (.cells #[.slice none 0 0, .slice none 0 0] 59) = w1 at *
  have hgL : w.heap.size ∉ d :: g :: G := fun hm => by have := (hall _ hm).2; omega
  have heL : w.heap.size + 1 ∉ d :: g :: G := fun hm => by have := (hall _ hm).2; omega
  have hrL : w.heap.size + 1 + 1 ∉ d :: g :: G := fun hm => by have := (hall _ hm).2; omega
  have z0 := cE.cell 0 _ rfl
  have z3 := cE.cell 3 _ rfl
  have y0 := cS.cell 0 _ rfl
  have y1 := cS.cell 1 _ rfl
  by_cases t4 : kind = 4
  · have q4 : (kind == 4) = true := by simpa using t4
    clear t4 z3
    go_wp2_with fail
    refine (all_any lo g d cap dcap G bs dk w1 S1 (unhide HOK)).mono ?_
    rintro e w3 ⟨rfl, B, D, ok3, S3, k3⟩
    have HO3 := hide ok3
    have cR3 := csAt_kept cR k3 (by omega) hrL
    have K3 := k1.trans k3
    clear cR k1 k3 z0 y0 y1 S1 cS cE s1 ok3
    have d0 := cR3.cell 0 _ rfl
    have d1 := cR3.cell 1 _ rfl
    have f0 := cR3.frozen 0 (by simp)
    have f1 := cR3.frozen 1 (by simp)
    have p1 := cR3.put [.slice (some ⟨g, 0, none⟩) 4 cap, .slice (some ⟨d, 0, none⟩) 6 dcap] rfl
    have kz := kept_cells w3 (w.heap.size + 1 + 1) 0 [.slice (some ⟨g, 0, none⟩) 4 cap, .slice (some ⟨d, 0, none⟩) 6 dcap]
    have SZ := S3.kept kz (fun y hy => by have := (hall y hy).2; simp; omega)
    have KZ : Kept (d :: g :: G) w (w3.setCells (w.heap.size + 1 + 1) 0 [.slice (some ⟨g, 0, none⟩) 4 cap, .slice (some ⟨d, 0, none⟩) 6 dcap]) := K3.then kz (fun y hy => by simp at hy; subst hy; right; omega)
    go_wp2
    refine bodyPost_ret (res_cell_mid Try.results23 _ _ (w.heap.size + 1 + 1) [.slice (some ⟨g, 0, none⟩) 4 cap, .slice (some ⟨d, 0, none⟩) 6 dcap] _ rfl p1.cells Try.underlying59 rfl (by kernel_rfl)) rfl ?_
    exact ⟨rfl, B, D, unhide HO3, SZ, KZ⟩
  · have q4 : (kind == 4) = false := by simpa using t4
    clear t4
    by_cases t0 : c < 0
    · have HO3 := HOK
      have d0 := cR.cell 0 _ rfl
      have d1 := cR.cell 1 _ rfl
      have f0 := cR.frozen 0 (by simp)
      have f1 := cR.frozen 1 (by simp)
      have p1 := cR.put [.slice (some ⟨g, 0, none⟩) 4 cap, .slice (some ⟨d, 0, none⟩) 6 dcap] rfl
      have kz := kept_cells w1 (w.heap.size + 1 + 1) 0 [.slice (some ⟨g, 0, none⟩) 4 cap, .slice (some ⟨d, 0, none⟩) 6 dcap]
      have SZ := S1.kept kz (fun y hy => by have := (hall y hy).2; simp; omega)
      have KZ : Kept (d :: g :: G) w (w1.setCells (w.heap.size + 1 + 1) 0 [.slice (some ⟨g, 0, none⟩) 4 cap, .slice (some ⟨d, 0, none⟩) 6 dcap]) := k1.then kz (fun y hy => by simp at hy; subst hy; right; omega)
      go_wp2
      refine bodyPost_ret (res_cell_mid Try.results23 _ _ (w.heap.size + 1 + 1) [.slice (some ⟨g, 0, none⟩) 4 cap, .slice (some ⟨d, 0, none⟩) 6 dcap] _ rfl p1.cells Try.underlying59 rfl (by kernel_rfl)) rfl ?_
      exact ⟨rfl, bs, dk, unhide HO3, SZ, KZ⟩
    · have z0' := z0
      have HSS := hide (show (Try.prog.info? 59).map (·.size) = some 2 by kernel_rfl)
      have HS5 := hide (show (Try.prog.info? 67).map (·.size) = some 5 by kernel_rfl)
      have HL := hide (stepsP_stp bs dk kind a b (unhide HOK))
      have HN := hide (stepsP_len bs dk kind a b (unhide HOK))
      have HST := hide (fun (w' : World) (h : St w' lo g d G bs dk) => steps_any lo g d cap dcap G bs dk kind a b c torn w' h (unhide HOK))
      go_upto_region 5 with fail
      refine wp_region_noPanic ?_
      refine wp_region_held_drew (S := fun w' => (CsAt w' w.heap.size [.slice (some ⟨g, 0, none⟩) 4 cap, .slice (some ⟨d, 0, none⟩) 6 dcap] ∧ CsAt w' (w.heap.size + 1) [.int .i64 kind, .int .i64 a, .int .i64 b, .int .i64 c, .bool torn]) ∧ w.heap.size + 3 ≤ w'.heap.size) (by kernel_rfl) (⟨⟨⟨fun j v hv => cS.cells j v hv, fun j hj => cS.free j hj⟩, ⟨fun j v hv => cE.cells j v hv, fun j hj => cE.free j hj⟩⟩, by show w.heap.size + 3 ≤ w1.heap.size; omega⟩) (fun hHeld => ?_)
      refine takeL 0 (.agg #[.slice (some ⟨g, 0, none⟩) 4 cap, .slice (some ⟨d, 0, none⟩) 6 dcap]) rfl (by kernel_rfl) (by kernel_rfl) (by kernel_rfl) (fun _ _ _ h => h) (yieldsIf_load_mid rfl 59 _ rfl w.heap.size 0 rfl [.slice (some ⟨g, 0, none⟩) 4 cap, .slice (some ⟨d, 0, none⟩) 6 dcap] _ (fun _ h => h.1.1.cells) Try.underlying59 rfl (unhide HSS)) hHeld ?_
      try simp only [Act.put, List.setIfInBounds_toArray, List.set_cons_zero, List.set_cons_succ]
      refine takeL 1 (.agg #[.slice (some ⟨g, 0, none⟩) 4 cap, .slice (some ⟨d, 0, none⟩) 6 dcap]) rfl (by kernel_rfl) (by kernel_rfl) (by kernel_rfl) (fun _ _ _ h => h) (yieldsIf_load_mid rfl 59 _ rfl w.heap.size 0 rfl [.slice (some ⟨g, 0, none⟩) 4 cap, .slice (some ⟨d, 0, none⟩) 6 dcap] _ (fun _ h => h.1.1.cells) Try.underlying59 rfl (unhide HSS)) hHeld ?_
      try simp only [Act.put, List.setIfInBounds_toArray, List.set_cons_zero, List.set_cons_succ]
      refine takeL 2 (.agg #[.int .i64 kind, .int .i64 a, .int .i64 b, .int .i64 c, .bool torn]) rfl (by kernel_rfl) (by kernel_rfl) (by kernel_rfl) (fun _ _ _ h => h) (yieldsIf_load_mid rfl 67 _ rfl (w.heap.size + 1) 0 rfl [.int .i64 kind, .int .i64 a, .int .i64 b, .int .i64 c, .bool torn] _ (fun _ h => h.1.2.cells) Try.underlying67 rfl (unhide HS5)) hHeld ?_
      try simp only [Act.put, List.setIfInBounds_toArray, List.set_cons_zero, List.set_cons_succ]
      refine takeL 4 (.pointer (some ⟨w.heap.size + 1, 3, none⟩)) rfl (by kernel_rfl) (by kernel_rfl) (by kernel_rfl) (fun _ _ _ h => h) (Or.inl ⟨rfl, fun w9 hSw => by go_simp⟩) hHeld ?_
      try simp only [Act.put, List.setIfInBounds_toArray, List.set_cons_zero, List.set_cons_succ]
      refine takeL 5 (.int .i64 c) rfl (by kernel_rfl) (by kernel_rfl) (by kernel_rfl) (fun _ _ _ h => h) (Or.inl ⟨rfl, fun w9 hSw => by have hc := hSw.1.2.cell 3 _ rfl; go_simp⟩) hHeld ?_
      try simp only [Act.put, List.setIfInBounds_toArray, List.set_cons_zero, List.set_cons_succ]
      refine takeL 6 (.pointer (some ⟨w.heap.size + 1, 4, none⟩)) rfl (by kernel_rfl) (by kernel_rfl) (by kernel_rfl) (fun _ _ _ h => h) (Or.inl ⟨rfl, fun w9 hSw => by go_simp⟩) hHeld ?_
      try simp only [Act.put, List.setIfInBounds_toArray, List.set_cons_zero, List.set_cons_succ]
      refine takeL 7 (.bool torn) rfl (by kernel_rfl) (by kernel_rfl) (by kernel_rfl) (fun _ _ _ h => h) (Or.inl ⟨rfl, fun w9 hSw => by have hc := hSw.1.2.cell 4 _ rfl; go_simp⟩) hHeld ?_
      try simp only [Act.put, List.setIfInBounds_toArray, List.set_cons_zero, List.set_cons_succ]
      have S1d := S1.kept (L := []) (Kept.refl [] w1).drew (fun _ _ => by simp)
      have R1d := csAt_kept cR (L := []) (Kept.refl [] w1).drew (by omega) (by simp)
      have K1d := k1.drew
      refine oneL 3 rfl (by kernel_rfl) rfl (fun K hK => ?_)
      go_simp
      refine (unhide HST _ S1d).mono ?_
      rintro e w4 ⟨v, rfl, r4, d4⟩
      obtain ⟨sa, sc, rfl, hsa⟩ := stsForm r4
      have S4 := S1d.below d4
      have R4 := csAt_kept R1d (L := []) (Kept.of d4) (by show w.heap.size + 1 + 1 < w1.heap.size; omega) (by simp)
      have K4 := K1d.trans (Kept.of d4)
      have s4 : w.heap.size + 3 ≤ w4.heap.size := by have := d4.size; simp at this; omega
      have C4 := csAt_kept hHeld.1.1 (L := []) (Kept.of d4) (by show w.heap.size < w1.heap.size; omega) (by simp)
      have E4 := csAt_kept hHeld.1.2 (L := []) (Kept.of d4) (by show w.heap.size + 1 < w1.heap.size; omega) (by simp)
      have hsa4 : stepsP bs dk kind a b = [] ∨ ∃ gs so, sa = some ⟨gs, so, none⟩ ∧ gs ∉ d :: g :: G ∧ gs < w4.heap.size ∧ w4.rangeAt gs so (stsC (stepsP bs dk kind a b)) := by
        rcases hsa with h | ⟨gs, rfl, h1, h2, h3⟩
        · exact .inl h
        · exact .inr ⟨gs, 0, rfl, fun hm => by have := (hall _ hm).2; simp at h1; omega, h2, h3⟩
      have HTO := hide (to_any lo g d cap dcap G bs dk sa sc (stepsP bs dk kind a b) c torn w4 S4 (unhide HOK) (unhide HL) (by have := unhide HN; omega) hsa4)
      have HO5 := okB_toB bs (stepsP bs dk kind a b) c torn (unhide HOK) (unhide HL)
      clear hsa hsa4 r4
      generalize stepsP bs dk kind a b = L at *
      go_wp2_with fail
      refine hK.out _ _ ⟨⟨C4, E4⟩, s4⟩ (fun hHeld => ?_)
      clear hK K
      try simp only [Act.put, List.setIfInBounds_toArray, List.set_cons_zero, List.set_cons_succ]
      refine oneL 8 rfl (by kernel_rfl) rfl (fun K hK => ?_)
      go_simp
      refine (unhide HTO).mono ?_
      rintro e w5 ⟨rfl, S5, k5⟩
      go_wp2_with fail
      have C5 := csAt_kept C4 k5 (by omega) hgL
      have E5 := csAt_kept E4 k5 (by omega) heL
      have R5 := csAt_kept R4 k5 (by omega) hrL
      have K5 := K4.trans k5
      have s5 : w.heap.size + 3 ≤ w5.heap.size := Nat.le_trans s4 k5.size
      refine hK.out _ _ ⟨⟨C5, E5⟩, s5⟩ (fun hHeld => ?_)
      clear hK K
      try simp only [Act.put, List.setIfInBounds_toArray, List.set_cons_zero, List.set_cons_succ]
      have p1 := R5.put [.slice (some ⟨g, 0, none⟩) 4 cap, .slice (some ⟨d, 0, none⟩) 6 dcap] rfl
      have kz := kept_cells w5 (w.heap.size + 1 + 1) 0 [.slice (some ⟨g, 0, none⟩) 4 cap, .slice (some ⟨d, 0, none⟩) 6 dcap]
      have SZ := S5.kept kz (fun y hy => by have := (hall y hy).2; simp; omega)
      have KZ : Kept (d :: g :: G) w (w5.setCells (w.heap.size + 1 + 1) 0 [.slice (some ⟨g, 0, none⟩) 4 cap, .slice (some ⟨d, 0, none⟩) 6 dcap]) := K5.then kz (fun y hy => by simp at hy; subst hy; right; omega)
      have C6 := csAt_kept C5 kz (by omega) (by simp; omega)
      have E6 := csAt_kept E5 kz (by omega) (by simp)
      have s6 : w.heap.size + 3 ≤ (w5.setCells (w.heap.size + 1 + 1) 0 [.slice (some ⟨g, 0, none⟩) 4 cap, .slice (some ⟨d, 0, none⟩) 6 dcap]).heap.size := Nat.le_trans s5 kz.size
      refine oneL 9 rfl (by kernel_rfl) rfl (fun K hK => ?_)
      refine wp_store_mid 59 _ _ rfl (w.heap.size + 1 + 1) 0 [.slice (some ⟨g, 0, none⟩) 4 cap, .slice (some ⟨d, 0, none⟩) 6 dcap].toArray rfl rfl R5.free (unhide HSS) (by kernel_rfl) ?_
      refine hK.out _ _ ⟨⟨C6, E6⟩, s6⟩ (fun hHeld => ?_)
      clear hK K
      try simp only [Act.put, List.setIfInBounds_toArray, List.set_cons_zero, List.set_cons_succ]
      refine wpAnyH_done (by kernel_rfl) ?_ _
      refine NoPanic.normal ?_
      go_wp2_with fail
      refine bodyPost_ret (res_cell_mid Try.results23 _ _ (w.heap.size + 1 + 1) [.slice (some ⟨g, 0, none⟩) 4 cap, .slice (some ⟨d, 0, none⟩) 6 dcap] _ rfl p1.cells Try.underlying59 rfl (by kernel_rfl)) rfl ?_
      exact ⟨rfl, _, _, HO5, SZ, KZ⟩
end Go.Proofs.Ytbfklmlniepihaa.DpA
