/-
  Texts that belong together, one behind the other: ImplX, StA, MpA.
-/
import Derived.Test.YtbiokmojjneleaaGreatHaF
import Derived.Test.YtbiokmojjneleaaGreatHaG
import Derived.Deep.Cut
import Derived.Test.YtbiokmojjneleaaGreatRaP
import Derived.Maps.OwnSet

/-
  The program's FlashWrite, for every list of blocks.
-/
namespace Go.Proofs.YtbiokmojjneleaaGreat.ImplX
open Go.ChangeShapes Go.WideShapes Go.ChangeAt Go.RowKit OkA Big Fl ImplB ImplF ImplS _root_.Go.Proofs.YtbiokmojjneleaaGreat.Own ImplT ImplU SpecA SpecB SpecC SpecD SpecW SpecX SpecY ImplW
set_option linter.unusedVariables false
set_option linter.unusedSimpArgs false
attribute [local go_sem ↓] Go.wp_at_zero Go.wp_at_succ

theorem range_set' {α : Type} (f : α → List Value) (n : Nat) {w w' : World} {g o : Nat} {xs : List α} (hf : ∀ x ∈ xs, (f x).length = n) (k : Nat) (hk : k < xs.length) (y : α) (hy : (f y).length = n)
    (h : w.rangeAt g o (xs.flatMap f)) (hm : w'.rangeAt g (o + k * n) (f y)) (ho : ∀ o' cs, w.rangeAt g o' cs → (o' + cs.length ≤ o + k * n ∨ o + k * n + n ≤ o') → w'.rangeAt g o' cs) : w'.rangeAt g o ((xs.set k y).flatMap f) := by
  have e : xs = xs.take k ++ (xs[k] :: xs.drop (k + 1)) := by rw [← List.drop_eq_getElem_cons hk]; exact (List.take_append_drop k xs).symm
  have e2 : xs.set k y = xs.take k ++ (y :: xs.drop (k + 1)) := by rw [List.set_eq_take_append_cons_drop, if_pos hk]
  have hl : ((xs.take k).flatMap f).length = k * n := by
    have : ∀ l : List α, (∀ x ∈ l, (f x).length = n) → (l.flatMap f).length = l.length * n := by
      intro l; induction l with
      | nil => simp
      | cons x r ih => intro hh; simp only [List.flatMap_cons, List.length_append, ih (fun z hz => hh z (by simp [hz])), hh x (by simp), List.length_cons, Nat.add_mul]; omega
    rw [this _ (fun x hx => hf x (List.mem_of_mem_take hx)), List.length_take, Nat.min_eq_left (by omega)]
  have h' : w.rangeAt g o ((xs.take k).flatMap f ++ (f xs[k] ++ (xs.drop (k + 1)).flatMap f)) := by
    have q := h
    rw [e] at q
    simpa only [List.flatMap_append, List.flatMap_cons] using q
  rw [e2]
  simp only [List.flatMap_append, List.flatMap_cons]
  rw [range_app, range_app, hl] at h' ⊢
  have hxk : (f xs[k]).length = n := hf _ (List.getElem_mem hk)
  refine ⟨ho _ _ h'.1 (by rw [hl]; omega), hm, ?_⟩
  have h3 := h'.2.2
  rw [hxk] at h3
  rw [hy]
  exact ho _ _ h3 (.inr (Nat.le_refl _))
theorem wp_world {P : Program} {c : Code} {Q : Exit → Act → World → Prop} {a : Act} {w : World} {φ : World → Prop} (h : φ w) (k : ∀ w', φ w' → c.wp P Q a w') : c.wp P Q a w := k w h
/-- A page is laid over a page of kept blocks. -/
theorem store_page {w : World} {kb : Nat} {ks : List Bk} (hF : Fours ks) (h4 : ks.length = 4) (h : w.rangeAt kb 0 (fsC ks)) (ht : w.there kb 0 84) (k : Nat) (hk : k < 4) (u : Nat) (hu : u < 4) (p : Pg) :
    (w.setCells kb (k * 21 + u * 5) (pgC p)).rangeAt kb 0 (fsC (ks.set k ⟨(ks.getD k zBk).ps.set u p, (ks.getD k zBk).wn⟩)) := by
  have hkb : k < ks.length := by omega
  have hgd : ks.getD k zBk = ks[k] := by rw [List.getD_eq_getElem?_getD, List.getElem?_eq_getElem hkb]; rfl
  rw [hgd]
  have hb4 := hF.at k hkb
  have r2 := sub_fs hF h k hkb
  have rp := range_bk r2
  have cw := worn_bk hb4 r2
  have tk : w.there kb (k * 21 + u * 5) 5 := by have := there_sub ht (k * 21 + u * 5) 5 (by omega); rwa [Nat.zero_add] at this
  have rp' := range_set pgC 5 (fun _ _ => rfl) u (by omega) p rfl rp tk
  refine range_set' bkC 21 (fun x hx => len_bkC x (hF x hx)) k hkb ⟨ks[k].ps.set u p, ks[k].wn⟩ (len_bkC _ (by simp [hb4])) h ?_ (fun o' cs hr hc => World.rangeAt_setCells_apart hr _ _ _ (.inr (by rw [len_pgC]; omega)))
  rw [Nat.zero_add]
  show (w.setCells kb (k * 21 + u * 5) (pgC p)).rangeAt kb (k * 21) (psC (ks[k].ps.set u p) ++ [.int .i64 ks[k].wn])
  rw [range_app]
  refine ⟨rp', ?_⟩
  rw [len_psC, List.length_set, hb4]
  intro j v hv
  have hj : j = 0 := by
    have := (List.getElem?_eq_some_iff.1 hv).1
    simp at this; exact this
  subst hj
  simp at hv
  subst hv
  rw [cell_setCells_ne (.inr (.inr (by rw [len_pgC]; omega)))]
  exact cw

def wrK (ks : List Bk) (k : Nat) (rk rs ra rv : Int) (torn : Bool) : List Bk := if wrN ks k rs then ks else wrL ks k (pgW torn rk rs ra rv)
theorem wrK_len {ks : List Bk} (h4 : ks.length = 4) (k : Nat) (rk rs ra rv : Int) (torn : Bool) : (wrK ks k rk rs ra rv torn).length = 4 := by
  unfold wrK; split
  · exact h4
  · rw [wrL_len]; exact h4
theorem wrK_fours {ks : List Bk} (h4 : ks.length = 4) (hF : Fours ks) (k : Nat) (hk : k < 4) (rk rs ra rv : Int) (torn : Bool) : Fours (wrK ks k rk rs ra rv torn) := by
  unfold wrK; split
  · exact hF
  · exact wrL_fours hF (by omega)

set_option maxRecDepth 100000 in
set_option maxHeartbeats 4000000 in
theorem writeK_any (ks : List Bk) (hk4 : ks.length = 4) (hkF : Fours ks) (k : Nat) (hk : k < 4) (rk rs ra rv : Int) (torn : Bool) (w : World) :
    Calls Tryz.prog 145 #[.agg (fsC ks).toArray, .int .i64 (k : Nat), .agg #[.int .i64 rk, .int .i64 rs, .int .i64 ra, .int .i64 rv], .bool torn] w fun e w' => KpPost w (wrK ks k rk rs ra rv torn) (!wrN ks k rs) e w' := by
  obtain ⟨zf, hz, hz84⟩ := zrow
  have HZ := hide hz
  clear hz
  have K3 := World.rangeAt_alloc (World.rangeAt_alloc (rangeAt_new w (fsC ks) 73) (.cells #[.int .i64 rk, .int .i64 rs, .int .i64 ra, .int .i64 rv] 36)) (.cells zf 73)
  have T3 := World.there_alloc (World.there_alloc (there_new w (fsC ks) 73) (.cells #[.int .i64 rk, .int .i64 rs, .int .i64 ra, .int .i64 rv] 36)) (.cells zf 73)
  rw [len_fsC _ hkF, hk4] at T3
  have R3 := World.rangeAt_alloc (rangeAt_new (w.alloc (.cells (fsC ks).toArray 73)) [.int .i64 rk, .int .i64 rs, .int .i64 ra, .int .i64 rv] 36) (.cells zf 73)
  rw [World.size_alloc] at R3
  have V3 := there_new ((w.alloc (.cells (fsC ks).toArray 73)).alloc (.cells #[.int .i64 rk, .int .i64 rs, .int .i64 ra, .int .i64 rv] 36)) zf.toList 73
  rw [Array.toArray_toList, Array.length_toList, hz84, World.size_alloc, World.size_alloc] at V3
  have B3 : Below w.heap.size w (((w.alloc (.cells (fsC ks).toArray 73)).alloc (.cells #[.int .i64 rk, .int .i64 rs, .int .i64 ra, .int .i64 rv] 36)).alloc (.cells zf 73)) := (((Below.refl _ _).alloc (Nat.le_refl _) _).alloc (by simp) _).alloc (by simp; omega) _
  have s3 : w.heap.size + 2 < (((w.alloc (.cells (fsC ks).toArray 73)).alloc (.cells #[.int .i64 rk, .int .i64 rs, .int .i64 ra, .int .i64 rv] 36)).alloc (.cells zf 73)).heap.size := by simp
  have hkb : k < ks.length := by omega
  have hb4 : ks[k].ps.length = 4 := hkF.at k hkb
  have hgd : ks.getD k zBk = ks[k] := by rw [List.getD_eq_getElem?_getD, List.getElem?_eq_getElem hkb]; rfl
  have HR0 : Hid (wrK ks k rk rs ra rv torn = if wrN ks k rs then ks else wrL ks k (pgW torn rk rs ra rv)) := rfl
  have HN : Hid (wrN ks k rs = (usedN ks[k].ps == 4 || hasB ks rs)) := by show _ = _; unfold wrN; rw [hgd]
  have HWL : Hid (∀ p, wrL ks k p = ks.set k ⟨(ks.getD k zBk).ps.set (usedN ks[k].ps) p, (ks.getD k zBk).wn⟩) := fun p => by unfold wrL; rw [hgd]
  clear hgd
  have hlo : (0 : Int) ≤ (k : Int) := by omega
  have hhi : (k : Int) < 4 := by omega
  have k2 := sub_fs hkF K3 k hkb
  have HU := hide (used_any ks[k] hb4)
  have hu := usedN_le ks[k].ps
  have HBL := hide (size_bkl hb4)
  generalize wrK ks k rk rs ra rv torn = Rs at *
  generalize bkC ks[k] = bcs at *
  generalize usedN ks[k].ps = u at *
  rw [hb4] at hu
  have hui : (u : Int) ≤ 4 := by omega
  go_enter Tryz.func145, Tryz.ntmps145
  go_wp2_with (first | (refine wpList_box_big rfl 73 _ rfl (fsC ks).toArray rfl ?_) | (refine wpList_alloc_big rfl 73 rfl zf (unhide HZ) ?_) | (refine wpList_load_mid rfl 71 _ rfl w.heap.size (k * 21) rfl bcs _ k2 Tryz.underlying71 rfl (unhide HBL) ?_))
  generalize ((w.alloc (.cells (fsC ks).toArray 73)).alloc (.cells #[.int .i64 rk, .int .i64 rs, .int .i64 ra, .int .i64 rv] 36)).alloc (.cells zf 73) = w3 at *
  refine (unhide HU _).mono ?_
  rintro e w4 ⟨rfl, b4⟩
  have B4 := B3.trans (b4.mono B3.size)
  have K4 := rangeAt_below K3 b4 (by omega)
  have T4 := there_below T3 b4 (by omega)
  have R4 := rangeAt_below R3 b4 (by omega)
  have V4 := there_below V3 b4 (by omega)
  have s4 := Nat.lt_of_lt_of_le s3 b4.size
  clear b4 B3 K3 T3 R3 V3 s3 k2 HU HBL
  by_cases hz : u = 4
  · subst hz
    have HNT : Hid (wrN ks k rs = true) := by show _ = _; rw [unhide HN]; rfl
    have HR : Hid (Rs = ks) := by show _ = _; rw [unhide HR0, unhide HNT]; rfl
    clear HR0 HN HWL T4 R4
    have h4s : ks.length = 4 := hk4
    have hFs : Fours ks := hkF
    have HZ8 := hide (size_fsl hFs h4s)
    have tz : w4.there (w.heap.size + 2) 0 (fsC ks).toArray.size := by rw [show (fsC ks).toArray.size = 84 by rw [List.size_toArray, len_fsC _ hFs, h4s]]; exact V4
    have pz := World.rangeAt_setCells_same w4 (w.heap.size + 2) 0 (fsC ks) tz
    have Bz := below_setCells (w.heap.size + 2) (show w.heap.size ≤ w.heap.size + 2 by omega) (fsC ks) 0 _ B4
    go_wp2_with (first | (refine wpList_load_mid rfl 73 _ rfl w.heap.size 0 rfl (fsC ks) _ K4 Tryz.underlying73 rfl (unhide HZ8) ?_) | (refine wpList_store_mid rfl 73 _ _ rfl (w.heap.size + 2) 0 (fsC ks).toArray rfl rfl tz (size_fsa hFs h4s) (one_fs ks) ?_) | (refine bodyPost_ret (res_cell_tmp Tryz.results145 _ _ (w.heap.size + 2) (fsC ks) _ rfl pz Tryz.underlying73 rfl (unhide HZ8)) rfl (unhide ?_)))
    exact hide ⟨by rw [unhide HR, unhide HNT]; rfl, Bz⟩
  have hu4 : u < 4 := by omega
  have hz' : ((u : Int) == 4) = false := by simp; omega
  have HH := hide (has_any ks rs hk4 hkF)
  have HZ7 := hide (size_fsl hkF hk4)
  have e1 := R4 1 _ rfl
  simp only [Nat.zero_add] at e1
  cases hh : hasB ks rs
  rotate_left
  · have HNT : Hid (wrN ks k rs = true) := by show _ = _; rw [unhide HN, hh, Bool.or_true]
    have HR : Hid (Rs = ks) := by show _ = _; rw [unhide HR0, unhide HNT]; rfl
    rw [show (seqs ks).contains rs = true from hh] at HH
    clear HR0 HN HWL T4 R4 hh hz
    go_wp2_with (first | (refine wpList_load_want 73 _ rfl rfl w.heap.size 0 rfl (fsC ks) _ K4 Tryz.underlying73 rfl (unhide HZ7) ?_))
    refine (unhide HH _).mono ?_
    rintro e w5 ⟨rfl, b5⟩
    have B5 := B4.trans (b5.mono B4.size)
    have K5 := rangeAt_below K4 b5 (by omega)
    have V5 := there_below V4 b5 (by omega)
    clear b5 B4 K4 V4 e1
    have h4s : ks.length = 4 := hk4
    have hFs : Fours ks := hkF
    have HZ8 := hide (size_fsl hFs h4s)
    have tz : w5.there (w.heap.size + 2) 0 (fsC ks).toArray.size := by rw [show (fsC ks).toArray.size = 84 by rw [List.size_toArray, len_fsC _ hFs, h4s]]; exact V5
    have pz := World.rangeAt_setCells_same w5 (w.heap.size + 2) 0 (fsC ks) tz
    have Bz := below_setCells (w.heap.size + 2) (show w.heap.size ≤ w.heap.size + 2 by omega) (fsC ks) 0 _ B5
    go_wp2_with (first | (refine wpList_load_mid rfl 73 _ rfl w.heap.size 0 rfl (fsC ks) _ K5 Tryz.underlying73 rfl (unhide HZ8) ?_) | (refine wpList_store_mid rfl 73 _ _ rfl (w.heap.size + 2) 0 (fsC ks).toArray rfl rfl tz (size_fsa hFs h4s) (one_fs ks) ?_) | (refine bodyPost_ret (res_cell_tmp Tryz.results145 _ _ (w.heap.size + 2) (fsC ks) _ rfl pz Tryz.underlying73 rfl (unhide HZ8)) rfl (unhide ?_)))
    exact hide ⟨by rw [unhide HR, unhide HNT]; rfl, Bz⟩
  have HNT : Hid (wrN ks k rs = false) := by show _ = _; rw [unhide HN, hh, Bool.or_false]; simpa using hz
  have HR : Hid (Rs = wrL ks k (pgW torn rk rs ra rv)) := by show _ = _; rw [unhide HR0, unhide HNT]; rfl
  rw [show (seqs ks).contains rs = false from hh] at HH
  clear HR0 HN hh hz
  go_wp2_with (first | (refine wpList_load_want 73 _ rfl rfl w.heap.size 0 rfl (fsC ks) _ K4 Tryz.underlying73 rfl (unhide HZ7) ?_))
  refine (unhide HH _).mono ?_
  rintro e w5 ⟨rfl, b5⟩
  have B5 := (B4.trans (b5.mono B4.size)).drew
  have K5 : w5.drew.rangeAt w.heap.size 0 (fsC ks) := by simpa using rangeAt_below K4 b5 (by omega)
  have T5 : w5.drew.there w.heap.size 0 84 := (World.there_drew _ _ _ _).2 (there_below T4 b5 (by omega))
  have V5 : w5.drew.there (w.heap.size + 2) 0 84 := (World.there_drew _ _ _ _).2 (there_below V4 b5 (by omega))
  have R5 : w5.drew.rangeAt (w.heap.size + 1) 0 [.int .i64 rk, .int .i64 rs, .int .i64 ra, .int .i64 rv] := by simpa using rangeAt_below R4 b5 (by omega)
  have s5 : w.heap.size + 2 < w5.drew.heap.size := by simpa using Nat.lt_of_lt_of_le s4 b5.size
  clear b5 B4 K4 T4 R4 V4 s4 e1 HH
  have hu0 : (0 : Int) ≤ (u : Int) := by omega
  have hu5 : (u : Int) < 4 := by omega
  have SP := hide (store_page hkF hk4 K5 T5 k hk u hu4 ⟨1, rk, rs, ra, rv⟩)
  rw [← unhide HWL] at SP
  have tk5 : w5.drew.there w.heap.size (k * 21 + u * 5) (pgC ⟨1, rk, rs, ra, rv⟩).toArray.size := by have := there_sub T5 (k * 21 + u * 5) 5 (by omega); rw [Nat.zero_add] at this; exact this
  have HI5 := hide (size_pga ⟨1, rk, rs, ra, rv⟩)
  have o5 := one_pg ⟨1, rk, rs, ra, rv⟩
  have HGW := hide (wrL_fours hkF hkb (p := ⟨1, rk, rs, ra, rv⟩))
  go_wp2_with fail
  refine wp_region_noPanic ?_
  refine wp_region_held_drew (S := fun w' => w'.rangeAt (w.heap.size + 1) 0 [.int .i64 rk, .int .i64 rs, .int .i64 ra, .int .i64 rv]) (by kernel_rfl) (R5) (fun hHeld => ?_)
  refine takeL 0 (.int .i64 k) rfl (by kernel_rfl) (by kernel_rfl) (by kernel_rfl) (fun _ _ _ h => h) (Or.inl ⟨rfl, fun _ _ => rfl⟩) hHeld ?_
  try simp only [Act.put, List.setIfInBounds_toArray, List.set_cons_zero, List.set_cons_succ]
  refine takeL 1 (.int .i64 (u : Int)) rfl (by kernel_rfl) (by kernel_rfl) (by kernel_rfl) (fun _ _ _ h => h) (Or.inl ⟨rfl, fun _ _ => rfl⟩) hHeld ?_
  try simp only [Act.put, List.setIfInBounds_toArray, List.set_cons_zero, List.set_cons_succ]
  refine takeL 2 (.agg #[.int .i64 rk, .int .i64 rs, .int .i64 ra, .int .i64 rv]) rfl (by kernel_rfl) (by kernel_rfl) (by kernel_rfl) (fun _ _ _ h => h) (yieldsIf_load_mid rfl 36 _ rfl (w.heap.size + 1) 0 rfl [.int .i64 rk, .int .i64 rs, .int .i64 ra, .int .i64 rv] _ (fun _ h => h) Tryz.underlying36 rfl (by kernel_rfl)) hHeld ?_
  try simp only [Act.put, List.setIfInBounds_toArray, List.set_cons_zero, List.set_cons_succ]
  refine takeL 3 (.agg #[.int .i64 1, .int .i64 rk, .int .i64 rs, .int .i64 ra, .int .i64 rv]) rfl (by kernel_rfl) (by kernel_rfl) (by kernel_rfl) (fun _ _ _ h => h) (Or.inl ⟨rfl, fun w9 hSw => by go_simp⟩) hHeld ?_
  try simp only [Act.put, List.setIfInBounds_toArray, List.set_cons_zero, List.set_cons_succ]
  refine takeL 4 (.pointer (some ⟨w.heap.size, k * 21, none⟩)) rfl (by kernel_rfl) (by kernel_rfl) (by kernel_rfl) (fun _ _ _ h => h) (Or.inl ⟨rfl, fun w9 hSw => by go_simp⟩) hHeld ?_
  try simp only [Act.put, List.setIfInBounds_toArray, List.set_cons_zero, List.set_cons_succ]
  refine takeL 5 (.pointer (some ⟨w.heap.size, k * 21, none⟩)) rfl (by kernel_rfl) (by kernel_rfl) (by kernel_rfl) (fun _ _ _ h => h) (Or.inl ⟨rfl, fun w9 hSw => by go_simp⟩) hHeld ?_
  try simp only [Act.put, List.setIfInBounds_toArray, List.set_cons_zero, List.set_cons_succ]
  refine takeL 6 (.pointer (some ⟨w.heap.size, k * 21, none⟩)) rfl (by kernel_rfl) (by kernel_rfl) (by kernel_rfl) (fun _ _ _ h => h) (Or.inl ⟨rfl, fun w9 hSw => by go_simp⟩) hHeld ?_
  try simp only [Act.put, List.setIfInBounds_toArray, List.set_cons_zero, List.set_cons_succ]
  refine takeL 7 (.pointer (some ⟨w.heap.size, k * 21 + u * 5, none⟩)) rfl (by kernel_rfl) (by kernel_rfl) (by kernel_rfl) (fun _ _ _ h => h) (Or.inl ⟨rfl, fun w9 hSw => by go_simp⟩) hHeld ?_
  try simp only [Act.put, List.setIfInBounds_toArray, List.set_cons_zero, List.set_cons_succ]
  refine oneL 8 rfl (by kernel_rfl) rfl (fun K hK => ?_)
  refine wp_store_mid 66 _ _ rfl w.heap.size (k * 21 + u * 5) (pgC ⟨1, rk, rs, ra, rv⟩).toArray rfl rfl tk5 (unhide HI5) o5 ?_
  refine hK.out _ _ (World.rangeAt_setCells_apart hHeld _ _ _ (.inl (by omega))) (fun hHeld => ?_)
  clear hK K
  try simp only [Act.put, List.setIfInBounds_toArray, List.set_cons_zero, List.set_cons_succ]
  refine wpAnyH_done (by kernel_rfl) ?_ _
  refine NoPanic.normal ?_
  have BS := below_setCells w.heap.size (Nat.le_refl _) (pgC ⟨1, rk, rs, ra, rv⟩) (k * 21 + u * 5) _ B5
  have TS := World.there_setCells T5 w.heap.size (k * 21 + u * 5) (pgC ⟨1, rk, rs, ra, rv⟩)
  have VS := World.there_setCells V5 w.heap.size (k * 21 + u * 5) (pgC ⟨1, rk, rs, ra, rv⟩)
  clear B5 T5 K5 R5 V5 hHeld tk5 HI5 o5
  generalize w5.drew.setCells w.heap.size (k * 21 + u * 5) (pgC ⟨1, rk, rs, ra, rv⟩) = w6 at *
  cases torn
  · have HW1 : Hid (pgW false rk rs ra rv = ⟨1, rk, rs, ra, rv⟩) := rfl
    rw [unhide HW1] at HR
    clear HW1 HWL TS
    have hL4 : (wrL ks k ⟨1, rk, rs, ra, rv⟩).length = 4 := by rw [wrL_len]; exact hk4
    generalize wrL ks k ⟨1, rk, rs, ra, rv⟩ = L1 at *
    have RS := unhide SP
    clear SP
    have h4s : L1.length = 4 := hL4
    have hFs : Fours L1 := unhide HGW
    have HZ8 := hide (size_fsl hFs h4s)
    have tz : w6.there (w.heap.size + 2) 0 (fsC L1).toArray.size := by rw [show (fsC L1).toArray.size = 84 by rw [List.size_toArray, len_fsC _ hFs, h4s]]; exact VS
    have pz := World.rangeAt_setCells_same w6 (w.heap.size + 2) 0 (fsC L1) tz
    have Bz := below_setCells (w.heap.size + 2) (show w.heap.size ≤ w.heap.size + 2 by omega) (fsC L1) 0 _ BS
    clear HGW VS BS
    go_wp2_with (first | (refine wpList_load_mid rfl 73 _ rfl w.heap.size 0 rfl (fsC L1) _ RS Tryz.underlying73 rfl (unhide HZ8) ?_) | (refine wpList_store_mid rfl 73 _ _ rfl (w.heap.size + 2) 0 (fsC L1).toArray rfl rfl tz (size_fsa hFs h4s) (one_fs L1) ?_) | (refine bodyPost_ret (res_cell_tmp Tryz.results145 _ _ (w.heap.size + 2) (fsC L1) _ rfl pz Tryz.underlying73 rfl (unhide HZ8)) rfl (unhide ?_)))
    exact hide ⟨by rw [unhide HR, unhide HNT]; rfl, Bz⟩
  · have HW1 : Hid (pgW true rk rs ra rv = ⟨2, 0, 0, 0, 0⟩) := rfl
    rw [unhide HW1] at HR
    have SP2 := hide (store_page (unhide HGW) (by rw [wrL_len]; exact hk4) (unhide SP) TS k hk u hu4 ⟨2, 0, 0, 0, 0⟩)
    have HE : Hid ((wrL ks k ⟨1, rk, rs, ra, rv⟩).set k ⟨((wrL ks k ⟨1, rk, rs, ra, rv⟩).getD k zBk).ps.set u ⟨2, 0, 0, 0, 0⟩, ((wrL ks k ⟨1, rk, rs, ra, rv⟩).getD k zBk).wn⟩ = wrL ks k ⟨2, 0, 0, 0, 0⟩) := by
      show _ = _
      rw [unhide HWL, unhide HWL]
      have hg2 : ∀ b : Bk, (ks.set k b).getD k zBk = b := fun b => by rw [List.getD_eq_getElem?_getD, List.getElem?_set_self hkb]; rfl
      rw [hg2]
      simp only [List.set_set]
    rw [unhide HE] at SP2
    have HGW2 := hide (wrL_fours hkF hkb (p := ⟨2, 0, 0, 0, 0⟩))
    have HSC : Hid (w6.setCells w.heap.size (k * 21 + u * 5) (pgC ⟨2, 0, 0, 0, 0⟩) = ((((w6.setCell ⟨w.heap.size, k * 21 + u * 5, none⟩ (.int .i64 2)).setCell ⟨w.heap.size, k * 21 + u * 5 + 1, none⟩ (.int .i64 0)).setCell ⟨w.heap.size, k * 21 + u * 5 + 2, none⟩ (.int .i64 0)).setCell ⟨w.heap.size, k * 21 + u * 5 + 3, none⟩ (.int .i64 0)).setCell ⟨w.heap.size, k * 21 + u * 5 + 4, none⟩ (.int .i64 0)) := rfl
    have B9 := hide (below_setCells w.heap.size (Nat.le_refl _) (pgC ⟨2, 0, 0, 0, 0⟩) (k * 21 + u * 5) _ BS)
    have V9 := hide (World.there_setCells VS w.heap.size (k * 21 + u * 5) (pgC ⟨2, 0, 0, 0, 0⟩))
    rw [unhide HSC] at SP2 B9 V9
    have T0 := there_sub TS (k * 21 + u * 5) 5 (by omega)
    rw [Nat.zero_add] at T0
    obtain ⟨v0, x0⟩ := Option.isSome_iff_exists.1 (T0 0 (by omega)).1
    obtain ⟨v1, x1⟩ := Option.isSome_iff_exists.1 (T0 1 (by omega)).1
    obtain ⟨v2, x2⟩ := Option.isSome_iff_exists.1 (T0 2 (by omega)).1
    obtain ⟨v3, x3⟩ := Option.isSome_iff_exists.1 (T0 3 (by omega)).1
    obtain ⟨v4, x4⟩ := Option.isSome_iff_exists.1 (T0 4 (by omega)).1
    have f0 := (T0 0 (by omega)).2
    have f1 := (T0 1 (by omega)).2
    have f2 := (T0 2 (by omega)).2
    have f3 := (T0 3 (by omega)).2
    have f4 := (T0 4 (by omega)).2
    simp only [Nat.add_zero] at x0 f0
    have hL4 : (wrL ks k ⟨2, 0, 0, 0, 0⟩).length = 4 := by rw [wrL_len]; exact hk4
    clear HW1 HWL TS SP HE HSC T0 BS HGW VS
    generalize wrL ks k ⟨2, 0, 0, 0, 0⟩ = L1 at *
    go_upto_region 7 with fail
    refine wp_world (φ := fun w' => w'.rangeAt w.heap.size 0 (fsC L1) ∧ Below w.heap.size w w' ∧ w'.there (w.heap.size + 2) 0 84) ⟨unhide SP2, unhide B9, unhide V9⟩ ?_
    clear B9 SP2 V9 x0 x1 x2 x3 x4 f0 f1 f2 f3 f4
    rintro w8 ⟨RS, BS, VS⟩
    have h4s : L1.length = 4 := hL4
    have hFs : Fours L1 := unhide HGW2
    have HZ8 := hide (size_fsl hFs h4s)
    have tz : w8.there (w.heap.size + 2) 0 (fsC L1).toArray.size := by rw [show (fsC L1).toArray.size = 84 by rw [List.size_toArray, len_fsC _ hFs, h4s]]; exact VS
    have pz := World.rangeAt_setCells_same w8 (w.heap.size + 2) 0 (fsC L1) tz
    have Bz := below_setCells (w.heap.size + 2) (show w.heap.size ≤ w.heap.size + 2 by omega) (fsC L1) 0 _ BS
    clear HGW2 VS BS
    go_wp2_with (first | (refine wpList_load_mid rfl 73 _ rfl w.heap.size 0 rfl (fsC L1) _ RS Tryz.underlying73 rfl (unhide HZ8) ?_) | (refine wpList_store_mid rfl 73 _ _ rfl (w.heap.size + 2) 0 (fsC L1).toArray rfl rfl tz (size_fsa hFs h4s) (one_fs L1) ?_) | (refine bodyPost_ret (res_cell_tmp Tryz.results145 _ _ (w.heap.size + 2) (fsC L1) _ rfl pz Tryz.underlying73 rfl (unhide HZ8)) rfl (unhide ?_)))
    exact hide ⟨by rw [unhide HR, unhide HNT]; rfl, Bz⟩

theorem here : True := trivial
end Go.Proofs.YtbiokmojjneleaaGreat.ImplX

/-
  Stores in memory, and the specification's reading of them.
-/
namespace Go.Proofs.YtbiokmojjneleaaGreat.StA
open Go.ChangeShapes Go.WideShapes Go.ChangeAt Go.RowKit Go.Shelf OkA Big Fl ImplB ImplF ImplS _root_.Go.Proofs.YtbiokmojjneleaaGreat.Own ImplT ImplU SpecA SpecB SpecC SpecD SpecW SpecF SpecG SpecH Ok2 Pl FindP SpecX ImplL FindN FindL FindV Kp
set_option linter.unusedVariables false
set_option linter.unusedSimpArgs false
attribute [local go_sem ↓] Go.wp_at_zero Go.wp_at_succ

/-- Numbers as cells. -/
def isC (l : List Int) : List Value := l.map (.int .i64)
theorem len_isC (l : List Int) : (isC l).length = l.length := by simp [isC]
theorem isC_at {w : World} {b o : Nat} {l : List Int} (h : w.rangeAt b o (isC l)) (j : Nat) (hj : j < l.length) : w.cell? ⟨b, o + j, none⟩ = some (.int .i64 (l.getD j 0)) := by
  refine h j _ ?_
  simp [isC, hj]

/-- The blocks of a list of four lie at a place: the cells of its slices, in any later world. -/
theorem store_box (w : World) (x y : Value) : CsAt (w.alloc (.cells #[x, y] 26)) w.heap.size [x, y] := CsAt.new w [x, y] 26

set_option maxRecDepth 100000 in
set_option maxHeartbeats 1000000 in
theorem dirty_any (a : Option Addr) (cap : Nat) (dv : Value) (addr : Int) (bs : List Bk) (w : World) (hf : FsAt w a bs) (hm : bs.length ≤ 1048576) (hp : ∀ b ∈ bs, b.ps.length ≤ 1048576) :
    Calls Tryz.prog 127 #[.agg #[.slice a bs.length cap, dv], .int .i64 addr] w fun e w' => e = .returned (.bool (dirtyB bs addr)) ∧ Below w.heap.size w w' := by
  have B0 : Below w.heap.size w (w.alloc (.cells #[.slice a bs.length cap, dv] 26)) := (Below.refl _ _).alloc (Nat.le_refl _) _
  have HLA := hide (SpecL.last_any a cap bs addr _ (hf.below B0) hm hp)
  have HD : Hid (dirtyB bs addr = (lastO bs addr && (lastR bs addr).k == 1)) := rfl
  clear hf
  generalize dirtyB bs addr = R at *
  go_enter Tryz.func127, Tryz.ntmps127
  go_wp2_with fail
  refine (unhide HLA).mono ?_
  rintro e w1 ⟨rfl, b1⟩
  generalize lastO bs addr = o at *
  generalize lastR bs addr = r at *
  have B1 := (B0.trans (b1.mono B0.size)).alloc (B0.trans (b1.mono B0.size)).size (.cells #[.int .i64 r.k, .int .i64 r.s, .int .i64 r.a, .int .i64 r.v] 36)
  rw [show (rcC r).toArray = #[.int .i64 r.k, .int .i64 r.s, .int .i64 r.a, .int .i64 r.v] from rfl]
  clear HLA b1 B0
  cases o
  · go_wp2
    go_ret
    exact ⟨by rw [unhide HD]; rfl, B1⟩
  · go_wp2
    go_ret
    exact ⟨by rw [unhide HD]; rfl, B1⟩

set_option maxRecDepth 100000 in
set_option maxHeartbeats 1000000 in
theorem read_any (a : Option Addr) (cap db dof dcap : Nat) (dk : List Int) (h6 : dk.length = 6) (addr : Int) (ha0 : 1 ≤ addr) (ha6 : addr ≤ 6) (bs : List Bk) (w : World) (hf : FsAt w a bs) (hd : w.rangeAt db dof (isC dk)) (hm : bs.length ≤ 1048576) (hp : ∀ b ∈ bs, b.ps.length ≤ 1048576) :
    Calls Tryz.prog 128 #[.agg #[.slice a bs.length cap, .slice (some ⟨db, dof, none⟩) 6 dcap], .int .i64 addr] w fun e w' => e = .returned (.int .i64 (readI bs dk addr)) ∧ Below w.heap.size w w' := by
  have B0 : Below w.heap.size w (w.alloc (.cells #[.slice a bs.length cap, .slice (some ⟨db, dof, none⟩) 6 dcap] 26)) := (Below.refl _ _).alloc (Nat.le_refl _) _
  have HLA := hide (SpecL.last_any a cap bs addr _ (hf.below B0) hm hp)
  have HD : Hid (readI bs dk addr = if lastO bs addr then (lastR bs addr).v else dk.getD (addr - 1).toNat 0) := rfl
  have hdl : db < w.heap.size := cell_lt (isC_at hd 0 (by omega))
  have cS := store_box w (.slice a bs.length cap) (.slice (some ⟨db, dof, none⟩) 6 dcap)
  have hs0 : w.heap.size < (w.alloc (.cells #[.slice a bs.length cap, .slice (some ⟨db, dof, none⟩) 6 dcap] 26)).heap.size := by simp
  obtain ⟨n, rfl⟩ : ∃ n : Nat, addr = (n : Int) + 1 := ⟨(addr - 1).toNat, by omega⟩
  have hn6 : n < 6 := by omega
  have e1 : ((n : Int) + 1 - 1).toNat = n := by omega
  rw [e1] at HD
  have dn := isC_at hd n (by omega)
  clear hf hd
  generalize readI bs dk ((n : Int) + 1) = R at *
  go_enter Tryz.func128, Tryz.ntmps128
  go_wp2_with fail
  refine (unhide HLA).mono ?_
  rintro e w1 ⟨rfl, b1⟩
  generalize lastO bs ((n : Int) + 1) = o at *
  generalize lastR bs ((n : Int) + 1) = r at *
  generalize dk.getD n 0 = v at *
  rw [show (rcC r).toArray = #[.int .i64 r.k, .int .i64 r.s, .int .i64 r.a, .int .i64 r.v] from rfl]
  have B1 := B0.trans (b1.mono B0.size)
  have B2 := B1.alloc B1.size (.cells #[.int .i64 r.k, .int .i64 r.s, .int .i64 r.a, .int .i64 r.v] 36)
  have cS2 := (cS.below b1 hs0).alloc (Nat.lt_of_lt_of_le hs0 b1.size) (.cells #[.int .i64 r.k, .int .i64 r.s, .int .i64 r.a, .int .i64 r.v] 36)
  have x1 := cS2.cell 1 _ rfl
  rw [← B2.cell (p := ⟨db, dof + n, none⟩) hdl] at dn
  have hn0 : (0 : Int) ≤ (n : Int) := by omega
  have hnl : (n : Int) < 6 := by omega
  clear HLA b1 B0 B1 cS
  cases o
  · have e2 : ((n : Int) + 1 - 1) = (n : Int) := by omega
    go_wp2
    go_ret
    exact ⟨by rw [unhide HD]; rfl, B2⟩
  · go_wp2
    go_ret
    exact ⟨by rw [unhide HD]; rfl, B2⟩
end Go.Proofs.YtbiokmojjneleaaGreat.StA

/-
  A map from addresses to records that a call has made: what is asked of it, what is laid into it. Nothing here walks the program.
-/
namespace Go.Proofs.YtbiokmojjneleaaGreat.MpA
open Go.ChangeShapes Go.WideShapes Go.ChangeAt Go.RowKit Go.Shelf OkA Big Fl Pl ImplL FindL Kp
open Go.Maps (Keyed)
set_option linter.unusedVariables false
set_option linter.unusedSimpArgs false

def recD (r : Rc) : DataW Unit := .agg [.lit (.int .i64 r.k), .lit (.int .i64 r.s), .lit (.int .i64 r.a), .lit (.int .i64 r.v)]
theorem recD_inj {r q : Rc} (h : recD r = recD q) : r = q := by
  cases r; cases q
  simp [recD] at h
  obtain ⟨rfl, rfl, rfl, rfl⟩ := h
  rfl
/-- How a record reads. -/
def recR (v : Value) : Option (DataW Unit × List MemPlace) :=
  match v with
  | .agg cs => match cs.toList with
    | [.int .i64 k, .int .i64 s, .int .i64 a, .int .i64 v] => some (recD ⟨k, s, a, v⟩, [])
    | _ => none
  | _ => none
theorem recR_mk (r : Rc) : recR (.agg (rcC r).toArray) = some (recD r, []) := rfl
theorem recR_inv {v : Value} {r : Rc} {ps : List MemPlace} (h : recR v = some (recD r, ps)) : v = .agg (rcC r).toArray := by
  unfold recR at h
  split at h
  · rename_i cs
    split at h
    · rename_i k s a v e
      simp only [Option.some.injEq, Prod.mk.injEq] at h
      obtain rfl := recD_inj h.1
      have : cs = (rcC ⟨k, s, a, v⟩).toArray := by apply Array.ext'; rw [e]; rfl
      rw [this]
    · cases h
  · cases h
theorem law : Keyed Tryz.prog 3 := Maps.int_keyed Tryz.underlying3
theorem key {i : Int} (h0 : -9223372036854775808 ≤ i) (h1 : i ≤ 9223372036854775807) : keyOf Tryz.prog 3 (.int .i64 i) = some (.int .i64 i) := Maps.keyOf_int_mk Tryz.underlying3 (by simp [Lit.wf, IntKind.min, IntKind.max, IntKind.bits, IntKind.signed]; omega)
theorem zeroR (w : World) : (zeroValue 36).run Tryz.prog w = .ok (.agg (rcC zRc).toArray) w := by
  have h : (Tryz.prog.info? 36).bind (·.zero) = some (.agg (rcC zRc).toArray) := by kernel_rfl
  cases hq : Tryz.prog.info? 36 with
  | none => rw [hq] at h; cases h
  | some i => rw [hq] at h; simp at h; simp [zeroValue, typeInfo, hq, h]

/-- Block b is a map of at most n records, which has f of each address. -/
def MapAt (w : World) (b n : Nat) (f : Int → Option Rc) : Prop :=
  ∃ D : DataW Unit, w.ownsMap Tryz.prog 3 recR b n D ∧ ∀ i : Int, Maps.has D (.int .i64 i) = (f i).isSome ∧ D.atKey (.int .i64 i) (recD zRc) = recD ((f i).getD zRc)
variable {w w' : World} {b n : Nat} {f : Int → Option Rc}
theorem MapAt.new (w : World) : MapAt (w.alloc (.map #[] 0)) w.heap.size 0 (fun _ => none) := ⟨_, World.ownsMap_made w _ _ _, fun i => ⟨rfl, rfl⟩⟩
theorem MapAt.mono (h : MapAt w b n f) {m : Nat} (hm : n ≤ m) : MapAt w b m f := by obtain ⟨D, h1, h2⟩ := h; exact ⟨D, h1.mono hm, h2⟩
theorem MapAt.ext (h : MapAt w b n f) {g : Int → Option Rc} (hg : ∀ i, g i = f i) : MapAt w b n g := by obtain ⟨D, h1, h2⟩ := h; exact ⟨D, h1, fun i => by rw [hg i]; exact h2 i⟩
theorem MapAt.lt (h : MapAt w b n f) : b < w.heap.size := by obtain ⟨D, h1, h2⟩ := h; exact h1.lt
theorem MapAt.below (h : MapAt w b n f) {B : Nat} (hb : Below B w w') (hl : b < B) : MapAt w' b n f := by
  obtain ⟨D, ⟨es, clock, hh, r⟩, h2⟩ := h
  exact ⟨D, ⟨es, clock, (hb.block b hl).trans hh, r⟩, h2⟩
theorem MapAt.keptL {L : List Nat} (h : MapAt w b n f) (hk : Kept L w w') (hn : b ∉ L) : MapAt w' b n f := by
  have hl := h.lt
  obtain ⟨D, ⟨es, clock, hh, r⟩, h2⟩ := h
  exact ⟨D, ⟨es, clock, (hk.block b hl hn).trans hh, r⟩, h2⟩
theorem MapAt.look (h : MapAt w b n f) {i : Int} (h0 : -9223372036854775808 ≤ i) (h1 : i ≤ 9223372036854775807) :
    (Instr.lookup 74 (.map (some b)) (.int .i64 i) false).run Tryz.prog w = .ok (.agg (rcC ((f i).getD zRc)).toArray) w := by
  obtain ⟨D, ho, h2⟩ := h
  obtain ⟨v, ps, hr, hv⟩ := ho.lookup law Tryz.underlying74 (zeroR w) (recR_mk zRc) (key h0 h1)
  rw [(h2 i).2] at hv
  rw [hr, recR_inv hv]
theorem MapAt.look2 (h : MapAt w b n f) {i : Int} (h0 : -9223372036854775808 ≤ i) (h1 : i ≤ 9223372036854775807) :
    (Instr.lookup 74 (.map (some b)) (.int .i64 i) true).run Tryz.prog w = .ok (.tuple #[.agg (rcC ((f i).getD zRc)).toArray, .bool (f i).isSome]) w := by
  obtain ⟨D, ho, h2⟩ := h
  obtain ⟨v, ps, hr, hv⟩ := ho.look_ok law Tryz.underlying74 (zeroR w) (recR_mk zRc) (key h0 h1)
  rw [(h2 i).2] at hv
  rw [hr, recR_inv hv, (h2 i).1]
theorem MapAt.put (h : MapAt w b n f) (hn : n < 1000) {i : Int} (h0 : -9223372036854775808 ≤ i) (h1 : i ≤ 9223372036854775807) (r : Rc) :
    ∃ w', (Instr.mapUpdate 74 (.map (some b)) (.int .i64 i) (.agg (rcC r).toArray)).run Tryz.prog w = .ok () w' ∧ MapAt w' b (n + 1) (fun j => if j = i then some r else f j) ∧ w.grownBy w' (some b) := by
  obtain ⟨D, ho, h2⟩ := h
  have hm := ho.isMap
  obtain ⟨w', hr, ho', hg⟩ := ho.update law Tryz.underlying74 (by simp [maxLen]; omega) (key h0 h1) (recR_mk r)
  refine ⟨w', hr, ⟨_, ho', fun j => ?_⟩, hg⟩
  by_cases e : j = i
  · subst e
    simp only [if_true]
    exact ⟨by rw [Maps.has_put_same (k := .int .i64 j) hm trivial]; rfl, by rw [Maps.atKey_put_same (k := .int .i64 j) hm trivial]; rfl⟩
  · have hne : (Lit.int .i64 j) ≠ (.int .i64 i) := fun q => e (by cases q; rfl)
    simp only [if_neg e]
    exact ⟨by rw [Maps.has_put_other hne]; exact (h2 j).1, by rw [Maps.atKey_put_other hne]; exact (h2 j).2⟩
theorem below_grown {B : Nat} {u : World} (h : Below B u w) (hg : w.grownBy w' (some b)) (hs : B ≤ w.heap.size) (hb : B ≤ b) : Below B u w' := h.grown hg hs (fun k e => by cases e; exact hb)
end Go.Proofs.YtbiokmojjneleaaGreat.MpA
