/-
  The program's FlashWrite, for every list of blocks.
-/
import Derived.Test.YtkikeapfjpnkgaaBaI
import Derived.Test.YtkikeapfjpnkgaaImplW
import Derived.Deep.Cut
namespace Go.Proofs.Ytkikeapfjpnkgaa.ImplX
open Go.ChangeShapes Go.WideShapes Go.ChangeAt Go.RowKit OkA Big Fl ImplB ImplF ImplS _root_.Go.Proofs.Ytkikeapfjpnkgaa.Own ImplT ImplU SpecA SpecB SpecC SpecD SpecW SpecX SpecY ImplW
set_option linter.unusedVariables false
set_option linter.unusedSimpArgs false
attribute [local go_sem ↓] Go.wp_at_zero Go.wp_at_succ

theorem range_set' {α : Type} (f : α → List Value) (n : Nat) {w w' : World} {g o : Nat} {xs : List α} (hf : ∀ x ∈ xs, (f x).length = n) (k : Nat) (hk : k < xs.length) (y : α) (hy : (f y).length = n)
    (h : w.rangeAt g o (xs.flatMap f)) (hm : w'.rangeAt g (o + k * n) (f y)) (ho : ∀ o' cs, w.rangeAt g o' cs → (o' + cs.length ≤ o + k * n ∨ o + k * n + n ≤ o') → w'.rangeAt g o' cs) : w'.rangeAt g o ((xs.set k y).flatMap f) := by
  have e : xs = xs.take k ++ (xs[k] :: xs.drop (k + 1)) := by rw [← List.drop_eq_getElem_cons hk]; exact (List.take_append_drop k xs).symm
  have e2 : xs.set k y = xs.take k ++ (y :: xs.drop (k + 1)) := by rw [List.set_eq_take_append_cons_drop, if_pos hk]
  have hl : ((xs.take k).flatMap f).length = k * n := by
    have : ∀ l : List α, (∀ x ∈ l, (f x).length = n) → (l.flatMap f).length = l.length * n := by
      intro l; induction l with
      | nil => simp
      | cons x r ih => intro hh; simp only [List.flatMap_cons, List.length_append, ih (fun z hz => hh z (by simp [hz])), hh x (by simp), List.length_cons, Nat.add_mul]; omega
    rw [this _ (fun x hx => hf x (List.mem_of_mem_take hx)), List.length_take, Nat.min_eq_left (by omega)]
  have h' : w.rangeAt g o ((xs.take k).flatMap f ++ (f xs[k] ++ (xs.drop (k + 1)).flatMap f)) := by
    have q := h
    rw [e] at q
    simpa only [List.flatMap_append, List.flatMap_cons] using q
  rw [e2]
  simp only [List.flatMap_append, List.flatMap_cons]
  rw [range_app, range_app, hl] at h' ⊢
  have hxk : (f xs[k]).length = n := hf _ (List.getElem_mem hk)
  refine ⟨ho _ _ h'.1 (by rw [hl]; omega), hm, ?_⟩
  have h3 := h'.2.2
  rw [hxk] at h3
  rw [hy]
  exact ho _ _ h3 (.inr (Nat.le_refl _))
theorem wp_world {P : Program} {c : Code} {Q : Exit → Act → World → Prop} {a : Act} {w : World} {φ : World → Prop} (h : φ w) (k : ∀ w', φ w' → c.wp P Q a w') : c.wp P Q a w := k w h
/-- A page is laid over a page of kept blocks. -/
theorem store_page {w : World} {kb : Nat} {ks : List Bk} (hF : Fours ks) (h4 : ks.length = 4) (h : w.rangeAt kb 0 (fsC ks)) (ht : w.there kb 0 84) (k : Nat) (hk : k < 4) (u : Nat) (hu : u < 4) (p : Pg) :
    (w.setCells kb (k * 21 + u * 5) (pgC p)).rangeAt kb 0 (fsC (ks.set k ⟨(ks.getD k zBk).ps.set u p, (ks.getD k zBk).wn⟩)) := by
  have hkb : k < ks.length := by omega
  have hgd : ks.getD k zBk = ks[k] := by rw [List.getD_eq_getElem?_getD, List.getElem?_eq_getElem hkb]; rfl
  rw [hgd]
  have hb4 := hF.at k hkb
  have r2 := sub_fs hF h k hkb
  have rp := range_bk r2
  have cw := worn_bk hb4 r2
  have tk : w.there kb (k * 21 + u * 5) 5 := by have := there_sub ht (k * 21 + u * 5) 5 (by omega); rwa [Nat.zero_add] at this
  have rp' := range_set pgC 5 (fun _ _ => rfl) u (by omega) p rfl rp tk
  refine range_set' bkC 21 (fun x hx => len_bkC x (hF x hx)) k hkb ⟨ks[k].ps.set u p, ks[k].wn⟩ (len_bkC _ (by simp [hb4])) h ?_ (fun o' cs hr hc => World.rangeAt_setCells_apart hr _ _ _ (.inr (by rw [len_pgC]; omega)))
  rw [Nat.zero_add]
  show (w.setCells kb (k * 21 + u * 5) (pgC p)).rangeAt kb (k * 21) (psC (ks[k].ps.set u p) ++ [.int .i64 ks[k].wn])
  rw [range_app]
  refine ⟨rp', ?_⟩
  rw [len_psC, List.length_set, hb4]
  intro j v hv
  have hj : j = 0 := by
    have := (List.getElem?_eq_some_iff.1 hv).1
    simp at this; exact this
  subst hj
  simp at hv
  subst hv
  rw [cell_setCells_ne (.inr (.inr (by rw [len_pgC]; omega)))]
  exact cw

def wrK (ks : List Bk) (k : Nat) (rk rs ra rv : Int) (torn : Bool) : List Bk := if wrN ks k rs then ks else wrL ks k (pgW torn rk rs ra rv)
theorem wrK_len {ks : List Bk} (h4 : ks.length = 4) (k : Nat) (rk rs ra rv : Int) (torn : Bool) : (wrK ks k rk rs ra rv torn).length = 4 := by
  unfold wrK; split
  · exact h4
  · rw [wrL_len]; exact h4
theorem wrK_fours {ks : List Bk} (h4 : ks.length = 4) (hF : Fours ks) (k : Nat) (hk : k < 4) (rk rs ra rv : Int) (torn : Bool) : Fours (wrK ks k rk rs ra rv torn) := by
  unfold wrK; split
  · exact hF
  · exact wrL_fours hF (by omega)

set_option maxRecDepth 100000 in
set_option maxHeartbeats 4000000 in
theorem writeK_any (ks : List Bk) (hk4 : ks.length = 4) (hkF : Fours ks) (k : Nat) (hk : k < 4) (rk rs ra rv : Int) (torn : Bool) (w : World) :
    Calls Try.prog 51 #[.agg (fsC ks).toArray, .int .i64 (k : Nat), .agg #[.int .i64 rk, .int .i64 rs, .int .i64 ra, .int .i64 rv], .bool torn] w fun e w' => KpPost w (wrK ks k rk rs ra rv torn) (!wrN ks k rs) e w' := by
  obtain ⟨zf, hz, hz84⟩ := zrow
  have HZ := hide hz
  clear hz
  have K3 := World.rangeAt_alloc (World.rangeAt_alloc (rangeAt_new w (fsC ks) 75) (.cells #[.int .i64 rk, .int .i64 rs, .int .i64 ra, .int .i64 rv] 25)) (.cells zf 75)
  have T3 := World.there_alloc (World.there_alloc (there_new w (fsC ks) 75) (.cells #[.int .i64 rk, .int .i64 rs, .int .i64 ra, .int .i64 rv] 25)) (.cells zf 75)
  rw [len_fsC _ hkF, hk4] at T3
  have R3 := World.rangeAt_alloc (rangeAt_new (w.alloc (.cells (fsC ks).toArray 75)) [.int .i64 rk, .int .i64 rs, .int .i64 ra, .int .i64 rv] 25) (.cells zf 75)
  rw [World.size_alloc] at R3
  have V3 := there_new ((w.alloc (.cells (fsC ks).toArray 75)).alloc (.cells #[.int .i64 rk, .int .i64 rs, .int .i64 ra, .int .i64 rv] 25)) zf.toList 75
  rw [Array.toArray_toList, Array.length_toList, hz84, World.size_alloc, World.size_alloc] at V3
  have B3 : Below w.heap.size w (((w.alloc (.cells (fsC ks).toArray 75)).alloc (.cells #[.int .i64 rk, .int .i64 rs, .int .i64 ra, .int .i64 rv] 25)).alloc (.cells zf 75)) := (((Below.refl _ _).alloc (Nat.le_refl _) _).alloc (by simp) _).alloc (by simp; omega) _
  have s3 : w.heap.size + 2 < (((w.alloc (.cells (fsC ks).toArray 75)).alloc (.cells #[.int .i64 rk, .int .i64 rs, .int .i64 ra, .int .i64 rv] 25)).alloc (.cells zf 75)).heap.size := by simp
  have hkb : k < ks.length := by omega
  have hb4 : ks[k].ps.length = 4 := hkF.at k hkb
  have hgd : ks.getD k zBk = ks[k] := by rw [List.getD_eq_getElem?_getD, List.getElem?_eq_getElem hkb]; rfl
  have HR0 : Hid (wrK ks k rk rs ra rv torn = if wrN ks k rs then ks else wrL ks k (pgW torn rk rs ra rv)) := rfl
  have HN : Hid (wrN ks k rs = (usedN ks[k].ps == 4 || hasB ks rs)) := by show _ = _; unfold wrN; rw [hgd]
  have HWL : Hid (∀ p, wrL ks k p = ks.set k ⟨(ks.getD k zBk).ps.set (usedN ks[k].ps) p, (ks.getD k zBk).wn⟩) := fun p => by unfold wrL; rw [hgd]
  clear hgd
  have hlo : (0 : Int) ≤ (k : Int) := by omega
  have hhi : (k : Int) < 4 := by omega
  have k2 := sub_fs hkF K3 k hkb
  have HU := hide (used_any ks[k] hb4)
  have hu := usedN_le ks[k].ps
  have HBL := hide (size_bkl hb4)
  generalize wrK ks k rk rs ra rv torn = Rs at *
  generalize bkC ks[k] = bcs at *
  generalize usedN ks[k].ps = u at *
  rw [hb4] at hu
  have hui : (u : Int) ≤ 4 := by omega
  go_enter Try.func51, Try.ntmps51
  go_wp2_with (first | (refine wpList_box_big rfl 75 _ rfl (fsC ks).toArray rfl ?_) | (refine wpList_alloc_big rfl 75 rfl zf (unhide HZ) ?_) | (refine wpList_load_mid rfl 73 _ rfl w.heap.size (k * 21) rfl bcs _ k2 Try.underlying73 rfl (unhide HBL) ?_))
  generalize ((w.alloc (.cells (fsC ks).toArray 75)).alloc (.cells #[.int .i64 rk, .int .i64 rs, .int .i64 ra, .int .i64 rv] 25)).alloc (.cells zf 75) = w3 at *
  refine (unhide HU _).mono ?_
  rintro e w4 ⟨rfl, b4⟩
  have B4 := B3.trans (b4.mono B3.size)
  have K4 := rangeAt_below K3 b4 (by omega)
  have T4 := there_below T3 b4 (by omega)
  have R4 := rangeAt_below R3 b4 (by omega)
  have V4 := there_below V3 b4 (by omega)
  have s4 := Nat.lt_of_lt_of_le s3 b4.size
  clear b4 B3 K3 T3 R3 V3 s3 k2 HU HBL
  by_cases hz : u = 4
  · subst hz
    have HNT : Hid (wrN ks k rs = true) := by show _ = _; rw [unhide HN]; rfl
    have HR : Hid (Rs = ks) := by show _ = _; rw [unhide HR0, unhide HNT]; rfl
    clear HR0 HN HWL T4 R4
    have h4s : ks.length = 4 := hk4
    have hFs : Fours ks := hkF
    have HZ8 := hide (size_fsl hFs h4s)
    have tz : w4.there (w.heap.size + 2) 0 (fsC ks).toArray.size := by rw [show (fsC ks).toArray.size = 84 by rw [List.size_toArray, len_fsC _ hFs, h4s]]; exact V4
    have pz := World.rangeAt_setCells_same w4 (w.heap.size + 2) 0 (fsC ks) tz
    have Bz := below_setCells (w.heap.size + 2) (show w.heap.size ≤ w.heap.size + 2 by omega) (fsC ks) 0 _ B4
    go_wp2_with (first | (refine wpList_load_mid rfl 75 _ rfl w.heap.size 0 rfl (fsC ks) _ K4 Try.underlying75 rfl (unhide HZ8) ?_) | (refine wpList_store_mid rfl 75 _ _ rfl (w.heap.size + 2) 0 (fsC ks).toArray rfl rfl tz (size_fsa hFs h4s) (one_fs ks) ?_) | (refine bodyPost_ret (res_cell_tmp Try.results51 _ _ (w.heap.size + 2) (fsC ks) _ rfl pz Try.underlying75 rfl (unhide HZ8)) rfl (unhide ?_)))
    exact hide ⟨by rw [unhide HR, unhide HNT]; rfl, Bz⟩
  have hu4 : u < 4 := by omega
  have hz' : ((u : Int) == 4) = false := by simp; omega
  have HH := hide (has_any ks rs hk4 hkF)
  have HZ7 := hide (size_fsl hkF hk4)
  have e1 := R4 1 _ rfl
  simp only [Nat.zero_add] at e1
  cases hh : hasB ks rs
  rotate_left
  · have HNT : Hid (wrN ks k rs = true) := by show _ = _; rw [unhide HN, hh, Bool.or_true]
    have HR : Hid (Rs = ks) := by show _ = _; rw [unhide HR0, unhide HNT]; rfl
    rw [show (seqs ks).contains rs = true from hh] at HH
    clear HR0 HN HWL T4 R4 hh hz
    go_wp2_with (first | (refine wpList_load_want 75 _ rfl rfl w.heap.size 0 rfl (fsC ks) _ K4 Try.underlying75 rfl (unhide HZ7) ?_))
    refine (unhide HH _).mono ?_
    rintro e w5 ⟨rfl, b5⟩
    have B5 := B4.trans (b5.mono B4.size)
    have K5 := rangeAt_below K4 b5 (by omega)
    have V5 := there_below V4 b5 (by omega)
    clear b5 B4 K4 V4 e1
    have h4s : ks.length = 4 := hk4
    have hFs : Fours ks := hkF
    have HZ8 := hide (size_fsl hFs h4s)
    have tz : w5.there (w.heap.size + 2) 0 (fsC ks).toArray.size := by rw [show (fsC ks).toArray.size = 84 by rw [List.size_toArray, len_fsC _ hFs, h4s]]; exact V5
    have pz := World.rangeAt_setCells_same w5 (w.heap.size + 2) 0 (fsC ks) tz
    have Bz := below_setCells (w.heap.size + 2) (show w.heap.size ≤ w.heap.size + 2 by omega) (fsC ks) 0 _ B5
    go_wp2_with (first | (refine wpList_load_mid rfl 75 _ rfl w.heap.size 0 rfl (fsC ks) _ K5 Try.underlying75 rfl (unhide HZ8) ?_) | (refine wpList_store_mid rfl 75 _ _ rfl (w.heap.size + 2) 0 (fsC ks).toArray rfl rfl tz (size_fsa hFs h4s) (one_fs ks) ?_) | (refine bodyPost_ret (res_cell_tmp Try.results51 _ _ (w.heap.size + 2) (fsC ks) _ rfl pz Try.underlying75 rfl (unhide HZ8)) rfl (unhide ?_)))
    exact hide ⟨by rw [unhide HR, unhide HNT]; rfl, Bz⟩
  have HNT : Hid (wrN ks k rs = false) := by show _ = _; rw [unhide HN, hh, Bool.or_false]; simpa using hz
  have HR : Hid (Rs = wrL ks k (pgW torn rk rs ra rv)) := by show _ = _; rw [unhide HR0, unhide HNT]; rfl
  rw [show (seqs ks).contains rs = false from hh] at HH
  clear HR0 HN hh hz
  go_wp2_with (first | (refine wpList_load_want 75 _ rfl rfl w.heap.size 0 rfl (fsC ks) _ K4 Try.underlying75 rfl (unhide HZ7) ?_))
  refine (unhide HH _).mono ?_
  rintro e w5 ⟨rfl, b5⟩
  have B5 := (B4.trans (b5.mono B4.size)).drew
  have K5 : w5.drew.rangeAt w.heap.size 0 (fsC ks) := by simpa using rangeAt_below K4 b5 (by omega)
  have T5 : w5.drew.there w.heap.size 0 84 := (World.there_drew _ _ _ _).2 (there_below T4 b5 (by omega))
  have V5 : w5.drew.there (w.heap.size + 2) 0 84 := (World.there_drew _ _ _ _).2 (there_below V4 b5 (by omega))
  have R5 : w5.drew.rangeAt (w.heap.size + 1) 0 [.int .i64 rk, .int .i64 rs, .int .i64 ra, .int .i64 rv] := by simpa using rangeAt_below R4 b5 (by omega)
  have s5 : w.heap.size + 2 < w5.drew.heap.size := by simpa using Nat.lt_of_lt_of_le s4 b5.size
  clear b5 B4 K4 T4 R4 V4 s4 e1 HH
  have hu0 : (0 : Int) ≤ (u : Int) := by omega
  have hu5 : (u : Int) < 4 := by omega
  have SP := hide (store_page hkF hk4 K5 T5 k hk u hu4 ⟨1, rk, rs, ra, rv⟩)
  rw [← unhide HWL] at SP
  have tk5 : w5.drew.there w.heap.size (k * 21 + u * 5) (pgC ⟨1, rk, rs, ra, rv⟩).toArray.size := by have := there_sub T5 (k * 21 + u * 5) 5 (by omega); rw [Nat.zero_add] at this; exact this
  have HI5 := hide (size_pga ⟨1, rk, rs, ra, rv⟩)
  have o5 := one_pg ⟨1, rk, rs, ra, rv⟩
  have HGW := hide (wrL_fours hkF hkb (p := ⟨1, rk, rs, ra, rv⟩))
  go_wp2_with fail
  refine wp_region_noPanic ?_
  refine wp_region_held_drew (S := fun w' => w'.rangeAt (w.heap.size + 1) 0 [.int .i64 rk, .int .i64 rs, .int .i64 ra, .int .i64 rv]) (by kernel_rfl) (R5) (fun hHeld => ?_)
  refine takeL 0 (.int .i64 k) rfl (by kernel_rfl) (by kernel_rfl) (by kernel_rfl) (fun _ _ _ h => h) (Or.inl ⟨rfl, fun _ _ => rfl⟩) hHeld ?_
  try simp only [Act.put, List.setIfInBounds_toArray, List.set_cons_zero, List.set_cons_succ]
  refine takeL 1 (.int .i64 (u : Int)) rfl (by kernel_rfl) (by kernel_rfl) (by kernel_rfl) (fun _ _ _ h => h) (Or.inl ⟨rfl, fun _ _ => rfl⟩) hHeld ?_
  try simp only [Act.put, List.setIfInBounds_toArray, List.set_cons_zero, List.set_cons_succ]
  refine takeL 2 (.agg #[.int .i64 rk, .int .i64 rs, .int .i64 ra, .int .i64 rv]) rfl (by kernel_rfl) (by kernel_rfl) (by kernel_rfl) (fun _ _ _ h => h) (yieldsIf_load_mid rfl 25 _ rfl (w.heap.size + 1) 0 rfl [.int .i64 rk, .int .i64 rs, .int .i64 ra, .int .i64 rv] _ (fun _ h => h) Try.underlying25 rfl (by kernel_rfl)) hHeld ?_
  try simp only [Act.put, List.setIfInBounds_toArray, List.set_cons_zero, List.set_cons_succ]
  refine takeL 3 (.agg #[.int .i64 1, .int .i64 rk, .int .i64 rs, .int .i64 ra, .int .i64 rv]) rfl (by kernel_rfl) (by kernel_rfl) (by kernel_rfl) (fun _ _ _ h => h) (Or.inl ⟨rfl, fun w9 hSw => by go_simp⟩) hHeld ?_
  try simp only [Act.put, List.setIfInBounds_toArray, List.set_cons_zero, List.set_cons_succ]
  refine takeL 4 (.pointer (some ⟨w.heap.size, k * 21, none⟩)) rfl (by kernel_rfl) (by kernel_rfl) (by kernel_rfl) (fun _ _ _ h => h) (Or.inl ⟨rfl, fun w9 hSw => by go_simp⟩) hHeld ?_
  try simp only [Act.put, List.setIfInBounds_toArray, List.set_cons_zero, List.set_cons_succ]
  refine takeL 5 (.pointer (some ⟨w.heap.size, k * 21, none⟩)) rfl (by kernel_rfl) (by kernel_rfl) (by kernel_rfl) (fun _ _ _ h => h) (Or.inl ⟨rfl, fun w9 hSw => by go_simp⟩) hHeld ?_
  try simp only [Act.put, List.setIfInBounds_toArray, List.set_cons_zero, List.set_cons_succ]
  refine takeL 6 (.pointer (some ⟨w.heap.size, k * 21, none⟩)) rfl (by kernel_rfl) (by kernel_rfl) (by kernel_rfl) (fun _ _ _ h => h) (Or.inl ⟨rfl, fun w9 hSw => by go_simp⟩) hHeld ?_
  try simp only [Act.put, List.setIfInBounds_toArray, List.set_cons_zero, List.set_cons_succ]
  refine takeL 7 (.pointer (some ⟨w.heap.size, k * 21 + u * 5, none⟩)) rfl (by kernel_rfl) (by kernel_rfl) (by kernel_rfl) (fun _ _ _ h => h) (Or.inl ⟨rfl, fun w9 hSw => by go_simp⟩) hHeld ?_
  try simp only [Act.put, List.setIfInBounds_toArray, List.set_cons_zero, List.set_cons_succ]
  refine oneL 8 rfl (by kernel_rfl) rfl (fun K hK => ?_)
  refine wp_store_mid 33 _ _ rfl w.heap.size (k * 21 + u * 5) (pgC ⟨1, rk, rs, ra, rv⟩).toArray rfl rfl tk5 (unhide HI5) o5 ?_
  refine hK.out _ _ (World.rangeAt_setCells_apart hHeld _ _ _ (.inl (by omega))) (fun hHeld => ?_)
  clear hK K
  try simp only [Act.put, List.setIfInBounds_toArray, List.set_cons_zero, List.set_cons_succ]
  refine wpAnyH_done (by kernel_rfl) ?_ _
  refine NoPanic.normal ?_
  have BS := below_setCells w.heap.size (Nat.le_refl _) (pgC ⟨1, rk, rs, ra, rv⟩) (k * 21 + u * 5) _ B5
  have TS := World.there_setCells T5 w.heap.size (k * 21 + u * 5) (pgC ⟨1, rk, rs, ra, rv⟩)
  have VS := World.there_setCells V5 w.heap.size (k * 21 + u * 5) (pgC ⟨1, rk, rs, ra, rv⟩)
  clear B5 T5 K5 R5 V5 hHeld tk5 HI5 o5
  generalize w5.drew.setCells w.heap.size (k * 21 + u * 5) (pgC ⟨1, rk, rs, ra, rv⟩) = w6 at *
  cases torn
  · have HW1 : Hid (pgW false rk rs ra rv = ⟨1, rk, rs, ra, rv⟩) := rfl
    rw [unhide HW1] at HR
    clear HW1 HWL TS
    have hL4 : (wrL ks k ⟨1, rk, rs, ra, rv⟩).length = 4 := by rw [wrL_len]; exact hk4
    generalize wrL ks k ⟨1, rk, rs, ra, rv⟩ = L1 at *
    have RS := unhide SP
    clear SP
    have h4s : L1.length = 4 := hL4
    have hFs : Fours L1 := unhide HGW
    have HZ8 := hide (size_fsl hFs h4s)
    have tz : w6.there (w.heap.size + 2) 0 (fsC L1).toArray.size := by rw [show (fsC L1).toArray.size = 84 by rw [List.size_toArray, len_fsC _ hFs, h4s]]; exact VS
    have pz := World.rangeAt_setCells_same w6 (w.heap.size + 2) 0 (fsC L1) tz
    have Bz := below_setCells (w.heap.size + 2) (show w.heap.size ≤ w.heap.size + 2 by omega) (fsC L1) 0 _ BS
    clear HGW VS BS
    go_wp2_with (first | (refine wpList_load_mid rfl 75 _ rfl w.heap.size 0 rfl (fsC L1) _ RS Try.underlying75 rfl (unhide HZ8) ?_) | (refine wpList_store_mid rfl 75 _ _ rfl (w.heap.size + 2) 0 (fsC L1).toArray rfl rfl tz (size_fsa hFs h4s) (one_fs L1) ?_) | (refine bodyPost_ret (res_cell_tmp Try.results51 _ _ (w.heap.size + 2) (fsC L1) _ rfl pz Try.underlying75 rfl (unhide HZ8)) rfl (unhide ?_)))
    exact hide ⟨by rw [unhide HR, unhide HNT]; rfl, Bz⟩
  · have HW1 : Hid (pgW true rk rs ra rv = ⟨2, 0, 0, 0, 0⟩) := rfl
    rw [unhide HW1] at HR
    have SP2 := hide (store_page (unhide HGW) (by rw [wrL_len]; exact hk4) (unhide SP) TS k hk u hu4 ⟨2, 0, 0, 0, 0⟩)
    have HE : Hid ((wrL ks k ⟨1, rk, rs, ra, rv⟩).set k ⟨((wrL ks k ⟨1, rk, rs, ra, rv⟩).getD k zBk).ps.set u ⟨2, 0, 0, 0, 0⟩, ((wrL ks k ⟨1, rk, rs, ra, rv⟩).getD k zBk).wn⟩ = wrL ks k ⟨2, 0, 0, 0, 0⟩) := by
      show _ = _
      rw [unhide HWL, unhide HWL]
      have hg2 : ∀ b : Bk, (ks.set k b).getD k zBk = b := fun b => by rw [List.getD_eq_getElem?_getD, List.getElem?_set_self hkb]; rfl
      rw [hg2]
      simp only [List.set_set]
    rw [unhide HE] at SP2
    have HGW2 := hide (wrL_fours hkF hkb (p := ⟨2, 0, 0, 0, 0⟩))
    have HSC : Hid (w6.setCells w.heap.size (k * 21 + u * 5) (pgC ⟨2, 0, 0, 0, 0⟩) = ((((w6.setCell ⟨w.heap.size, k * 21 + u * 5, none⟩ (.int .i64 2)).setCell ⟨w.heap.size, k * 21 + u * 5 + 1, none⟩ (.int .i64 0)).setCell ⟨w.heap.size, k * 21 + u * 5 + 2, none⟩ (.int .i64 0)).setCell ⟨w.heap.size, k * 21 + u * 5 + 3, none⟩ (.int .i64 0)).setCell ⟨w.heap.size, k * 21 + u * 5 + 4, none⟩ (.int .i64 0)) := rfl
    have B9 := hide (below_setCells w.heap.size (Nat.le_refl _) (pgC ⟨2, 0, 0, 0, 0⟩) (k * 21 + u * 5) _ BS)
    have V9 := hide (World.there_setCells VS w.heap.size (k * 21 + u * 5) (pgC ⟨2, 0, 0, 0, 0⟩))
    rw [unhide HSC] at SP2 B9 V9
    have T0 := there_sub TS (k * 21 + u * 5) 5 (by omega)
    rw [Nat.zero_add] at T0
    obtain ⟨v0, x0⟩ := Option.isSome_iff_exists.1 (T0 0 (by omega)).1
    obtain ⟨v1, x1⟩ := Option.isSome_iff_exists.1 (T0 1 (by omega)).1
    obtain ⟨v2, x2⟩ := Option.isSome_iff_exists.1 (T0 2 (by omega)).1
    obtain ⟨v3, x3⟩ := Option.isSome_iff_exists.1 (T0 3 (by omega)).1
    obtain ⟨v4, x4⟩ := Option.isSome_iff_exists.1 (T0 4 (by omega)).1
    have f0 := (T0 0 (by omega)).2
    have f1 := (T0 1 (by omega)).2
    have f2 := (T0 2 (by omega)).2
    have f3 := (T0 3 (by omega)).2
    have f4 := (T0 4 (by omega)).2
    simp only [Nat.add_zero] at x0 f0
    have hL4 : (wrL ks k ⟨2, 0, 0, 0, 0⟩).length = 4 := by rw [wrL_len]; exact hk4
    clear HW1 HWL TS SP HE HSC T0 BS HGW VS
    generalize wrL ks k ⟨2, 0, 0, 0, 0⟩ = L1 at *
    go_upto_region 7 with fail
    refine wp_world (φ := fun w' => w'.rangeAt w.heap.size 0 (fsC L1) ∧ Below w.heap.size w w' ∧ w'.there (w.heap.size + 2) 0 84) ⟨unhide SP2, unhide B9, unhide V9⟩ ?_
    clear B9 SP2 V9 x0 x1 x2 x3 x4 f0 f1 f2 f3 f4
    rintro w8 ⟨RS, BS, VS⟩
    have h4s : L1.length = 4 := hL4
    have hFs : Fours L1 := unhide HGW2
    have HZ8 := hide (size_fsl hFs h4s)
    have tz : w8.there (w.heap.size + 2) 0 (fsC L1).toArray.size := by rw [show (fsC L1).toArray.size = 84 by rw [List.size_toArray, len_fsC _ hFs, h4s]]; exact VS
    have pz := World.rangeAt_setCells_same w8 (w.heap.size + 2) 0 (fsC L1) tz
    have Bz := below_setCells (w.heap.size + 2) (show w.heap.size ≤ w.heap.size + 2 by omega) (fsC L1) 0 _ BS
    clear HGW2 VS BS
    go_wp2_with (first | (refine wpList_load_mid rfl 75 _ rfl w.heap.size 0 rfl (fsC L1) _ RS Try.underlying75 rfl (unhide HZ8) ?_) | (refine wpList_store_mid rfl 75 _ _ rfl (w.heap.size + 2) 0 (fsC L1).toArray rfl rfl tz (size_fsa hFs h4s) (one_fs L1) ?_) | (refine bodyPost_ret (res_cell_tmp Try.results51 _ _ (w.heap.size + 2) (fsC L1) _ rfl pz Try.underlying75 rfl (unhide HZ8)) rfl (unhide ?_)))
    exact hide ⟨by rw [unhide HR, unhide HNT]; rfl, Bz⟩

set_option maxRecDepth 100000 in
set_option maxHeartbeats 2000000 in
theorem implWrite_any (a : Option Addr) (cap : Nat) (blk rk rs ra rv : Int) (torn : Bool) (bs : List Bk) (w : World) (hf : FsAt w a bs) (hm : bs.length ≤ 9223372036854775807) :
    Calls Try.prog 15 #[.slice a bs.length cap, .int .i64 blk, .agg #[.int .i64 rk, .int .i64 rs, .int .i64 ra, .int .i64 rv], .bool torn] w fun e w' => OutPost w (wrR bs blk rk rs ra rv torn) (SpecD.wrB bs blk rk rs ra rv) e w' := by
  obtain ⟨zf, hz, hz84⟩ := zrow
  have HZ := hide hz
  clear hz
  have b0 : Below w.heap.size w (w.alloc (.cells #[.int .i64 rk, .int .i64 rs, .int .i64 ra, .int .i64 rv] 25)) := (Below.refl _ _).alloc (Nat.le_refl _) _
  have c2 : (w.alloc (.cells #[.int .i64 rk, .int .i64 rs, .int .i64 ra, .int .i64 rv] 25)).rangeAt w.heap.size 0 [.int .i64 rk, .int .i64 rs, .int .i64 ra, .int .i64 rv] := rangeAt_new w _ _
  have hwlt : w.heap.size < (w.alloc (.cells #[.int .i64 rk, .int .i64 rs, .int .i64 ra, .int .i64 rv] 25)).heap.size := by simp
  have hf0 := hf.below b0
  have HC := hide (at_any a cap blk bs _ hf0 hm)
  clear hf hf0
  go_enter Try.func15, Try.ntmps15
  go_wp2_with fail
  refine (unhide HC).mono ?_
  rintro e w1 ⟨ks, rfl, hk4, hkF, hke, b1⟩
  have hsz : zf.size = (fsC ks).toArray.size := by rw [hz84, List.size_toArray, len_fsC _ hkF, hk4]
  have B1 := b0.trans (b1.mono b0.size)
  have r1 := rangeAt_below c2 b1 hwlt
  have hw1 := Nat.lt_of_lt_of_le hwlt b1.size
  have R1 := World.rangeAt_alloc r1 (.cells (fsC ks).toArray 75)
  have K1 := rangeAt_new w1 (fsC ks) 75
  have T1 := there_new w1 (fsC ks) 75
  rw [len_fsC _ hkF, hk4] at T1
  have hkl := B1.size
  have BK := B1.alloc B1.size (.cells (fsC ks).toArray 75)
  have sk : w1.heap.size < (w1.alloc (.cells (fsC ks).toArray 75)).heap.size := by simp
  clear HC b0 b1 c2 hwlt r1
  cases hs : okB bs && inB blk 0 3
  · have HR : Hid (wrR bs blk rk rs ra rv torn = []) := by show _ = _; unfold wrR; rw [hs]; rfl
    have HO : Hid (SpecD.wrB bs blk rk rs ra rv = false) := by show _ = _; unfold SpecD.wrB; rw [hs]; rfl
    clear hs hke K1 T1 R1 B1
    go_wp2_with (first | (refine wpList_alloc_big rfl 75 rfl zf (unhide HZ) ?_) | (refine wpList_store_new rfl 75 _ _ rfl w1 zf (fsC ks).toArray rfl rfl rfl (size_fsa hkF hk4) hsz (one_fs ks) ?_))
    go_ret2
    rw [unhide HR, unhide HO]
    exact ⟨_, rfl, .inl ⟨rfl, _, _, rfl⟩, BK⟩
  obtain rfl := hke hs
  have e0 := R1 0 _ rfl
  have e1 := R1 1 _ rfl
  have e2 := R1 2 _ rfl
  have e3 := R1 3 _ rfl
  simp only [Nat.zero_add] at e0 e1 e2 e3
  have HRC := hide (recOk_any rk rs ra rv)
  cases hr : recB rk rs ra rv
  · have HR : Hid (wrR ks blk rk rs ra rv torn = []) := by show _ = _; unfold wrR; rw [hs, hr]; rfl
    have HO : Hid (SpecD.wrB ks blk rk rs ra rv = false) := by show _ = _; unfold SpecD.wrB; rw [hs, hr]; rfl
    rw [hr] at HRC
    clear hs hke K1 T1 R1 B1 hr
    go_wp2_with (first | (refine wpList_alloc_big rfl 75 rfl zf (unhide HZ) ?_) | (refine wpList_store_new rfl 75 _ _ rfl w1 zf (fsC ks).toArray rfl rfl rfl (size_fsa hkF hk4) hsz (one_fs ks) ?_))
    refine (unhide HRC _).mono ?_
    rintro e w3 ⟨rfl, b3⟩
    have B3 := BK.trans (b3.mono BK.size)
    clear b3 BK e0 e1 e2 e3
    go_wp2
    go_ret2
    rw [unhide HR, unhide HO]
    exact ⟨_, rfl, .inl ⟨rfl, _, _, rfl⟩, B3⟩
  have hs2 := hs
  rw [Bool.and_eq_true] at hs2
  obtain ⟨k, rfl, hk⟩ := in_range hs2.2
  have HW := hide (writeK_any ks hk4 hkF k hk rk rs ra rv torn)
  have HR : Hid (wrR ks (k : Int) rk rs ra rv torn = wrK ks k rk rs ra rv torn) := by show _ = _; unfold wrR; rw [hs, hr]; rfl
  have HO : Hid (SpecD.wrB ks (k : Int) rk rs ra rv = !wrN ks k rs) := by show _ = _; unfold SpecD.wrB; rw [hs, hr]; rfl
  have h4s := wrK_len hk4 k rk rs ra rv torn
  have hFs := wrK_fours hk4 hkF k hk rk rs ra rv torn
  rw [hr] at HRC
  clear hs hs2 hke hr
  generalize wrK ks k rk rs ra rv torn = Rs at *
  generalize (!wrN ks k rs) = Os at *
  go_wp2_with (first | (refine wpList_alloc_big rfl 75 rfl zf (unhide HZ) ?_) | (refine wpList_store_new rfl 75 _ _ rfl w1 zf (fsC ks).toArray rfl rfl rfl (size_fsa hkF hk4) hsz (one_fs ks) ?_))
  clear e0 e1 e2 e3
  generalize w1.alloc (.cells (fsC ks).toArray 75) = w2 at *
  generalize w1.heap.size = kb at *
  refine (unhide HRC _).mono ?_
  rintro e w3 ⟨rfl, b3⟩
  have B3 := BK.trans (b3.mono BK.size)
  have K3 := rangeAt_below K1 b3 sk
  have T3 := there_below T1 b3 sk
  have R3 := rangeAt_below R1 b3 (by omega)
  have s3 := Nat.lt_of_lt_of_le sk b3.size
  clear b3 BK K1 T1 R1 B1 sk HRC
  have e0 := R3 0 _ rfl
  have e1 := R3 1 _ rfl
  have e2 := R3 2 _ rfl
  have e3 := R3 3 _ rfl
  simp only [Nat.zero_add] at e0 e1 e2 e3
  have HSF := hide (size_fsl hkF hk4)
  go_wp2_with (refine wpList_load_mid rfl 75 _ rfl kb 0 rfl (fsC ks) _ K3 Try.underlying75 rfl (unhide HSF) ?_)
  refine (unhide HW _).mono ?_
  rintro e w4 ⟨rfl, b4⟩
  have t4 : w4.there kb 0 (fsC Rs).toArray.size := by rw [show (fsC Rs).toArray.size = 84 by rw [List.size_toArray, len_fsC _ hFs, h4s]]; exact there_below T3 b4 s3
  have p4 := World.rangeAt_setCells_same w4 kb 0 (fsC Rs) t4
  have B4 := below_setCells kb hkl (fsC Rs) 0 _ (B3.trans (b4.mono B3.size))
  have HSR := hide (size_fsl hFs h4s)
  clear e0 e1 e2 e3 K3 T3 R3 B3 b4 HW
  go_wp2_with (first | (refine wpList_store_mid rfl 75 _ _ rfl kb 0 (fsC Rs).toArray rfl rfl t4 (size_fsa hFs h4s) (one_fs Rs) ?_) | (refine wpList_load_mid rfl 75 _ rfl kb 0 rfl (fsC Rs) _ p4 Try.underlying75 rfl (unhide HSR) ?_))
  generalize w4.setCells kb 0 (fsC Rs) = w5 at *
  refine (list_any Rs h4s hFs _).mono ?_
  rintro e w6 ⟨g, G, rfl, o6, b6⟩
  have o7 := o6.mono B4.size
  have B6 := B4.trans (b6.mono B4.size)
  clear o6 b6 B4 p4 t4
  go_wp2
  go_ret2
  refine ⟨_, by rw [unhide HO]; rfl, .inr ⟨g, G, 4, ?_, ?_⟩, B6⟩
  · rw [unhide HR, h4s]; rfl
  · rw [unhide HR, h4s]; exact o7
end Go.Proofs.Ytkikeapfjpnkgaa.ImplX
