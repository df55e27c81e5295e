/-
  The specification's FlashWrite, for every list of blocks.
-/
import Derived.Test.YtogioeflbbmppaaSpecX
namespace Go.Proofs.Ytogioeflbbmppaa.SpecY
open Go.ChangeShapes Go.WideShapes Go.ChangeAt Go.RowKit OkA Big Fl ImplB ImplF ImplS Own ImplT ImplU SpecA SpecB SpecC SpecD SpecW SpecX
set_option linter.unusedVariables false
set_option linter.unusedSimpArgs false
attribute [local go_sem ↓] Go.wp_at_zero Go.wp_at_succ

theorem wrL_len {bs : List Bk} {k : Nat} {p : Pg} : (wrL bs k p).length = bs.length := by simp [wrL]
theorem wrL_fours {bs : List Bk} (h : Fours bs) {k : Nat} (hk : k < bs.length) {p : Pg} : Fours (wrL bs k p) := fun b hb => by
  have hgd : bs.getD k zBk = bs[k] := by rw [List.getD_eq_getElem?_getD, List.getElem?_eq_getElem hk]; rfl
  rcases List.mem_or_eq_of_mem_set hb with h' | rfl
  · exact h b h'
  · simp only [List.length_set, hgd]; exact h.at k hk

set_option maxRecDepth 100000 in
set_option maxHeartbeats 2000000 in
theorem specWrite_any (a : Option Addr) (cap : Nat) (blk rk rs ra rv : Int) (torn : Bool) (bs : List Bk) (w : World) (hf : FsAt w a bs) (hm : bs.length ≤ 1048576) :
    Calls Try.prog 25 #[.slice a bs.length cap, .int .i64 blk, .agg #[.int .i64 rk, .int .i64 rs, .int .i64 ra, .int .i64 rv], .bool torn] w fun e w' => OutPost w (wrR bs blk rk rs ra rv torn) (SpecD.wrB bs blk rk rs ra rv) e w' := by
  have b0 : Below w.heap.size w (w.alloc (.cells #[.int .i64 rk, .int .i64 rs, .int .i64 ra, .int .i64 rv] 25)) := (Below.refl _ _).alloc (Nat.le_refl _) _
  have c2 : (w.alloc (.cells #[.int .i64 rk, .int .i64 rs, .int .i64 ra, .int .i64 rv] 25)).rangeAt w.heap.size 0 [.int .i64 rk, .int .i64 rs, .int .i64 ra, .int .i64 rv] := rangeAt_new w _ _
  have hwlt : w.heap.size < (w.alloc (.cells #[.int .i64 rk, .int .i64 rs, .int .i64 ra, .int .i64 rv] 25)).heap.size := by simp
  have hf0 := hf.below b0
  have HC := hide (specFlashOk_any a cap bs _ hf0 hm)
  cases hs : okB bs
  · have HR : Hid (wrR bs blk rk rs ra rv torn = []) := by show _ = _; unfold wrR; rw [hs]; rfl
    have HO : Hid (SpecD.wrB bs blk rk rs ra rv = false) := by show _ = _; unfold SpecD.wrB; rw [hs]; rfl
    rw [hs] at HC
    clear hs hf hf0 c2
    go_enter Try.func25, Try.ntmps25
    go_wp2_with fail
    refine (unhide HC).mono ?_
    rintro e w1 ⟨rfl, b1⟩
    have B1 := b0.trans (b1.mono b0.size)
    clear HC b0 b1
    go_wp2
    go_ret2
    rw [unhide HR, unhide HO]
    exact ⟨_, rfl, .inl ⟨rfl, _, _, rfl⟩, B1.alloc B1.size _⟩
  cases hb : inB blk 0 3
  · have HR : Hid (wrR bs blk rk rs ra rv torn = []) := by show _ = _; unfold wrR; rw [hs, hb]; rfl
    have HO : Hid (SpecD.wrB bs blk rk rs ra rv = false) := by show _ = _; unfold SpecD.wrB; rw [hs, hb]; rfl
    have HI := hide (l6In_any blk 0 3)
    rw [hs] at HC
    rw [hb] at HI
    clear hs hf hf0 hb c2
    go_enter Try.func25, Try.ntmps25
    go_wp2_with fail
    refine (unhide HC).mono ?_
    rintro e w1 ⟨rfl, b1⟩
    have B1 := b0.trans (b1.mono b0.size)
    clear HC b0 b1
    go_wp2_with (go_at_call 63; refine (unhide HI _).mono ?_; rintro e w' ⟨rfl, hw'⟩; obtain rfl := hw'.symm)
    go_ret2
    rw [unhide HR, unhide HO]
    exact ⟨_, rfl, .inl ⟨rfl, _, _, rfl⟩, B1.alloc B1.size _⟩
  have HI := hide (l6In_any blk 0 3)
  have HRC := hide (specOk_any rk rs ra rv)
  rw [hb] at HI
  cases hr : recB rk rs ra rv
  · have HR : Hid (wrR bs blk rk rs ra rv torn = []) := by show _ = _; unfold wrR; rw [hs, hb, hr]; rfl
    have HO : Hid (SpecD.wrB bs blk rk rs ra rv = false) := by show _ = _; unfold SpecD.wrB; rw [hs, hb, hr]; rfl
    rw [hs] at HC
    rw [hr] at HRC
    clear hs hf hf0 hb hr
    go_enter Try.func25, Try.ntmps25
    go_wp2_with fail
    refine (unhide HC).mono ?_
    rintro e w1 ⟨rfl, b1⟩
    have B1 := b0.trans (b1.mono b0.size)
    have r1 := rangeAt_below c2 b1 hwlt
    have e0 := r1 0 _ rfl
    have e1 := r1 1 _ rfl
    have e2 := r1 2 _ rfl
    have e3 := r1 3 _ rfl
    simp only [Nat.zero_add] at e0 e1 e2 e3
    clear HC b0 b1 c2 r1
    go_wp2_with (go_at_call 63; refine (unhide HI _).mono ?_; rintro e w' ⟨rfl, hw'⟩; obtain rfl := hw'.symm)
    refine (unhide HRC _).mono ?_
    rintro e w2 ⟨rfl, b2⟩
    have B2 := B1.trans (b2.mono B1.size)
    clear b2 B1 e0 e1 e2 e3
    go_wp2
    go_ret2
    rw [unhide HR, unhide HO]
    exact ⟨_, rfl, .inl ⟨rfl, _, _, rfl⟩, B2.alloc B2.size _⟩
  obtain ⟨k, rfl, hk⟩ := in_range hb
  have h4 := ok_len hs
  have HF := hide (ok_fours hs)
  obtain ⟨fb, fo, rfl, hf'⟩ := fs_at hf h4
  have HR : Hid (wrR bs (k : Int) rk rs ra rv torn = if wrN bs k rs then bs else wrL bs k (pgW torn rk rs ra rv)) := by show _ = _; unfold wrR; rw [hs, hb, hr]; rfl
  have HO : Hid (SpecD.wrB bs (k : Int) rk rs ra rv = !wrN bs k rs) := by show _ = _; unfold SpecD.wrB; rw [hs, hb, hr]; rfl
  have HL : Hid ((if wrN bs k rs then bs else wrL bs k (pgW torn rk rs ra rv)).length = 4) := by
    show _ = _
    split
    · exact h4
    · rw [wrL_len]; exact h4
  have HFF := hide hf0
  have HS := hide hs
  rw [hs] at HC
  rw [hr] at HRC
  rw [h4] at HC ⊢
  clear hs hf hf0 hb hf' hr
  go_enter Try.func25, Try.ntmps25
  go_wp2_with fail
  refine (unhide HC).mono ?_
  rintro e w1 ⟨rfl, b1⟩
  have B1 := b0.trans (b1.mono b0.size)
  have r1 := rangeAt_below c2 b1 hwlt
  have F1 := hide ((unhide HFF).below b1)
  have hw1 := Nat.lt_of_lt_of_le hwlt b1.size
  have e0 := r1 0 _ rfl
  have e1 := r1 1 _ rfl
  have e2 := r1 2 _ rfl
  have e3 := r1 3 _ rfl
  simp only [Nat.zero_add] at e0 e1 e2 e3
  clear HC b0 b1 c2 hwlt HFF
  go_wp2_with (go_at_call 63; refine (unhide HI _).mono ?_; rintro e w' ⟨rfl, hw'⟩; obtain rfl := hw'.symm)
  refine (unhide HRC _).mono ?_
  rintro e w2 ⟨rfl, b2⟩
  have B2 := B1.trans (b2.mono B1.size)
  have r2 := rangeAt_below r1 b2 hw1
  have F2 := hide ((unhide F1).below b2)
  have hw2 := Nat.lt_of_lt_of_le hw1 b2.size
  clear b2 B1 e0 e1 e2 e3 r1 F1 hw1 HRC HI
  have F3 := hide ((unhide F2).below ((Below.refl w2.heap.size w2).drew))
  have HW2 := hide hw2
  go_wp2_with fail
  refine wp_region_noPanic ?_
  refine wp_region_held_drew (S := fun w' => w'.rangeAt w.heap.size 0 [.int .i64 rk, .int .i64 rs, .int .i64 ra, .int .i64 rv]) (by kernel_rfl) (by simpa using r2) (fun hHeld => ?_)
  refine takeL 0 (.slice (some ⟨fb, fo, none⟩) 4 cap) rfl (by kernel_rfl) (by kernel_rfl) (by kernel_rfl) (fun _ _ _ h => h) (Or.inl ⟨rfl, fun _ _ => rfl⟩) hHeld ?_
  try simp only [Act.put, List.setIfInBounds_toArray, List.set_cons_zero, List.set_cons_succ]
  refine takeL 2 (.int .i64 k) rfl (by kernel_rfl) (by kernel_rfl) (by kernel_rfl) (fun _ _ _ h => h) (Or.inl ⟨rfl, fun _ _ => rfl⟩) hHeld ?_
  try simp only [Act.put, List.setIfInBounds_toArray, List.set_cons_zero, List.set_cons_succ]
  refine takeL 3 (.agg #[.int .i64 rk, .int .i64 rs, .int .i64 ra, .int .i64 rv]) rfl (by kernel_rfl) (by kernel_rfl) (by kernel_rfl) (fun _ _ _ h => h) (yieldsIf_load_mid rfl 25 _ rfl w.heap.size 0 rfl [.int .i64 rk, .int .i64 rs, .int .i64 ra, .int .i64 rv] _ (fun _ h => h) Try.underlying25 rfl (by kernel_rfl)) hHeld ?_
  try simp only [Act.put, List.setIfInBounds_toArray, List.set_cons_zero, List.set_cons_succ]
  refine takeL 4 (.bool torn) rfl (by kernel_rfl) (by kernel_rfl) (by kernel_rfl) (fun _ _ _ h => h) (Or.inl ⟨rfl, fun _ _ => rfl⟩) hHeld ?_
  try simp only [Act.put, List.setIfInBounds_toArray, List.set_cons_zero, List.set_cons_succ]
  refine oneL 1 rfl (by kernel_rfl) rfl (fun K hK => ?_)
  go_simp
  refine (copy4 fb fo cap bs _ (unhide HF) h4 (by
    obtain ⟨b', o', he, h'⟩ := fs_at (unhide F3) h4
    simp at he
    obtain ⟨rfl, rfl⟩ := he
    exact h')).mono ?_
  rintro e w3 ⟨g, G, c, rfl, o3, b3⟩
  go_wp2_with fail
  refine hK.out _ _ (rangeAt_below hHeld b3 (by simpa using unhide HW2)) (fun hHeld => ?_)
  clear hK K
  try simp only [Act.put, List.setIfInBounds_toArray, List.set_cons_zero, List.set_cons_succ]
  refine oneL 5 rfl (by kernel_rfl) rfl (fun K hK => ?_)
  go_simp
  refine (write_any _ _ _ _ bs k torn rk rs ra rv _ o3 (unhide HS) hk).mono ?_
  rintro e w4 ⟨rfl, o4, k4⟩
  have b4 := k4.below (fun x hx => o3.lo x hx) b3.size
  clear k4
  go_wp2_with fail
  refine hK.out _ _ (rangeAt_below hHeld b4 (by simpa using unhide HW2)) (fun hHeld => ?_)
  clear hK K
  try simp only [Act.put, List.setIfInBounds_toArray, List.set_cons_zero, List.set_cons_succ]
  refine takeL 6 (.slice (some ⟨g, 0, none⟩) 4 c) rfl (by kernel_rfl) (by kernel_rfl) (by kernel_rfl) (fun _ _ _ h => h) (Or.inl ⟨rfl, fun w9 hSw => by go_simp⟩) hHeld ?_
  try simp only [Act.put, List.setIfInBounds_toArray, List.set_cons_zero, List.set_cons_succ]
  refine takeL 7 (.bool (!wrN bs k rs)) rfl (by kernel_rfl) (by kernel_rfl) (by kernel_rfl) (fun _ _ _ h => h) (Or.inl ⟨rfl, fun w9 hSw => by go_simp⟩) hHeld ?_
  try simp only [Act.put, List.setIfInBounds_toArray, List.set_cons_zero, List.set_cons_succ]
  refine takeL 8 (.slice (some ⟨g, 0, none⟩) 4 c) rfl (by kernel_rfl) (by kernel_rfl) (by kernel_rfl) (fun _ _ _ h => h) (Or.inl ⟨rfl, fun _ _ => rfl⟩) hHeld ?_
  try simp only [Act.put, List.setIfInBounds_toArray, List.set_cons_zero, List.set_cons_succ]
  refine takeL 9 (.bool (!wrN bs k rs)) rfl (by kernel_rfl) (by kernel_rfl) (by kernel_rfl) (fun _ _ _ h => h) (Or.inl ⟨rfl, fun _ _ => rfl⟩) hHeld ?_
  try simp only [Act.put, List.setIfInBounds_toArray, List.set_cons_zero, List.set_cons_succ]
  refine wpAnyH_done (by kernel_rfl) ?_ _
  refine NoPanic.normal ?_
  have B4 := (B2.drew.trans (b3.mono B2.drew.size)).trans (b4.mono B2.drew.size)
  have o5 := o4.mono B2.drew.size
  clear b3 b4 o4 B2 hHeld F2 F3
  rw [← unhide HR] at o5 HL
  have HOL := hide (show Own w4 w.heap.size g G (wrR bs (k : Int) rk rs ra rv torn) (wrR bs (k : Int) rk rs ra rv torn).length by rw [unhide HL]; exact o5)
  clear o5
  go_wp2
  go_ret2
  exact ⟨_, by rw [unhide HO]; rfl, .inr ⟨g, G, c, by rw [unhide HL]; rfl, unhide HOL⟩, B4⟩
end Go.Proofs.Ytogioeflbbmppaa.SpecY
