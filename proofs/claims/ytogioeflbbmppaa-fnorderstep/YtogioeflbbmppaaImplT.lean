/-
  The program's functions on blocks, for every list of blocks: whether they are ok, how many pages are clean, what is written and what is wiped; each answer in memory of its own.
-/
import Derived.Test.YtogioeflbbmppaaOwn
import Derived.Deep.RegionHeld3
import Derived.Deep.DrawnRows
namespace Go.Proofs.Ytogioeflbbmppaa.ImplT
open Go.ChangeShapes Go.WideShapes Go.ChangeAt Go.RowKit OkA Big Fl ImplB ImplF ImplS Own
set_option linter.unusedVariables false
set_option linter.unusedSimpArgs false
attribute [local go_sem ↓] Go.wp_at_zero Go.wp_at_succ

set_option maxRecDepth 100000 in
set_option maxHeartbeats 1000000 in
theorem at_any' (zs : List Bk) (hzF : Fours zs) (hz4 : zs.length = 4) (hz : (Try.prog.info? 73).bind (·.zero) = some (.agg (fsC zs).toArray)) (a : Option Addr) (cap : Nat) (blk : Int) (bs : List Bk) (w : World) (hf : FsAt w a bs) (hm : bs.length ≤ 9223372036854775807) :
    Calls Try.prog 66 #[.slice a bs.length cap, .int .i64 blk] w fun e w' => KeptPost w bs (okB bs && inB blk 0 3) e w' := by
  have HZ := hide hz
  have HC := hide (of_any zs hzF hz4 hz a cap bs)
  clear hz
  have z84 : (fsC zs).length = 84 := by rw [len_fsC _ hzF, hz4]
  have hf1 := hide (hf.below ((Below.refl w.heap.size w).alloc (Nat.le_refl _) (.cells (fsC zs).toArray 73)))
  have t0 := there_new w (fsC zs) 73
  rw [z84] at t0
  go_enter Try.func66, Try.ntmps66
  go_wp2_with (first | (refine wpList_alloc_big rfl 73 rfl (fsC zs).toArray (unhide HZ) ?_))
  refine (unhide HC _ (unhide hf1) hm).mono ?_
  rintro e w1 ⟨ks, rfl, hk4, hkF, hke, b1⟩
  have s1 : w.heap.size < w1.heap.size := by have := b1.size; simp at this; omega
  have k84 : (fsC ks).length = 84 := by rw [len_fsC _ hkF, hk4]
  have hsz : (fsC zs).toArray.size = (fsC ks).toArray.size := by simp [z84, k84]
  have B1 : Below w.heap.size w w1 := ((Below.refl _ _).alloc (Nat.le_refl _) _).trans (b1.mono (by simp))
  have t1 := World.there_alloc (there_below t0 b1 (by simp)) (.cells (fsC ks).toArray 73)
  have r1 := rangeAt_new w1 (fsC ks) 73
  have B2 := B1.alloc B1.size (.cells (fsC ks).toArray 73)
  rw [← k84] at t1
  have hi70 := size_fsl hkF hk4
  clear b1 t0 z84 k84 B1
  go_wp2_with (first | (refine wpList_alloc_big rfl 73 rfl (fsC zs).toArray (unhide HZ) ?_) | (refine wpList_store_new rfl 73 _ _ rfl w1 (fsC zs).toArray (fsC ks).toArray rfl rfl rfl (size_fsa hkF hk4) hsz (one_fs ks) ?_))
  generalize hw2 : w1.alloc (.cells (fsC ks).toArray 73) = w2 at *
  have s2 : w1.heap.size < w2.heap.size := by rw [← hw2]; simp
  clear hw2
  cases hs : okB bs
  · clear hke
    refine wp_region_noPanic ?_
    refine wp_region_held_drew (S := fun w' => w'.rangeAt w1.heap.size 0 (fsC ks) ∧ w'.there w.heap.size 0 (fsC ks).length ∧ Below w.heap.size w w' ∧ w2.heap.size ≤ w'.heap.size) (by kernel_rfl) ⟨by simpa using r1, by simpa using t1, B2.drew, Nat.le_refl _⟩ (fun hHeld => ?_)
    clear r1 t1 B2
    refine takeL 0 (_) rfl (by kernel_rfl) (by kernel_rfl) (by kernel_rfl) (fun _ _ _ h => h) (yieldsIf_load_mid rfl 73 _ rfl w1.heap.size 0 rfl (fsC ks) _ (fun _ h => h.1) Try.underlying73 rfl hi70) hHeld ?_
    try simp only [Act.put, List.setIfInBounds_toArray, List.set_cons_zero, List.set_cons_succ]
    refine takeL 1 (.bool false) rfl (by kernel_rfl) (by kernel_rfl) (by kernel_rfl) (fun _ _ _ h => h) (Or.inl ⟨rfl, fun _ _ => rfl⟩) hHeld ?_
    try simp only [Act.put, List.setIfInBounds_toArray, List.set_cons_zero, List.set_cons_succ]
    refine takeL 2 (.bool false) rfl (by kernel_rfl) (by kernel_rfl) (by kernel_rfl) (fun _ _ _ h => h) (Or.inl ⟨rfl, fun _ _ => rfl⟩) hHeld ?_
    try simp only [Act.put, List.setIfInBounds_toArray, List.set_cons_zero, List.set_cons_succ]
    refine takeL 3 (undef) rfl (by kernel_rfl) (by kernel_rfl) (by kernel_rfl) (fun _ _ _ h => h) (Or.inr ⟨rfl, rfl⟩) hHeld ?_
    try simp only [Act.put, List.setIfInBounds_toArray, List.set_cons_zero, List.set_cons_succ]
    refine takeL 4 (undef) rfl (by kernel_rfl) (by kernel_rfl) (by kernel_rfl) (fun _ _ _ h => h) (Or.inr ⟨rfl, rfl⟩) hHeld ?_
    try simp only [Act.put, List.setIfInBounds_toArray, List.set_cons_zero, List.set_cons_succ]
    refine takeL 5 (.bool false) rfl (by kernel_rfl) (by kernel_rfl) (by kernel_rfl) (fun _ _ _ h => h) (Or.inl ⟨rfl, fun _ _ => rfl⟩) hHeld ?_
    try simp only [Act.put, List.setIfInBounds_toArray, List.set_cons_zero, List.set_cons_succ]
    refine oneL 6 rfl (by kernel_rfl) rfl (fun K hK => ?_)
    refine wp_store_mid 73 _ _ rfl w.heap.size 0 (fsC ks).toArray rfl rfl hHeld.2.1 (size_fsa hkF hk4) (one_fs ks) ?_
    have rr := World.rangeAt_setCells_same _ _ _ _ hHeld.2.1
    refine hK.out _ _ ⟨World.rangeAt_setCells_apart hHeld.1 _ _ _ (.inl (by omega)), World.there_setCells hHeld.2.1 _ _ _, below_setCells _ (Nat.le_refl _) _ _ _ hHeld.2.2.1, by rw [size_setCells]; exact hHeld.2.2.2⟩ (fun hHeld => ?_)
    clear hK K
    try simp only [Act.put, List.setIfInBounds_toArray, List.set_cons_zero, List.set_cons_succ]
    refine takeL 7 (.bool false) rfl (by kernel_rfl) (by kernel_rfl) (by kernel_rfl) (fun _ _ _ h => h) (Or.inl ⟨rfl, fun _ _ => rfl⟩) hHeld ?_
    try simp only [Act.put, List.setIfInBounds_toArray, List.set_cons_zero, List.set_cons_succ]
    refine wpAnyH_done (by kernel_rfl) ?_ _
    refine NoPanic.normal ?_
    go_wp2_with (first | (refine bodyPost_ret (res_cell_tmp Try.results66 _ _ w.heap.size (fsC ks) _ rfl rr Try.underlying73 rfl hi70) rfl (unhide ?_)))
    exact hide ⟨ks, rfl, hk4, hkF, (by intro h; cases h), hHeld.2.2.1⟩
  · have HE := hide (hke hs)
    clear hke
    refine wp_region_noPanic ?_
    refine wp_region_held_drew (S := fun w' => w'.rangeAt w1.heap.size 0 (fsC ks) ∧ w'.there w.heap.size 0 (fsC ks).length ∧ Below w.heap.size w w' ∧ w2.heap.size ≤ w'.heap.size) (by kernel_rfl) ⟨by simpa using r1, by simpa using t1, B2.drew, Nat.le_refl _⟩ (fun hHeld => ?_)
    clear r1 t1 B2
    refine takeL 0 (_) rfl (by kernel_rfl) (by kernel_rfl) (by kernel_rfl) (fun _ _ _ h => h) (yieldsIf_load_mid rfl 73 _ rfl w1.heap.size 0 rfl (fsC ks) _ (fun _ h => h.1) Try.underlying73 rfl hi70) hHeld ?_
    try simp only [Act.put, List.setIfInBounds_toArray, List.set_cons_zero, List.set_cons_succ]
    refine takeL 1 (.bool true) rfl (by kernel_rfl) (by kernel_rfl) (by kernel_rfl) (fun _ _ _ h => h) (Or.inl ⟨rfl, fun _ _ => rfl⟩) hHeld ?_
    try simp only [Act.put, List.setIfInBounds_toArray, List.set_cons_zero, List.set_cons_succ]
    refine takeL 2 (.bool true) rfl (by kernel_rfl) (by kernel_rfl) (by kernel_rfl) (fun _ _ _ h => h) (Or.inl ⟨rfl, fun _ _ => rfl⟩) hHeld ?_
    try simp only [Act.put, List.setIfInBounds_toArray, List.set_cons_zero, List.set_cons_succ]
    refine takeL 3 (.int .i64 blk) rfl (by kernel_rfl) (by kernel_rfl) (by kernel_rfl) (fun _ _ _ h => h) (Or.inl ⟨rfl, fun _ _ => rfl⟩) hHeld ?_
    try simp only [Act.put, List.setIfInBounds_toArray, List.set_cons_zero, List.set_cons_succ]
    refine oneL 4 rfl (by kernel_rfl) rfl (fun K hK => ?_)
    go_simp
    refine (within_any _ _ _ _).mono ?_
    rintro e w3 ⟨rfl, rfl⟩
    go_wp2_with fail
    refine hK.out _ _ hHeld (fun hHeld => ?_)
    clear hK K
    try simp only [Act.put, List.setIfInBounds_toArray, List.set_cons_zero, List.set_cons_succ]
    refine takeL 5 (.bool (inB blk 0 3)) rfl (by kernel_rfl) (by kernel_rfl) (by kernel_rfl) (fun _ _ _ h => h) (Or.inl ⟨rfl, fun _ _ => rfl⟩) hHeld ?_
    try simp only [Act.put, List.setIfInBounds_toArray, List.set_cons_zero, List.set_cons_succ]
    refine oneL 6 rfl (by kernel_rfl) rfl (fun K hK => ?_)
    refine wp_store_mid 73 _ _ rfl w.heap.size 0 (fsC ks).toArray rfl rfl hHeld.2.1 (size_fsa hkF hk4) (one_fs ks) ?_
    have rr := World.rangeAt_setCells_same _ _ _ _ hHeld.2.1
    refine hK.out _ _ ⟨World.rangeAt_setCells_apart hHeld.1 _ _ _ (.inl (by omega)), World.there_setCells hHeld.2.1 _ _ _, below_setCells _ (Nat.le_refl _) _ _ _ hHeld.2.2.1, by rw [size_setCells]; exact hHeld.2.2.2⟩ (fun hHeld => ?_)
    clear hK K
    try simp only [Act.put, List.setIfInBounds_toArray, List.set_cons_zero, List.set_cons_succ]
    refine takeL 7 (.bool (inB blk 0 3)) rfl (by kernel_rfl) (by kernel_rfl) (by kernel_rfl) (fun _ _ _ h => h) (Or.inl ⟨rfl, fun _ _ => rfl⟩) hHeld ?_
    try simp only [Act.put, List.setIfInBounds_toArray, List.set_cons_zero, List.set_cons_succ]
    refine wpAnyH_done (by kernel_rfl) ?_ _
    refine NoPanic.normal ?_
    go_wp2_with (first | (refine bodyPost_ret (res_cell_tmp Try.results66 _ _ w.heap.size (fsC ks) _ rfl rr Try.underlying73 rfl hi70) rfl (unhide ?_)))
    exact hide ⟨ks, rfl, hk4, hkF, fun _ => unhide HE, hHeld.2.2.1⟩

theorem at_any (a : Option Addr) (cap : Nat) (blk : Int) (bs : List Bk) (w : World) (hf : FsAt w a bs) (hm : bs.length ≤ 9223372036854775807) :
    Calls Try.prog 66 #[.slice a bs.length cap, .int .i64 blk] w fun e w' => KeptPost w bs (okB bs && inB blk 0 3) e w' := at_any' zFs fours_z rfl zero_fs a cap blk bs w hf hm

/-- The list of the blocks, in rows of its own. -/
def ListPost (w : World) (bs : List Bk) (e : Ending) (w' : World) : Prop := ∃ g G, e = .returned (.slice (some ⟨g, 0, none⟩) 4 4) ∧ Own w' w.heap.size g G bs 4 ∧ Below w.heap.size w w'
theorem made_bs : (Try.prog.info? 36).map (fun i => (i.zero, i.size, i.bytes)) = some (some (.agg #[.slice none 0 0, .int .i64 0]), 2, 32) := by kernel_rfl

set_option maxRecDepth 100000 in
set_option maxHeartbeats 1000000 in
theorem list_any (bs : List Bk) (h4 : bs.length = 4) (hF : Fours bs) (w : World) :
    Calls Try.prog 69 #[.agg (fsC bs).toArray] w fun e w' => ListPost w bs e w' := by
  have r0 := rangeAt_new w (fsC bs) 73
  have r1 := World.rangeAt_alloc r0 (.cells (madeCells #[.slice none 0 0, .int .i64 0] 8) 36)
  have t1 : ((w.alloc (.cells (fsC bs).toArray 73)).alloc (.cells (madeCells #[.slice none 0 0, .int .i64 0] 8) 36)).there (w.heap.size + 1) 0 8 := by
    have := there_new (w.alloc (.cells (fsC bs).toArray 73)) (madeCells #[.slice none 0 0, .int .i64 0] 8).toList 36
    rw [Array.length_toList, size_madeCells, World.size_alloc] at this
    exact this
  have b0 : Below w.heap.size w ((w.alloc (.cells (fsC bs).toArray 73)).alloc (.cells (madeCells #[.slice none 0 0, .int .i64 0] 8) 36)) := ((Below.refl _ _).alloc (Nat.le_refl _) _).alloc (by simp) _
  go_enter Try.func69, Try.ntmps69
  go_wp2_with (first | (refine wpList_box_big rfl _ _ rfl (fsC bs).toArray rfl ?_) | (refine wpList_make_big rfl 23 _ _ rfl 4 rfl rfl 36 2 32 _ Try.underlying23 made_bs (by omega) (by omega) ?_) | (refine wpList_load_mid rfl 73 _ rfl w.heap.size 0 rfl (fsC bs) _ r1 Try.underlying73 rfl (size_fsl hF h4) ?_))
  clear r0 r1
  generalize hw1 : (w.alloc (.cells (fsC bs).toArray 73)).alloc (.cells (madeCells #[.slice none 0 0, .int .i64 0] 8) 36) = w1 at *
  have s1 : w.heap.size + 1 < w1.heap.size := by rw [← hw1]; simp
  clear hw1
  have o1 : Own w1 w.heap.size (w.heap.size + 1) [] [] 4 := Own.start (by omega) s1 t1
  clear t1
  go_loopw [8] (fun i w' => ∃ k : Nat, k ≤ 4 ∧ i = .int .i64 k ∧ (∃ G, Own w' w.heap.size (w.heap.size + 1) G (bs.take k) 4) ∧ Below w.heap.size w w') (fun i _ => 4 - (intOf i).toNat)
  case atStart => exact ⟨0, by omega, rfl, ⟨[], by simpa using o1⟩, b0⟩
  case round =>
    obtain ⟨k, hk, rfl, ⟨G, ok⟩, bw⟩ := hrel
    clear o1 b0
    by_cases h0 : k = 4
    · subst h0
      rw [List.take_of_length_le (by omega)] at ok
      go_wp2
      go_ret
      exact ⟨_, G, rfl, ok, bw⟩
    · have hlt : (k : Int) < 4 := by omega
      have hkb : k < bs.length := by omega
      have hlo : (0 : Int) ≤ (k : Int) := by omega
      have hex := ext_fs hF k hkb
      have hb4 : bs[k].ps.length = 4 := hF.at k hkb
      have HE := hide hex
      have HT := hide (List.take_succ_eq_append_getElem hkb)
      clear hex
      generalize bs[k] = b at *
      go_wp2_with (first | (refine wpList_index_big rfl 73 _ _ rfl (fsC bs).toArray _ (k : Int) rfl rfl 71 4 21 _ Try.underlying73 Try.underlying71 rfl (by kernel_rfl) hlo hlt (unhide HE) ?_) | (refine wpList_alloc_big rfl 71 rfl (bkC zBk).toArray zero_bk ?_) | (refine wpList_store_new rfl 71 _ _ rfl wr (bkC zBk).toArray (bkC b).toArray rfl rfl rfl (size_bk hb4) (same_bk hb4) (one_bk b) ?_))
      have rb := rangeAt_new wr (bkC b) 71
      have r2 := range_bk rb
      have c20 := worn_bk hb4 rb
      rw [Nat.zero_add] at c20
      have bb3 : Below wr.heap.size wr (wr.alloc (.cells (bkC b).toArray 71)) := (Below.refl _ _).alloc (Nat.le_refl _) _
      have o2 := ok.below bb3 (Nat.le_refl _)
      have B2 := bw.alloc bw.size (.cells (bkC b).toArray 71)
      have hgb := ok.hi (w.heap.size + 1) (by simp)
      have s2 : wr.heap.size < (wr.alloc (.cells (bkC b).toArray 71)).heap.size := by simp
      clear rb bb3 ok bw
      generalize wr.alloc (.cells (bkC b).toArray 71) = w2 at *
      generalize wr.heap.size = bb at *
      refine wp_region_noPanic ?_
      refine wp_region_held_drew (S := fun w' => w'.rangeAt bb 0 (psC b.ps) ∧ w'.cell? ⟨bb, 20, none⟩ = some (.int .i64 b.wn)) (by kernel_rfl) ⟨by simpa using r2, by simpa using c20⟩ (fun hHeld => ?_)
      have o3 := Own.below o2 ((Below.refl w2.heap.size w2).drew) (Nat.le_refl _)
      clear r2 c20 o2
      refine takeL 0 (.slice (some ⟨w.heap.size + 1, 0, none⟩) 4 4) rfl (by kernel_rfl) (by kernel_rfl) (by kernel_rfl) (fun _ _ _ h => h) (Or.inl ⟨rfl, fun _ _ => rfl⟩) hHeld ?_
      try simp only [Act.put, List.setIfInBounds_toArray, List.set_cons_zero, List.set_cons_succ]
      refine takeL 1 (.int .i64 k) rfl (by kernel_rfl) (by kernel_rfl) (by kernel_rfl) (fun _ _ _ h => h) (Or.inl ⟨rfl, fun _ _ => rfl⟩) hHeld ?_
      try simp only [Act.put, List.setIfInBounds_toArray, List.set_cons_zero, List.set_cons_succ]
      refine takeL 2 (.pointer (some ⟨bb, 0, none⟩)) rfl (by kernel_rfl) (by kernel_rfl) (by kernel_rfl) (fun _ _ _ h => h) (Or.inl ⟨rfl, fun w9 hSw => by go_simp⟩) hHeld ?_
      try simp only [Act.put, List.setIfInBounds_toArray, List.set_cons_zero, List.set_cons_succ]
      refine takeL 3 (_) rfl (by kernel_rfl) (by kernel_rfl) (by kernel_rfl) (fun _ _ _ h => h) (yieldsIf_load_mid rfl 69 _ rfl bb 0 rfl (psC b.ps) _ (fun _ h => h.1) Try.underlying69 rfl (size_row hb4)) hHeld ?_
      try simp only [Act.put, List.setIfInBounds_toArray, List.set_cons_zero, List.set_cons_succ]
      refine takeL 5 (.pointer (some ⟨bb, 20, none⟩)) rfl (by kernel_rfl) (by kernel_rfl) (by kernel_rfl) (fun _ _ _ h => h) (Or.inl ⟨rfl, fun w9 hSw => by go_simp⟩) hHeld ?_
      try simp only [Act.put, List.setIfInBounds_toArray, List.set_cons_zero, List.set_cons_succ]
      refine takeL 6 (.int .i64 b.wn) rfl (by kernel_rfl) (by kernel_rfl) (by kernel_rfl) (fun _ _ _ h => h) (Or.inl ⟨rfl, fun w9 hSw => by have hc := hSw.2; go_simp⟩) hHeld ?_
      try simp only [Act.put, List.setIfInBounds_toArray, List.set_cons_zero, List.set_cons_succ]
      refine oneL 4 rfl (by kernel_rfl) rfl (fun K hK => ?_)
      go_simp
      refine (rowList_any b.ps hb4 _).mono ?_
      rintro e w4 ⟨rfl, rr, tt, ss, b4⟩
      go_wp2_with fail
      refine hK.out _ _ ⟨rangeAt_below hHeld.1 b4 (by simpa using s2), by rw [b4.cell (p := ⟨bb, 20, none⟩) (by simpa using s2)]; exact hHeld.2⟩ (fun hHeld4 => ?_)
      have o4 := o3.below b4 (Nat.le_refl _)
      have B4 := B2.drew.trans (b4.mono B2.size)
      have hlt3 := o3.hi
      have b4s := b4.size
      clear o3 B2 b4 hHeld
      clear hK K
      try simp only [World.size_drew] at *
      have hHeld := hHeld4
      try simp only [Act.put, List.setIfInBounds_toArray, List.set_cons_zero, List.set_cons_succ]
      refine takeL 7 (.agg #[.slice (some ⟨w2.heap.size + 1, 0, none⟩) 4 4, .int .i64 b.wn]) rfl (by kernel_rfl) (by kernel_rfl) (by kernel_rfl) (fun _ _ _ h => h) (Or.inl ⟨rfl, fun w9 hSw => by go_simp⟩) hHeld ?_
      try simp only [Act.put, List.setIfInBounds_toArray, List.set_cons_zero, List.set_cons_succ]
      refine takeL 8 (.pointer (some ⟨w.heap.size + 1, k * 2, none⟩)) rfl (by kernel_rfl) (by kernel_rfl) (by kernel_rfl) (fun _ _ _ h => h) (Or.inl ⟨rfl, fun w9 hSw => by go_simp⟩) hHeld ?_
      try simp only [Act.put, List.setIfInBounds_toArray, List.set_cons_zero, List.set_cons_succ]
      refine oneL 9 rfl (by kernel_rfl) rfl (fun K hK => ?_)
      have tk : w4.there (w.heap.size + 1) (k * 2) 2 := by have := there_sub o4.room (k * 2) 2 (by omega); simpa using this
      refine wp_store_mid 36 _ _ rfl (w.heap.size + 1) (k * 2) #[.slice (some ⟨w2.heap.size + 1, 0, none⟩) 4 4, .int .i64 b.wn] rfl rfl tk (by kernel_rfl) (one_two rfl rfl) ?_
      have tl : (bs.take k).length = k := by simp; omega
      have op := o4.push (by omega) (w2.heap.size + 1) 4 b (by omega) (by omega) (fun h => by have := hlt3 _ h; omega) rr (by rw [hb4]; exact tt) (by omega)
      rw [tl, hb4] at op
      refine hK.out _ _ ⟨World.rangeAt_setCells_apart hHeld.1 _ _ _ (.inl (by omega)), by rw [cell_setCells_ne (.inl (by omega))]; exact hHeld.2⟩ (fun hHeld => ?_)
      clear hK K
      try simp only [Act.put, List.setIfInBounds_toArray, List.set_cons_zero, List.set_cons_succ]
      refine wpAnyH_done (by kernel_rfl) ?_ _
      refine NoPanic.normal ?_
      go_wp2
      go_roundw
      case rel =>
        refine ⟨k + 1, by omega, by first | rfl | go_num, ⟨G ++ [w2.heap.size + 1], by rw [unhide HT]; exact op⟩, below_setCells _ (by omega) _ _ _ B4⟩
      case measure => simp [intOf]; omega
end Go.Proofs.Ytogioeflbbmppaa.ImplT
