/-
  The program's functions on blocks, for every list of blocks: whether they are ok, how many pages are clean, what is written and what is wiped; each answer in memory of its own.
-/
import Derived.Test.YtbfklmlniepihaaOwn
import Derived.Deep.RegionHeld3
import Derived.Deep.DrawnRows
namespace Go.Proofs.Ytbfklmlniepihaa.ImplT
open Go.ChangeShapes Go.WideShapes Go.ChangeAt Go.RowKit OkA Big Fl ImplB ImplF ImplS Own
set_option linter.unusedVariables false
set_option linter.unusedSimpArgs false
attribute [local go_sem ↓] Go.wp_at_zero Go.wp_at_succ

set_option maxRecDepth 100000 in
set_option maxHeartbeats 1000000 in
theorem at_any' (zs : List Bk) (hzF : Fours zs) (hz4 : zs.length = 4) (hz : (Try.prog.info? 46).bind (·.zero) = some (.agg (fsC zs).toArray)) (a : Option Addr) (cap : Nat) (blk : Int) (bs : List Bk) (w : World) (hf : FsAt w a bs) (hm : bs.length ≤ 9223372036854775807) :
    Calls Try.prog 11 #[.slice a bs.length cap, .int .i64 blk] w fun e w' => KeptPost w bs (okB bs && inB blk 0 3) e w' := by
  have HZ := hide hz
  have HC := hide (of_any zs hzF hz4 hz a cap bs)
  clear hz
  have z84 : (fsC zs).length = 84 := by rw [len_fsC _ hzF, hz4]
  have hf1 := hide (hf.below ((Below.refl w.heap.size w).alloc (Nat.le_refl _) (.cells (fsC zs).toArray 46)))
  have t0 := there_new w (fsC zs) 46
  rw [z84] at t0
  go_enter Try.func11, Try.ntmps11
  go_wp2_with (first | (refine wpList_alloc_big rfl 46 rfl (fsC zs).toArray (unhide HZ) ?_))
  refine (unhide HC _ (unhide hf1) hm).mono ?_
  rintro e w1 ⟨ks, rfl, hk4, hkF, hke, b1⟩
  have s1 : w.heap.size < w1.heap.size := by have := b1.size; simp at this; omega
  have k84 : (fsC ks).length = 84 := by rw [len_fsC _ hkF, hk4]
  have hsz : (fsC zs).toArray.size = (fsC ks).toArray.size := by simp [z84, k84]
  have B1 : Below w.heap.size w w1 := ((Below.refl _ _).alloc (Nat.le_refl _) _).trans (b1.mono (by simp))
  have t1 := World.there_alloc (there_below t0 b1 (by simp)) (.cells (fsC ks).toArray 46)
  have r1 := rangeAt_new w1 (fsC ks) 46
  have B2 := B1.alloc B1.size (.cells (fsC ks).toArray 46)
  rw [← k84] at t1
  have hi70 := size_fsl hkF hk4
  clear b1 t0 z84 k84 B1
  go_wp2_with (first | (refine wpList_alloc_big rfl 46 rfl (fsC zs).toArray (unhide HZ) ?_) | (refine wpList_store_new rfl 46 _ _ rfl w1 (fsC zs).toArray (fsC ks).toArray rfl rfl rfl (size_fsa hkF hk4) hsz (one_fs ks) ?_))
  generalize hw2 : w1.alloc (.cells (fsC ks).toArray 46) = w2 at *
  have s2 : w1.heap.size < w2.heap.size := by rw [← hw2]; simp
  clear hw2
  cases hs : okB bs
  · clear hke
    refine wp_region_noPanic ?_
    refine wp_region_held_drew (S := fun w' => w'.rangeAt w1.heap.size 0 (fsC ks) ∧ w'.there w.heap.size 0 (fsC ks).length ∧ Below w.heap.size w w' ∧ w2.heap.size ≤ w'.heap.size) (by kernel_rfl) ⟨by simpa using r1, by simpa using t1, B2.drew, Nat.le_refl _⟩ (fun hHeld => ?_)
    clear r1 t1 B2
    refine takeL 0 (_) rfl (by kernel_rfl) (by kernel_rfl) (by kernel_rfl) (fun _ _ _ h => h) (yieldsIf_load_mid rfl 46 _ rfl w1.heap.size 0 rfl (fsC ks) _ (fun _ h => h.1) Try.underlying46 rfl hi70) hHeld ?_
    try simp only [Act.put, List.setIfInBounds_toArray, List.set_cons_zero, List.set_cons_succ]
    refine takeL 1 (.bool false) rfl (by kernel_rfl) (by kernel_rfl) (by kernel_rfl) (fun _ _ _ h => h) (Or.inl ⟨rfl, fun _ _ => rfl⟩) hHeld ?_
    try simp only [Act.put, List.setIfInBounds_toArray, List.set_cons_zero, List.set_cons_succ]
    refine takeL 2 (.bool false) rfl (by kernel_rfl) (by kernel_rfl) (by kernel_rfl) (fun _ _ _ h => h) (Or.inl ⟨rfl, fun _ _ => rfl⟩) hHeld ?_
    try simp only [Act.put, List.setIfInBounds_toArray, List.set_cons_zero, List.set_cons_succ]
    refine takeL 3 (undef) rfl (by kernel_rfl) (by kernel_rfl) (by kernel_rfl) (fun _ _ _ h => h) (Or.inr ⟨rfl, rfl⟩) hHeld ?_
    try simp only [Act.put, List.setIfInBounds_toArray, List.set_cons_zero, List.set_cons_succ]
    refine takeL 4 (undef) rfl (by kernel_rfl) (by kernel_rfl) (by kernel_rfl) (fun _ _ _ h => h) (Or.inr ⟨rfl, rfl⟩) hHeld ?_
    try simp only [Act.put, List.setIfInBounds_toArray, List.set_cons_zero, List.set_cons_succ]
    refine takeL 5 (.bool false) rfl (by kernel_rfl) (by kernel_rfl) (by kernel_rfl) (fun _ _ _ h => h) (Or.inl ⟨rfl, fun _ _ => rfl⟩) hHeld ?_
    try simp only [Act.put, List.setIfInBounds_toArray, List.set_cons_zero, List.set_cons_succ]
    refine oneL 6 rfl (by kernel_rfl) rfl (fun K hK => ?_)
    refine wp_store_mid 46 _ _ rfl w.heap.size 0 (fsC ks).toArray rfl rfl hHeld.2.1 (size_fsa hkF hk4) (one_fs ks) ?_
    have rr := World.rangeAt_setCells_same _ _ _ _ hHeld.2.1
    refine hK.out _ _ ⟨World.rangeAt_setCells_apart hHeld.1 _ _ _ (.inl (by omega)), World.there_setCells hHeld.2.1 _ _ _, below_setCells _ (Nat.le_refl _) _ _ _ hHeld.2.2.1, by rw [size_setCells]; exact hHeld.2.2.2⟩ (fun hHeld => ?_)
    clear hK K
    try simp only [Act.put, List.setIfInBounds_toArray, List.set_cons_zero, List.set_cons_succ]
    refine takeL 7 (.bool false) rfl (by kernel_rfl) (by kernel_rfl) (by kernel_rfl) (fun _ _ _ h => h) (Or.inl ⟨rfl, fun _ _ => rfl⟩) hHeld ?_
    try simp only [Act.put, List.setIfInBounds_toArray, List.set_cons_zero, List.set_cons_succ]
    refine wpAnyH_done (by kernel_rfl) ?_ _
    refine NoPanic.normal ?_
    go_wp2_with (first | (refine bodyPost_ret (res_cell_tmp Try.results11 _ _ w.heap.size (fsC ks) _ rfl rr Try.underlying46 rfl hi70) rfl (unhide ?_)))
    exact hide ⟨ks, rfl, hk4, hkF, (by intro h; cases h), hHeld.2.2.1⟩
  · have HE := hide (hke hs)
    clear hke
    refine wp_region_noPanic ?_
    refine wp_region_held_drew (S := fun w' => w'.rangeAt w1.heap.size 0 (fsC ks) ∧ w'.there w.heap.size 0 (fsC ks).length ∧ Below w.heap.size w w' ∧ w2.heap.size ≤ w'.heap.size) (by kernel_rfl) ⟨by simpa using r1, by simpa using t1, B2.drew, Nat.le_refl _⟩ (fun hHeld => ?_)
    clear r1 t1 B2
    refine takeL 0 (_) rfl (by kernel_rfl) (by kernel_rfl) (by kernel_rfl) (fun _ _ _ h => h) (yieldsIf_load_mid rfl 46 _ rfl w1.heap.size 0 rfl (fsC ks) _ (fun _ h => h.1) Try.underlying46 rfl hi70) hHeld ?_
    try simp only [Act.put, List.setIfInBounds_toArray, List.set_cons_zero, List.set_cons_succ]
    refine takeL 1 (.bool true) rfl (by kernel_rfl) (by kernel_rfl) (by kernel_rfl) (fun _ _ _ h => h) (Or.inl ⟨rfl, fun _ _ => rfl⟩) hHeld ?_
    try simp only [Act.put, List.setIfInBounds_toArray, List.set_cons_zero, List.set_cons_succ]
    refine takeL 2 (.bool true) rfl (by kernel_rfl) (by kernel_rfl) (by kernel_rfl) (fun _ _ _ h => h) (Or.inl ⟨rfl, fun _ _ => rfl⟩) hHeld ?_
    try simp only [Act.put, List.setIfInBounds_toArray, List.set_cons_zero, List.set_cons_succ]
    refine takeL 3 (.int .i64 blk) rfl (by kernel_rfl) (by kernel_rfl) (by kernel_rfl) (fun _ _ _ h => h) (Or.inl ⟨rfl, fun _ _ => rfl⟩) hHeld ?_
    try simp only [Act.put, List.setIfInBounds_toArray, List.set_cons_zero, List.set_cons_succ]
    refine oneL 4 rfl (by kernel_rfl) rfl (fun K hK => ?_)
    go_simp
    refine (within_any _ _ _ _).mono ?_
    rintro e w3 ⟨rfl, rfl⟩
    go_wp2_with fail
    refine hK.out _ _ hHeld (fun hHeld => ?_)
    clear hK K
    try simp only [Act.put, List.setIfInBounds_toArray, List.set_cons_zero, List.set_cons_succ]
    refine takeL 5 (.bool (inB blk 0 3)) rfl (by kernel_rfl) (by kernel_rfl) (by kernel_rfl) (fun _ _ _ h => h) (Or.inl ⟨rfl, fun _ _ => rfl⟩) hHeld ?_
    try simp only [Act.put, List.setIfInBounds_toArray, List.set_cons_zero, List.set_cons_succ]
    refine oneL 6 rfl (by kernel_rfl) rfl (fun K hK => ?_)
    refine wp_store_mid 46 _ _ rfl w.heap.size 0 (fsC ks).toArray rfl rfl hHeld.2.1 (size_fsa hkF hk4) (one_fs ks) ?_
    have rr := World.rangeAt_setCells_same _ _ _ _ hHeld.2.1
    refine hK.out _ _ ⟨World.rangeAt_setCells_apart hHeld.1 _ _ _ (.inl (by omega)), World.there_setCells hHeld.2.1 _ _ _, below_setCells _ (Nat.le_refl _) _ _ _ hHeld.2.2.1, by rw [size_setCells]; exact hHeld.2.2.2⟩ (fun hHeld => ?_)
    clear hK K
    try simp only [Act.put, List.setIfInBounds_toArray, List.set_cons_zero, List.set_cons_succ]
    refine takeL 7 (.bool (inB blk 0 3)) rfl (by kernel_rfl) (by kernel_rfl) (by kernel_rfl) (fun _ _ _ h => h) (Or.inl ⟨rfl, fun _ _ => rfl⟩) hHeld ?_
    try simp only [Act.put, List.setIfInBounds_toArray, List.set_cons_zero, List.set_cons_succ]
    refine wpAnyH_done (by kernel_rfl) ?_ _
    refine NoPanic.normal ?_
    go_wp2_with (first | (refine bodyPost_ret (res_cell_tmp Try.results11 _ _ w.heap.size (fsC ks) _ rfl rr Try.underlying46 rfl hi70) rfl (unhide ?_)))
    exact hide ⟨ks, rfl, hk4, hkF, fun _ => unhide HE, hHeld.2.2.1⟩

theorem at_any (a : Option Addr) (cap : Nat) (blk : Int) (bs : List Bk) (w : World) (hf : FsAt w a bs) (hm : bs.length ≤ 9223372036854775807) :
    Calls Try.prog 11 #[.slice a bs.length cap, .int .i64 blk] w fun e w' => KeptPost w bs (okB bs && inB blk 0 3) e w' := at_any' zFs fours_z rfl zero_fs a cap blk bs w hf hm

/-- The list of the blocks, in rows of its own. -/
def ListPost (w : World) (bs : List Bk) (e : Ending) (w' : World) : Prop := ∃ g G, e = .returned (.slice (some ⟨g, 0, none⟩) 4 4) ∧ Own w' w.heap.size g G bs 4 ∧ Below w.heap.size w w'
theorem made_bs : (Try.prog.info? 34).map (fun i => (i.zero, i.size, i.bytes)) = some (some (.agg #[.slice none 0 0, .int .i64 0]), 2, 32) := by kernel_rfl

theorem here : True := trivial
end Go.Proofs.Ytbfklmlniepihaa.ImplT
