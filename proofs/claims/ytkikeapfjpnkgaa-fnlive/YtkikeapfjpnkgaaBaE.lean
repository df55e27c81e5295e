/-
  Texts that belong together, one behind the other: Own, ImplT, ImplU.
-/
import Derived.Test.YtkikeapfjpnkgaaImplS
import Derived.Deep.RegionHeld3
import Derived.Deep.DrawnRows

/-
  Blocks in memory of their own: a row of blocks, each with a row of pages, all rows apart from each other. Nothing here walks the program.
-/
namespace Go.Proofs.Ytkikeapfjpnkgaa.Own
open Go.ChangeShapes Go.WideShapes Go.ChangeAt Go.RowKit OkA Big Fl ImplS
set_option linter.unusedVariables false
set_option linter.unusedSimpArgs false

/-- Rows g, and G of the pages, from lo on, apart: the blocks bs are laid in them; the outer row has room for n. -/
structure Own (w : World) (lo g : Nat) (G : List Nat) (bs : List Bk) (n : Nat) : Prop where
  len : G.length = bs.length
  nd : (g :: G).Nodup
  lo : ∀ x ∈ g :: G, lo ≤ x
  hi : ∀ x ∈ g :: G, x < w.heap.size
  fit : bs.length ≤ n
  room : w.there g 0 (n * 2)
  out : ∀ i (hi : i < bs.length), ∃ cap, w.cell? ⟨g, i * 2, none⟩ = some (.slice (some ⟨G[i]'(by omega), 0, none⟩) bs[i].ps.length cap)
  worn : ∀ i (hi : i < bs.length), w.cell? ⟨g, i * 2 + 1, none⟩ = some (.int .i64 bs[i].wn)
  pgs : ∀ i (hi : i < bs.length), w.rangeAt (G[i]'(by omega)) 0 (psC bs[i].ps)
  free : ∀ i (hi : i < bs.length), w.there (G[i]'(by omega)) 0 (bs[i].ps.length * 5)
  caps : ∀ i (hi : i < bs.length) (a : Option Addr) (m c : Nat), w.cell? ⟨g, i * 2, none⟩ = some (.slice a m c) → m ≤ c

variable {w w' : World} {lo g n : Nat} {G : List Nat} {bs : List Bk}

theorem Own.fs (h : Own w lo g G bs n) : FsAt w (some ⟨g, 0, none⟩) bs := .inr ⟨g, 0, rfl, fun i hi => by
  obtain ⟨cap, hc⟩ := h.out i hi
  exact ⟨_, cap, by simpa using hc, by simpa using h.worn i hi, .inr ⟨_, 0, rfl, h.pgs i hi⟩⟩⟩
theorem Own.mono (h : Own w lo g G bs n) {lo' : Nat} (hl : lo' ≤ lo) : Own w lo' g G bs n :=
  ⟨h.len, h.nd, fun x hx => Nat.le_trans hl (h.lo x hx), h.hi, h.fit, h.room, h.out, h.worn, h.pgs, h.free, h.caps⟩
theorem Own.below (h : Own w lo g G bs n) {B : Nat} (hb : Below B w w') (hB : w.heap.size ≤ B) : Own w' lo g G bs n := by
  have hg : g < B := Nat.lt_of_lt_of_le (h.hi g (by simp)) hB
  have hG : ∀ i (hi : i < bs.length), G[i]'(by have := h.len; omega) < B := fun i hi => Nat.lt_of_lt_of_le (h.hi _ (by simp)) hB
  refine ⟨h.len, h.nd, h.lo, fun x hx => Nat.lt_of_lt_of_le (h.hi x hx) hb.size, h.fit, there_below h.room hb hg, fun i hi => ?_, fun i hi => ?_, fun i hi => rangeAt_below (h.pgs i hi) hb (hG i hi), fun i hi => there_below (h.free i hi) hb (hG i hi), fun i hi a m c hc => h.caps i hi a m c (by rw [hb.cell (p := ⟨g, i * 2, none⟩) hg] at hc; exact hc)⟩
  · obtain ⟨cap, hc⟩ := h.out i hi
    exact ⟨cap, by rw [hb.cell (p := ⟨g, i * 2, none⟩) hg]; exact hc⟩
  · rw [hb.cell (p := ⟨g, i * 2 + 1, none⟩) hg]; exact h.worn i hi
/-- A new outer row. -/
theorem Own.start (hg : lo ≤ g) (hl : g < w.heap.size) (hr : w.there g 0 (n * 2)) : Own w lo g [] [] n :=
  ⟨rfl, by simp, fun x hx => by simp at hx; subst hx; exact hg, fun x hx => by simp at hx; subst hx; exact hl, Nat.zero_le _, hr, fun i hi => by simp at hi, fun i hi => by simp at hi, fun i hi => by simp at hi, fun i hi => by simp at hi, fun i hi => by simp at hi⟩
theorem cell_setCells_ne {w : World} {b o b' o' : Nat} {vs : List Value} (h : b' ≠ b ∨ o' < o ∨ o + vs.length ≤ o') : (w.setCells b o vs).cell? ⟨b', o', none⟩ = w.cell? ⟨b', o', none⟩ :=
  World.cell?_setCells_out b vs o w ⟨b', o', none⟩ (fun hb _ => by
    simp only at hb
    rcases h with h | h
    · exact absurd hb h
    · exact h)
theorem cell_setCells_eq {w : World} {b o : Nat} {vs : List Value} (ht : w.there b o vs.length) (j : Nat) (hj : j < vs.length) : (w.setCells b o vs).cell? ⟨b, o + j, none⟩ = some vs[j] :=
  World.cell?_setCells_in b vs o w (fun i hi => (ht i hi).1) j hj
/-- One block more, its pages in a row p that is apart. -/
theorem Own.push (h : Own w lo g G bs n) (hn : bs.length < n) (p cap : Nat) (b : Bk) (hp : lo ≤ p) (hps : p < w.heap.size) (hpg : p ∉ g :: G) (hr : w.rangeAt p 0 (psC b.ps)) (ht : w.there p 0 (b.ps.length * 5)) (hcap : b.ps.length ≤ cap) :
    Own (w.setCells g (bs.length * 2) [.slice (some ⟨p, 0, none⟩) b.ps.length cap, .int .i64 b.wn]) lo g (G ++ [p]) (bs ++ [b]) n := by
  have hlen := h.len
  have hne : p ≠ g := fun e => hpg (by simp [e])
  have hGg : ∀ i (hi : i < bs.length), G[i]'(by omega) ≠ g := fun i hi e => by
    have := (List.nodup_cons.1 h.nd).1
    exact this (e ▸ List.getElem_mem (by omega))
  have room2 : w.there g (bs.length * 2) 2 := by
    have := there_sub h.room (bs.length * 2) 2 (by omega)
    simpa using this
  have c0 := cell_setCells_eq (w := w) (b := g) (o := bs.length * 2) (vs := [.slice (some ⟨p, 0, none⟩) b.ps.length cap, .int .i64 b.wn]) room2 0 (by simp)
  have c1 := cell_setCells_eq (w := w) (b := g) (o := bs.length * 2) (vs := [.slice (some ⟨p, 0, none⟩) b.ps.length cap, .int .i64 b.wn]) room2 1 (by simp)
  have ecap : ∀ i, i < (bs ++ [b]).length → ∀ (a : Option Addr) (m c : Nat), (w.setCells g (bs.length * 2) [.slice (some ⟨p, 0, none⟩) b.ps.length cap, .int .i64 b.wn]).cell? ⟨g, i * 2, none⟩ = some (.slice a m c) → m ≤ c := by
    intro i hi a m c hc
    simp only [List.length_append, List.length_singleton] at hi
    by_cases e : i < bs.length
    · rw [cell_setCells_ne (.inr (.inl (by omega)))] at hc
      exact h.caps i e a m c hc
    · obtain rfl : i = bs.length := by omega
      have c2 := c0
      simp only [Nat.add_zero, List.getElem_cons_zero] at c2
      rw [c2] at hc
      simp at hc
      obtain ⟨_, rfl, rfl⟩ := hc
      exact hcap
  refine ⟨by simp [hlen], ?_, ?_, ?_, by simp; omega, World.there_setCells h.room _ _ _, ?_, ?_, ?_, ?_, ecap⟩
  · rw [← List.cons_append]
    exact List.nodup_append.2 ⟨h.nd, by simp, fun x hx y hy => by simp at hy; subst hy; intro e; subst e; exact hpg hx⟩
  · intro x hx
    rw [← List.cons_append, List.mem_append] at hx
    rcases hx with hx | hx
    · exact h.lo x hx
    · simp at hx; subst hx; exact hp
  · intro x hx
    rw [size_setCells]
    rw [← List.cons_append, List.mem_append] at hx
    rcases hx with hx | hx
    · exact h.hi x hx
    · simp at hx; subst hx; exact hps
  · intro i hi
    simp only [List.length_append, List.length_singleton] at hi
    by_cases e : i < bs.length
    · obtain ⟨cp, hc⟩ := h.out i e
      refine ⟨cp, ?_⟩
      rw [cell_setCells_ne (.inr (.inl (by omega))), List.getElem_append_left (by omega), List.getElem_append_left e]
      exact hc
    · obtain rfl : i = bs.length := by omega
      refine ⟨cap, ?_⟩
      rw [List.getElem_append_right (by omega), List.getElem_append_right (by omega)]
      simpa [hlen] using c0
  · intro i hi
    simp only [List.length_append, List.length_singleton] at hi
    by_cases e : i < bs.length
    · rw [cell_setCells_ne (.inr (.inl (by omega))), List.getElem_append_left e]
      exact h.worn i e
    · obtain rfl : i = bs.length := by omega
      rw [List.getElem_append_right (by omega)]
      simpa using c1
  · intro i hi
    simp only [List.length_append, List.length_singleton] at hi
    by_cases e : i < bs.length
    · simp only [List.getElem_append_left e, List.getElem_append_left (show i < G.length by omega)]
      exact World.rangeAt_setCells_apart (h.pgs i e) _ _ _ (.inl (hGg i e))
    · obtain rfl : i = bs.length := by omega
      have e1 : (G ++ [p])[bs.length]'(by simp [hlen]) = p := by rw [List.getElem_append_right (by omega)]; simp [hlen]
      have e2 : (bs ++ [b])[bs.length]'(by simp) = b := by rw [List.getElem_append_right (by omega)]; simp
      simp only [e1, e2]
      exact World.rangeAt_setCells_apart hr _ _ _ (.inl hne)
  · intro i hi
    simp only [List.length_append, List.length_singleton] at hi
    by_cases e : i < bs.length
    · simp only [List.getElem_append_left e, List.getElem_append_left (show i < G.length by omega)]
      exact World.there_setCells (h.free i e) _ _ _
    · obtain rfl : i = bs.length := by omega
      have e1 : (G ++ [p])[bs.length]'(by simp [hlen]) = p := by rw [List.getElem_append_right (by omega)]; simp [hlen]
      have e2 : (bs ++ [b])[bs.length]'(by simp) = b := by rw [List.getElem_append_right (by omega)]; simp
      simp only [e1, e2]
      exact World.there_setCells ht _ _ _

/-- A list of blocks in new memory: empty, or rows of its own. -/
def NewFs (w : World) (lo : Nat) (v : Value) (bs : List Bk) : Prop :=
  (bs = [] ∧ ∃ a c, v = .slice a 0 c) ∨ ∃ g G cap, v = .slice (some ⟨g, 0, none⟩) bs.length cap ∧ Own w lo g G bs bs.length
theorem NewFs.form {v : Value} (h : NewFs w lo v bs) : ∃ a cap, v = .slice a bs.length cap ∧ FsAt w a bs := by
  rcases h with ⟨rfl, a, c, rfl⟩ | ⟨g, G, cap, rfl, h⟩
  · exact ⟨a, c, rfl, .inl rfl⟩
  · exact ⟨_, cap, rfl, h.fs⟩
theorem NewFs.below {v : Value} (h : NewFs w lo v bs) {B : Nat} (hb : Below B w w') (hB : w.heap.size ≤ B) : NewFs w' lo v bs := by
  rcases h with h | ⟨g, G, cap, rfl, h⟩
  · exact .inl h
  · exact .inr ⟨g, G, cap, rfl, h.below hb hB⟩
end Go.Proofs.Ytkikeapfjpnkgaa.Own

/-
  The program's functions on blocks, for every list of blocks: whether they are ok, how many pages are clean, what is written and what is wiped; each answer in memory of its own.
-/
namespace Go.Proofs.Ytkikeapfjpnkgaa.ImplT
open Go.ChangeShapes Go.WideShapes Go.ChangeAt Go.RowKit OkA Big Fl ImplB ImplF ImplS _root_.Go.Proofs.Ytkikeapfjpnkgaa.Own
set_option linter.unusedVariables false
set_option linter.unusedSimpArgs false
attribute [local go_sem ↓] Go.wp_at_zero Go.wp_at_succ

set_option maxRecDepth 100000 in
set_option maxHeartbeats 1000000 in
theorem at_any' (zs : List Bk) (hzF : Fours zs) (hz4 : zs.length = 4) (hz : (Try.prog.info? 75).bind (·.zero) = some (.agg (fsC zs).toArray)) (a : Option Addr) (cap : Nat) (blk : Int) (bs : List Bk) (w : World) (hf : FsAt w a bs) (hm : bs.length ≤ 9223372036854775807) :
    Calls Try.prog 49 #[.slice a bs.length cap, .int .i64 blk] w fun e w' => KeptPost w bs (okB bs && inB blk 0 3) e w' := by
  have HZ := hide hz
  have HC := hide (of_any zs hzF hz4 hz a cap bs)
  clear hz
  have z84 : (fsC zs).length = 84 := by rw [len_fsC _ hzF, hz4]
  have hf1 := hide (hf.below ((Below.refl w.heap.size w).alloc (Nat.le_refl _) (.cells (fsC zs).toArray 75)))
  have t0 := there_new w (fsC zs) 75
  rw [z84] at t0
  go_enter Try.func49, Try.ntmps49
  go_wp2_with (first | (refine wpList_alloc_big rfl 75 rfl (fsC zs).toArray (unhide HZ) ?_))
  refine (unhide HC _ (unhide hf1) hm).mono ?_
  rintro e w1 ⟨ks, rfl, hk4, hkF, hke, b1⟩
  have s1 : w.heap.size < w1.heap.size := by have := b1.size; simp at this; omega
  have k84 : (fsC ks).length = 84 := by rw [len_fsC _ hkF, hk4]
  have hsz : (fsC zs).toArray.size = (fsC ks).toArray.size := by simp [z84, k84]
  have B1 : Below w.heap.size w w1 := ((Below.refl _ _).alloc (Nat.le_refl _) _).trans (b1.mono (by simp))
  have t1 := World.there_alloc (there_below t0 b1 (by simp)) (.cells (fsC ks).toArray 75)
  have r1 := rangeAt_new w1 (fsC ks) 75
  have B2 := B1.alloc B1.size (.cells (fsC ks).toArray 75)
  rw [← k84] at t1
  have hi70 := size_fsl hkF hk4
  clear b1 t0 z84 k84 B1
  go_wp2_with (first | (refine wpList_alloc_big rfl 75 rfl (fsC zs).toArray (unhide HZ) ?_) | (refine wpList_store_new rfl 75 _ _ rfl w1 (fsC zs).toArray (fsC ks).toArray rfl rfl rfl (size_fsa hkF hk4) hsz (one_fs ks) ?_))
  generalize hw2 : w1.alloc (.cells (fsC ks).toArray 75) = w2 at *
  have s2 : w1.heap.size < w2.heap.size := by rw [← hw2]; simp
  clear hw2
  cases hs : okB bs
  · clear hke
    refine wp_region_noPanic ?_
    refine wp_region_held_drew (S := fun w' => w'.rangeAt w1.heap.size 0 (fsC ks) ∧ w'.there w.heap.size 0 (fsC ks).length ∧ Below w.heap.size w w' ∧ w2.heap.size ≤ w'.heap.size) (by kernel_rfl) ⟨by simpa using r1, by simpa using t1, B2.drew, Nat.le_refl _⟩ (fun hHeld => ?_)
    clear r1 t1 B2
    refine takeL 0 (_) rfl (by kernel_rfl) (by kernel_rfl) (by kernel_rfl) (fun _ _ _ h => h) (yieldsIf_load_mid rfl 75 _ rfl w1.heap.size 0 rfl (fsC ks) _ (fun _ h => h.1) Try.underlying75 rfl hi70) hHeld ?_
    try simp only [Act.put, List.setIfInBounds_toArray, List.set_cons_zero, List.set_cons_succ]
    refine takeL 1 (.bool false) rfl (by kernel_rfl) (by kernel_rfl) (by kernel_rfl) (fun _ _ _ h => h) (Or.inl ⟨rfl, fun _ _ => rfl⟩) hHeld ?_
    try simp only [Act.put, List.setIfInBounds_toArray, List.set_cons_zero, List.set_cons_succ]
    refine takeL 2 (.bool false) rfl (by kernel_rfl) (by kernel_rfl) (by kernel_rfl) (fun _ _ _ h => h) (Or.inl ⟨rfl, fun _ _ => rfl⟩) hHeld ?_
    try simp only [Act.put, List.setIfInBounds_toArray, List.set_cons_zero, List.set_cons_succ]
    refine takeL 3 (undef) rfl (by kernel_rfl) (by kernel_rfl) (by kernel_rfl) (fun _ _ _ h => h) (Or.inr ⟨rfl, rfl⟩) hHeld ?_
    try simp only [Act.put, List.setIfInBounds_toArray, List.set_cons_zero, List.set_cons_succ]
    refine takeL 4 (undef) rfl (by kernel_rfl) (by kernel_rfl) (by kernel_rfl) (fun _ _ _ h => h) (Or.inr ⟨rfl, rfl⟩) hHeld ?_
    try simp only [Act.put, List.setIfInBounds_toArray, List.set_cons_zero, List.set_cons_succ]
    refine takeL 5 (.bool false) rfl (by kernel_rfl) (by kernel_rfl) (by kernel_rfl) (fun _ _ _ h => h) (Or.inl ⟨rfl, fun _ _ => rfl⟩) hHeld ?_
    try simp only [Act.put, List.setIfInBounds_toArray, List.set_cons_zero, List.set_cons_succ]
    refine oneL 6 rfl (by kernel_rfl) rfl (fun K hK => ?_)
    refine wp_store_mid 75 _ _ rfl w.heap.size 0 (fsC ks).toArray rfl rfl hHeld.2.1 (size_fsa hkF hk4) (one_fs ks) ?_
    have rr := World.rangeAt_setCells_same _ _ _ _ hHeld.2.1
    refine hK.out _ _ ⟨World.rangeAt_setCells_apart hHeld.1 _ _ _ (.inl (by omega)), World.there_setCells hHeld.2.1 _ _ _, below_setCells _ (Nat.le_refl _) _ _ _ hHeld.2.2.1, by rw [size_setCells]; exact hHeld.2.2.2⟩ (fun hHeld => ?_)
    clear hK K
    try simp only [Act.put, List.setIfInBounds_toArray, List.set_cons_zero, List.set_cons_succ]
    refine takeL 7 (.bool false) rfl (by kernel_rfl) (by kernel_rfl) (by kernel_rfl) (fun _ _ _ h => h) (Or.inl ⟨rfl, fun _ _ => rfl⟩) hHeld ?_
    try simp only [Act.put, List.setIfInBounds_toArray, List.set_cons_zero, List.set_cons_succ]
    refine wpAnyH_done (by kernel_rfl) ?_ _
    refine NoPanic.normal ?_
    go_wp2_with (first | (refine bodyPost_ret (res_cell_tmp Try.results49 _ _ w.heap.size (fsC ks) _ rfl rr Try.underlying75 rfl hi70) rfl (unhide ?_)))
    exact hide ⟨ks, rfl, hk4, hkF, (by intro h; cases h), hHeld.2.2.1⟩
  · have HE := hide (hke hs)
    clear hke
    refine wp_region_noPanic ?_
    refine wp_region_held_drew (S := fun w' => w'.rangeAt w1.heap.size 0 (fsC ks) ∧ w'.there w.heap.size 0 (fsC ks).length ∧ Below w.heap.size w w' ∧ w2.heap.size ≤ w'.heap.size) (by kernel_rfl) ⟨by simpa using r1, by simpa using t1, B2.drew, Nat.le_refl _⟩ (fun hHeld => ?_)
    clear r1 t1 B2
    refine takeL 0 (_) rfl (by kernel_rfl) (by kernel_rfl) (by kernel_rfl) (fun _ _ _ h => h) (yieldsIf_load_mid rfl 75 _ rfl w1.heap.size 0 rfl (fsC ks) _ (fun _ h => h.1) Try.underlying75 rfl hi70) hHeld ?_
    try simp only [Act.put, List.setIfInBounds_toArray, List.set_cons_zero, List.set_cons_succ]
    refine takeL 1 (.bool true) rfl (by kernel_rfl) (by kernel_rfl) (by kernel_rfl) (fun _ _ _ h => h) (Or.inl ⟨rfl, fun _ _ => rfl⟩) hHeld ?_
    try simp only [Act.put, List.setIfInBounds_toArray, List.set_cons_zero, List.set_cons_succ]
    refine takeL 2 (.bool true) rfl (by kernel_rfl) (by kernel_rfl) (by kernel_rfl) (fun _ _ _ h => h) (Or.inl ⟨rfl, fun _ _ => rfl⟩) hHeld ?_
    try simp only [Act.put, List.setIfInBounds_toArray, List.set_cons_zero, List.set_cons_succ]
    refine takeL 3 (.int .i64 blk) rfl (by kernel_rfl) (by kernel_rfl) (by kernel_rfl) (fun _ _ _ h => h) (Or.inl ⟨rfl, fun _ _ => rfl⟩) hHeld ?_
    try simp only [Act.put, List.setIfInBounds_toArray, List.set_cons_zero, List.set_cons_succ]
    refine oneL 4 rfl (by kernel_rfl) rfl (fun K hK => ?_)
    go_simp
    refine (within_any _ _ _ _).mono ?_
    rintro e w3 ⟨rfl, rfl⟩
    go_wp2_with fail
    refine hK.out _ _ hHeld (fun hHeld => ?_)
    clear hK K
    try simp only [Act.put, List.setIfInBounds_toArray, List.set_cons_zero, List.set_cons_succ]
    refine takeL 5 (.bool (inB blk 0 3)) rfl (by kernel_rfl) (by kernel_rfl) (by kernel_rfl) (fun _ _ _ h => h) (Or.inl ⟨rfl, fun _ _ => rfl⟩) hHeld ?_
    try simp only [Act.put, List.setIfInBounds_toArray, List.set_cons_zero, List.set_cons_succ]
    refine oneL 6 rfl (by kernel_rfl) rfl (fun K hK => ?_)
    refine wp_store_mid 75 _ _ rfl w.heap.size 0 (fsC ks).toArray rfl rfl hHeld.2.1 (size_fsa hkF hk4) (one_fs ks) ?_
    have rr := World.rangeAt_setCells_same _ _ _ _ hHeld.2.1
    refine hK.out _ _ ⟨World.rangeAt_setCells_apart hHeld.1 _ _ _ (.inl (by omega)), World.there_setCells hHeld.2.1 _ _ _, below_setCells _ (Nat.le_refl _) _ _ _ hHeld.2.2.1, by rw [size_setCells]; exact hHeld.2.2.2⟩ (fun hHeld => ?_)
    clear hK K
    try simp only [Act.put, List.setIfInBounds_toArray, List.set_cons_zero, List.set_cons_succ]
    refine takeL 7 (.bool (inB blk 0 3)) rfl (by kernel_rfl) (by kernel_rfl) (by kernel_rfl) (fun _ _ _ h => h) (Or.inl ⟨rfl, fun _ _ => rfl⟩) hHeld ?_
    try simp only [Act.put, List.setIfInBounds_toArray, List.set_cons_zero, List.set_cons_succ]
    refine wpAnyH_done (by kernel_rfl) ?_ _
    refine NoPanic.normal ?_
    go_wp2_with (first | (refine bodyPost_ret (res_cell_tmp Try.results49 _ _ w.heap.size (fsC ks) _ rfl rr Try.underlying75 rfl hi70) rfl (unhide ?_)))
    exact hide ⟨ks, rfl, hk4, hkF, fun _ => unhide HE, hHeld.2.2.1⟩

theorem at_any (a : Option Addr) (cap : Nat) (blk : Int) (bs : List Bk) (w : World) (hf : FsAt w a bs) (hm : bs.length ≤ 9223372036854775807) :
    Calls Try.prog 49 #[.slice a bs.length cap, .int .i64 blk] w fun e w' => KeptPost w bs (okB bs && inB blk 0 3) e w' := at_any' zFs fours_z rfl zero_fs a cap blk bs w hf hm

/-- The list of the blocks, in rows of its own. -/
def ListPost (w : World) (bs : List Bk) (e : Ending) (w' : World) : Prop := ∃ g G, e = .returned (.slice (some ⟨g, 0, none⟩) 4 4) ∧ Own w' w.heap.size g G bs 4 ∧ Below w.heap.size w w'
theorem made_bs : (Try.prog.info? 36).map (fun i => (i.zero, i.size, i.bytes)) = some (some (.agg #[.slice none 0 0, .int .i64 0]), 2, 32) := by kernel_rfl

set_option maxRecDepth 100000 in
set_option maxHeartbeats 1000000 in
theorem list_any (bs : List Bk) (h4 : bs.length = 4) (hF : Fours bs) (w : World) :
    Calls Try.prog 52 #[.agg (fsC bs).toArray] w fun e w' => ListPost w bs e w' := by
  have r0 := rangeAt_new w (fsC bs) 75
  have r1 := World.rangeAt_alloc r0 (.cells (madeCells #[.slice none 0 0, .int .i64 0] 8) 36)
  have t1 : ((w.alloc (.cells (fsC bs).toArray 75)).alloc (.cells (madeCells #[.slice none 0 0, .int .i64 0] 8) 36)).there (w.heap.size + 1) 0 8 := by
    have := there_new (w.alloc (.cells (fsC bs).toArray 75)) (madeCells #[.slice none 0 0, .int .i64 0] 8).toList 36
    rw [Array.length_toList, size_madeCells, World.size_alloc] at this
    exact this
  have b0 : Below w.heap.size w ((w.alloc (.cells (fsC bs).toArray 75)).alloc (.cells (madeCells #[.slice none 0 0, .int .i64 0] 8) 36)) := ((Below.refl _ _).alloc (Nat.le_refl _) _).alloc (by simp) _
  go_enter Try.func52, Try.ntmps52
  go_wp2_with (first | (refine wpList_box_big rfl _ _ rfl (fsC bs).toArray rfl ?_) | (refine wpList_make_big rfl 23 _ _ rfl 4 rfl rfl 36 2 32 _ Try.underlying23 made_bs (by omega) (by omega) ?_) | (refine wpList_load_mid rfl 75 _ rfl w.heap.size 0 rfl (fsC bs) _ r1 Try.underlying75 rfl (size_fsl hF h4) ?_))
  clear r0 r1
  generalize hw1 : (w.alloc (.cells (fsC bs).toArray 75)).alloc (.cells (madeCells #[.slice none 0 0, .int .i64 0] 8) 36) = w1 at *
  have s1 : w.heap.size + 1 < w1.heap.size := by rw [← hw1]; simp
  clear hw1
  have o1 : Own w1 w.heap.size (w.heap.size + 1) [] [] 4 := Own.start (by omega) s1 t1
  clear t1
  go_loopw [8] (fun i w' => ∃ k : Nat, k ≤ 4 ∧ i = .int .i64 k ∧ (∃ G, Own w' w.heap.size (w.heap.size + 1) G (bs.take k) 4) ∧ Below w.heap.size w w') (fun i _ => 4 - (intOf i).toNat)
  case atStart => exact ⟨0, by omega, rfl, ⟨[], by simpa using o1⟩, b0⟩
  case round =>
    obtain ⟨k, hk, rfl, ⟨G, ok⟩, bw⟩ := hrel
    clear o1 b0
    by_cases h0 : k = 4
    · subst h0
      rw [List.take_of_length_le (by omega)] at ok
      go_wp2
      go_ret
      exact ⟨_, G, rfl, ok, bw⟩
    · have hlt : (k : Int) < 4 := by omega
      have hkb : k < bs.length := by omega
      have hlo : (0 : Int) ≤ (k : Int) := by omega
      have hex := ext_fs hF k hkb
      have hb4 : bs[k].ps.length = 4 := hF.at k hkb
      have HE := hide hex
      have HT := hide (List.take_succ_eq_append_getElem hkb)
      clear hex
      generalize bs[k] = b at *
      go_wp2_with (first | (refine wpList_index_big rfl 75 _ _ rfl (fsC bs).toArray _ (k : Int) rfl rfl 73 4 21 _ Try.underlying75 Try.underlying73 rfl (by kernel_rfl) hlo hlt (unhide HE) ?_) | (refine wpList_alloc_big rfl 73 rfl (bkC zBk).toArray zero_bk ?_) | (refine wpList_store_new rfl 73 _ _ rfl wr (bkC zBk).toArray (bkC b).toArray rfl rfl rfl (size_bk hb4) (same_bk hb4) (one_bk b) ?_))
      have rb := rangeAt_new wr (bkC b) 73
      have r2 := range_bk rb
      have c20 := worn_bk hb4 rb
      rw [Nat.zero_add] at c20
      have bb3 : Below wr.heap.size wr (wr.alloc (.cells (bkC b).toArray 73)) := (Below.refl _ _).alloc (Nat.le_refl _) _
      have o2 := ok.below bb3 (Nat.le_refl _)
      have B2 := bw.alloc bw.size (.cells (bkC b).toArray 73)
      have hgb := ok.hi (w.heap.size + 1) (by simp)
      have s2 : wr.heap.size < (wr.alloc (.cells (bkC b).toArray 73)).heap.size := by simp
      clear rb bb3 ok bw
      generalize wr.alloc (.cells (bkC b).toArray 73) = w2 at *
      generalize wr.heap.size = bb at *
      refine wp_region_noPanic ?_
      refine wp_region_held_drew (S := fun w' => w'.rangeAt bb 0 (psC b.ps) ∧ w'.cell? ⟨bb, 20, none⟩ = some (.int .i64 b.wn)) (by kernel_rfl) ⟨by simpa using r2, by simpa using c20⟩ (fun hHeld => ?_)
      have o3 := Own.below o2 ((Below.refl w2.heap.size w2).drew) (Nat.le_refl _)
      clear r2 c20 o2
      refine takeL 0 (.slice (some ⟨w.heap.size + 1, 0, none⟩) 4 4) rfl (by kernel_rfl) (by kernel_rfl) (by kernel_rfl) (fun _ _ _ h => h) (Or.inl ⟨rfl, fun _ _ => rfl⟩) hHeld ?_
      try simp only [Act.put, List.setIfInBounds_toArray, List.set_cons_zero, List.set_cons_succ]
      refine takeL 1 (.int .i64 k) rfl (by kernel_rfl) (by kernel_rfl) (by kernel_rfl) (fun _ _ _ h => h) (Or.inl ⟨rfl, fun _ _ => rfl⟩) hHeld ?_
      try simp only [Act.put, List.setIfInBounds_toArray, List.set_cons_zero, List.set_cons_succ]
      refine takeL 2 (.pointer (some ⟨bb, 0, none⟩)) rfl (by kernel_rfl) (by kernel_rfl) (by kernel_rfl) (fun _ _ _ h => h) (Or.inl ⟨rfl, fun w9 hSw => by go_simp⟩) hHeld ?_
      try simp only [Act.put, List.setIfInBounds_toArray, List.set_cons_zero, List.set_cons_succ]
      refine takeL 3 (_) rfl (by kernel_rfl) (by kernel_rfl) (by kernel_rfl) (fun _ _ _ h => h) (yieldsIf_load_mid rfl 71 _ rfl bb 0 rfl (psC b.ps) _ (fun _ h => h.1) Try.underlying71 rfl (size_row hb4)) hHeld ?_
      try simp only [Act.put, List.setIfInBounds_toArray, List.set_cons_zero, List.set_cons_succ]
      refine takeL 5 (.pointer (some ⟨bb, 20, none⟩)) rfl (by kernel_rfl) (by kernel_rfl) (by kernel_rfl) (fun _ _ _ h => h) (Or.inl ⟨rfl, fun w9 hSw => by go_simp⟩) hHeld ?_
      try simp only [Act.put, List.setIfInBounds_toArray, List.set_cons_zero, List.set_cons_succ]
      refine takeL 6 (.int .i64 b.wn) rfl (by kernel_rfl) (by kernel_rfl) (by kernel_rfl) (fun _ _ _ h => h) (Or.inl ⟨rfl, fun w9 hSw => by have hc := hSw.2; go_simp⟩) hHeld ?_
      try simp only [Act.put, List.setIfInBounds_toArray, List.set_cons_zero, List.set_cons_succ]
      refine oneL 4 rfl (by kernel_rfl) rfl (fun K hK => ?_)
      go_simp
      refine (rowList_any b.ps hb4 _).mono ?_
      rintro e w4 ⟨rfl, rr, tt, ss, b4⟩
      go_wp2_with fail
      refine hK.out _ _ ⟨rangeAt_below hHeld.1 b4 (by simpa using s2), by rw [b4.cell (p := ⟨bb, 20, none⟩) (by simpa using s2)]; exact hHeld.2⟩ (fun hHeld4 => ?_)
      have o4 := o3.below b4 (Nat.le_refl _)
      have B4 := B2.drew.trans (b4.mono B2.size)
      have hlt3 := o3.hi
      have b4s := b4.size
      clear o3 B2 b4 hHeld
      clear hK K
      try simp only [World.size_drew] at *
      have hHeld := hHeld4
      try simp only [Act.put, List.setIfInBounds_toArray, List.set_cons_zero, List.set_cons_succ]
      refine takeL 7 (.agg #[.slice (some ⟨w2.heap.size + 1, 0, none⟩) 4 4, .int .i64 b.wn]) rfl (by kernel_rfl) (by kernel_rfl) (by kernel_rfl) (fun _ _ _ h => h) (Or.inl ⟨rfl, fun w9 hSw => by go_simp⟩) hHeld ?_
      try simp only [Act.put, List.setIfInBounds_toArray, List.set_cons_zero, List.set_cons_succ]
      refine takeL 8 (.pointer (some ⟨w.heap.size + 1, k * 2, none⟩)) rfl (by kernel_rfl) (by kernel_rfl) (by kernel_rfl) (fun _ _ _ h => h) (Or.inl ⟨rfl, fun w9 hSw => by go_simp⟩) hHeld ?_
      try simp only [Act.put, List.setIfInBounds_toArray, List.set_cons_zero, List.set_cons_succ]
      refine oneL 9 rfl (by kernel_rfl) rfl (fun K hK => ?_)
      have tk : w4.there (w.heap.size + 1) (k * 2) 2 := by have := there_sub o4.room (k * 2) 2 (by omega); simpa using this
      refine wp_store_mid 36 _ _ rfl (w.heap.size + 1) (k * 2) #[.slice (some ⟨w2.heap.size + 1, 0, none⟩) 4 4, .int .i64 b.wn] rfl rfl tk (by kernel_rfl) (one_two rfl rfl) ?_
      have tl : (bs.take k).length = k := by simp; omega
      have op := o4.push (by omega) (w2.heap.size + 1) 4 b (by omega) (by omega) (fun h => by have := hlt3 _ h; omega) rr (by rw [hb4]; exact tt) (by omega)
      rw [tl, hb4] at op
      refine hK.out _ _ ⟨World.rangeAt_setCells_apart hHeld.1 _ _ _ (.inl (by omega)), by rw [cell_setCells_ne (.inl (by omega))]; exact hHeld.2⟩ (fun hHeld => ?_)
      clear hK K
      try simp only [Act.put, List.setIfInBounds_toArray, List.set_cons_zero, List.set_cons_succ]
      refine wpAnyH_done (by kernel_rfl) ?_ _
      refine NoPanic.normal ?_
      go_wp2
      go_roundw
      case rel =>
        refine ⟨k + 1, by omega, by first | rfl | go_num, ⟨G ++ [w2.heap.size + 1], by rw [unhide HT]; exact op⟩, below_setCells _ (by omega) _ _ _ B4⟩
      case measure => simp [intOf]; omega
end Go.Proofs.Ytkikeapfjpnkgaa.ImplT

/-
  The program's FlashOk, FlashClean and FlashNew, for every list of blocks.
-/
namespace Go.Proofs.Ytkikeapfjpnkgaa.ImplU
open Go.ChangeShapes Go.WideShapes Go.ChangeAt Go.RowKit OkA Big Fl ImplB ImplF ImplS _root_.Go.Proofs.Ytkikeapfjpnkgaa.Own ImplT
set_option linter.unusedVariables false
set_option linter.unusedSimpArgs false

theorem ofz_any (a : Option Addr) (cap : Nat) (bs : List Bk) (w : World) (hf : FsAt w a bs) (hm : bs.length ≤ 9223372036854775807) :
    Calls Try.prog 54 #[.slice a bs.length cap] w fun e w' => KeptPost w bs (okB bs) e w' := of_any zFs fours_z rfl zero_fs a cap bs w hf hm

/-- A zero row of blocks, without its cells. -/
theorem zrow : ∃ zf : Array Value, (Try.prog.info? 75).bind (·.zero) = some (.agg zf) ∧ zf.size = 84 := ⟨(fsC zFs).toArray, zero_fs, rfl⟩

set_option maxHeartbeats 400000 in
theorem flashOk_any (a : Option Addr) (cap : Nat) (bs : List Bk) (w : World) (hf : FsAt w a bs) (hm : bs.length ≤ 9223372036854775807) :
    Calls Try.prog 20 #[.slice a bs.length cap] w fun e w' => e = .returned (.bool (okB bs)) ∧ Below w.heap.size w w' := by
  obtain ⟨zf, hz, hz84⟩ := zrow
  have HZ := hide hz
  clear hz
  go_enter Try.func20, Try.ntmps20
  go_wp2_with fail
  refine (ofz_any a cap bs _ hf hm).mono ?_
  rintro e w1 ⟨ks, rfl, hk4, hkF, hke, b1⟩
  have hsz : zf.size = (fsC ks).toArray.size := by rw [hz84, List.size_toArray, len_fsC _ hkF, hk4]
  go_wp2_with (first | (refine wpList_alloc_big rfl 75 rfl zf (unhide HZ) ?_) | (refine wpList_store_new rfl 75 _ _ rfl w1 zf (fsC ks).toArray rfl rfl rfl (size_fsa hkF hk4) hsz (one_fs ks) ?_))
  go_ret
  exact ⟨rfl, b1.alloc b1.size _⟩

def cleanR (bs : List Bk) (blk : Int) : Int := if okB bs && inB blk 0 3 then 4 - usedN (bs.getD blk.toNat zBk).ps else -1
theorem ok_len {bs : List Bk} (h : okB bs = true) : bs.length = 4 := by
  simp only [okB, Bool.and_eq_true, beq_iff_eq] at h; exact h.1.1
theorem ok_fours {bs : List Bk} (h : okB bs = true) : Fours bs := fun b hb => by
  simp only [okB, Bool.and_eq_true, List.all_eq_true] at h
  have := h.1.2 b hb
  simp only [bkB, Bool.and_eq_true, beq_iff_eq] at this
  exact this.1.1.1
theorem in_range {blk : Int} (h : inB blk 0 3 = true) : ∃ k : Nat, blk = (k : Int) ∧ k < 4 := by
  simp only [inB, decide_eq_true_eq] at h
  exact ⟨blk.toNat, by omega, by omega⟩
theorem sub_fs {w : World} {g : Nat} {bs : List Bk} (hF : Fours bs) (h : w.rangeAt g 0 (fsC bs)) (k : Nat) (hk : k < bs.length) : w.rangeAt g (k * 21) (bkC bs[k]) := by
  have := rangeAt_sub h (k * 21) 21
  rw [part_fs bs hF k hk, Nat.zero_add] at this
  exact this

set_option maxHeartbeats 400000 in
theorem flashClean_any (a : Option Addr) (cap : Nat) (blk : Int) (bs : List Bk) (w : World) (hf : FsAt w a bs) (hm : bs.length ≤ 9223372036854775807) :
    Calls Try.prog 17 #[.slice a bs.length cap, .int .i64 blk] w fun e w' => e = .returned (.int .i64 (cleanR bs blk)) ∧ Below w.heap.size w w' := by
  obtain ⟨zf, hz, hz84⟩ := zrow
  have HZ := hide hz
  clear hz
  go_enter Try.func17, Try.ntmps17
  go_wp2_with fail
  refine (at_any a cap blk bs _ hf hm).mono ?_
  rintro e w1 ⟨ks, rfl, hk4, hkF, hke, b1⟩
  have hsz : zf.size = (fsC ks).toArray.size := by rw [hz84, List.size_toArray, len_fsC _ hkF, hk4]
  have r1 := rangeAt_new w1 (fsC ks) 75
  have B1 := b1.alloc b1.size (.cells (fsC ks).toArray 75)
  clear b1
  cases hs : okB bs && inB blk 0 3
  · have HR : Hid (cleanR bs blk = -1) := by unfold cleanR; rw [hs]; rfl
    clear hs hke
    go_wp2_with (first | (refine wpList_alloc_big rfl 75 rfl zf (unhide HZ) ?_) | (refine wpList_store_new rfl 75 _ _ rfl w1 zf (fsC ks).toArray rfl rfl rfl (size_fsa hkF hk4) hsz (one_fs ks) ?_))
    go_ret
    exact ⟨by rw [unhide HR]; rfl, B1⟩
  · obtain rfl := hke hs
    have hs2 := hs
    rw [Bool.and_eq_true] at hs2
    obtain ⟨k, rfl, hk⟩ := in_range hs2.2
    have hkb : k < ks.length := by omega
    have hb4 : ks[k].ps.length = 4 := hkF.at k hkb
    have HR : Hid (cleanR ks (k : Int) = 4 - usedN ks[k].ps) := by
      unfold cleanR; rw [hs, if_pos rfl, Int.toNat_natCast, List.getD_eq_getElem?_getD, List.getElem?_eq_getElem hkb]; rfl
    have r2 := sub_fs hkF r1 k hkb
    clear hs hs2 hke r1
    have hlo : (0 : Int) ≤ (k : Int) := by omega
    have hhi : (k : Int) < 4 := by omega
    generalize ks[k] = b at *
    have hu := usedN_le b.ps
    go_wp2_with (first | (refine wpList_alloc_big rfl 75 rfl zf (unhide HZ) ?_) | (refine wpList_store_new rfl 75 _ _ rfl w1 zf (fsC ks).toArray rfl rfl rfl (size_fsa hkF hk4) hsz (one_fs ks) ?_) | (refine wpList_load_mid rfl 73 _ rfl w1.heap.size (k * 21) rfl (bkC b) _ r2 Try.underlying73 rfl (size_bkl hb4) ?_))
    refine (used_any b hb4 _).mono ?_
    rintro e w2 ⟨rfl, b2⟩
    clear r2
    go_wp2
    go_ret
    exact ⟨by rw [unhide HR]; rfl, B1.trans (b2.mono B1.size)⟩

theorem built_new : Try.prog.built 75 [] = some (fsC zFs).toArray := by kernel_rfl

theorem here : True := trivial
end Go.Proofs.Ytkikeapfjpnkgaa.ImplU
