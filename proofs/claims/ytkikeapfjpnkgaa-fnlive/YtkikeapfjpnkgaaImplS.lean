/-
  The program's functions that bring blocks into the form in which it keeps them, and back into lists in new memory: for every list of blocks.
-/
import Derived.Test.YtkikeapfjpnkgaaImplF
import Derived.Deep.RegionHeld3
import Derived.Deep.DrawnRows
namespace Go.Proofs.Ytkikeapfjpnkgaa.ImplS
open Go.ChangeShapes Go.WideShapes Go.ChangeAt Go.RowKit OkA Big Fl ImplB ImplF
set_option linter.unusedVariables false
set_option linter.unusedSimpArgs false
attribute [local go_sem ↓] Go.wp_at_zero Go.wp_at_succ

def zPs : List Pg := [zPg, zPg, zPg, zPg]
theorem zero_ps : (Try.prog.info? 71).bind (·.zero) = some (.agg (psC zPs).toArray) := by kernel_rfl
theorem size_row {ps : List Pg} (h4 : ps.length = 4) : (Try.prog.info? 71).map (·.size) = some (psC ps).length := by
  rw [len_psC, h4]; kernel_rfl
theorem size_rowa {ps : List Pg} (h4 : ps.length = 4) : (Try.prog.info? 71).map (·.size) = some (psC ps).toArray.size := by
  rw [List.size_toArray, len_psC, h4]; kernel_rfl
theorem one_ps (ps : List Pg) : (psC ps).toArray.all (·.oneCell') = true := all_oneCell_toArray (one_psC ps)
theorem made_ps : (Try.prog.info? 33).map (fun i => (i.zero, i.size, i.bytes)) = some (some (.agg (pgC zPg).toArray), 5, 40) := by kernel_rfl
theorem made4 : madeCells (Value.agg (pgC zPg).toArray).cells (4 * 5) = (psC zPs).toArray := by kernel_rfl

set_option maxHeartbeats 400000 in
theorem rowOf_no' (zs : List Pg) (h4 : zs.length = 4) (hz : (Try.prog.info? 71).bind (·.zero) = some (.agg (psC zs).toArray)) (a : Option Addr) (n cap : Nat) (w : World) (h : ((n : Int) != 4) = true) :
    Calls Try.prog 103 #[.slice a n cap] w fun e w' => e = .returned (.tuple #[.agg (psC zs).toArray, .bool false]) ∧ Below w.heap.size w w' := by
  have t0 := World.there_alloc (there_new w (psC zs) 71) (.cells (psC zs).toArray 71)
  have r0 := rangeAt_new (w.alloc (.cells (psC zs).toArray 71)) (psC zs) 71
  simp only [World.size_alloc] at r0
  have HZ := hide hz
  clear hz
  go_enter Try.func103, Try.ntmps103
  go_wp2_with (first | (refine wpList_alloc_big rfl 71 rfl (psC zs).toArray (unhide HZ) ?_) | (refine wpList_load_mid rfl 71 _ rfl (w.heap.size + 1) 0 rfl (psC zs) _ r0 Try.underlying71 rfl (size_row h4) ?_) | (refine wpList_store_mid rfl 71 _ _ rfl w.heap.size 0 (psC zs).toArray rfl rfl t0 (size_rowa h4) (one_ps zs) ?_))
  exact bodyPost_ret (res_cell_tmp Try.results103 _ _ w.heap.size (psC zs) _ rfl (World.rangeAt_setCells_same _ _ _ _ t0) Try.underlying71 rfl (size_row h4)) rfl ⟨rfl, below_setCells _ (Nat.le_refl _) _ _ _ (((Below.refl _ _).alloc (Nat.le_refl _) _).alloc (by simp) _)⟩
theorem rowOf_no (a : Option Addr) (n cap : Nat) (w : World) (h : ((n : Int) != 4) = true) :
    Calls Try.prog 103 #[.slice a n cap] w fun e w' => e = .returned (.tuple #[.agg (psC zPs).toArray, .bool false]) ∧ Below w.heap.size w w' := rowOf_no' zPs rfl zero_ps a n cap w h

set_option maxHeartbeats 400000 in
theorem rowOf_yes (b d cap : Nat) (ps : List Pg) (w : World) (h4 : ps.length = 4) (hr : w.rangeAt b d (psC ps)) :
    Calls Try.prog 103 #[.slice (some ⟨b, d, none⟩) 4 cap] w fun e w' => e = .returned (.tuple #[.agg (psC ps).toArray, .bool true]) ∧ Below w.heap.size w w' := by
  have t0 := World.there_alloc (there_new w (psC zPs) 71) (.cells (psC zPs).toArray 71)
  have t1 := there_new (w.alloc (.cells (psC zPs).toArray 71)) (psC zPs) 71
  have r1 := World.rangeAt_alloc (World.rangeAt_alloc hr (.cells (psC zPs).toArray 71)) (.cells (psC zPs).toArray 71)
  have hl : (psC ps).length = 4 * 5 := by rw [len_psC, h4]
  have hz : (psC zPs).length = (psC ps).length := by rw [hl]; rfl
  simp only [World.size_alloc] at t1
  rw [hz] at t0 t1
  have t2 := World.there_setCells t0 (w.heap.size + 1) 0 (psC ps)
  have r2 := World.rangeAt_setCells_same _ _ _ _ t1
  have t1' := t1
  rw [hl] at t1'
  go_enter Try.func103, Try.ntmps103
  go_wp2_with (first | (refine wpList_alloc_big rfl 71 rfl (psC zPs).toArray zero_ps ?_) | (refine wpList_load_mid rfl 71 _ rfl (w.heap.size + 1) 0 rfl (psC ps) _ r2 Try.underlying71 rfl (size_row h4) ?_) | (refine wpList_store_mid rfl 71 _ _ rfl w.heap.size 0 (psC ps).toArray rfl rfl t2 (size_rowa h4) (one_ps ps) ?_) | (refine wpList_copy_big rfl _ _ _ _ rfl 33 (w.heap.size + 1) 0 4 4 ⟨b, d, none⟩ cap 5 (psC ps) Try.underlying34 (by kernel_rfl) rfl rfl hl (src_mid r1) t1' (one_psC ps) ?_))
  exact bodyPost_ret (res_cell_tmp Try.results103 _ _ w.heap.size (psC ps) _ rfl (World.rangeAt_setCells_same _ _ _ _ t2) Try.underlying71 rfl (size_row h4)) rfl ⟨rfl, below_setCells _ (Nat.le_refl _) _ _ _ (below_setCells _ (by omega) _ _ _ (((Below.refl _ _).alloc (Nat.le_refl _) _).alloc (by simp) _))⟩

set_option maxHeartbeats 400000 in
theorem rowList_any (ps : List Pg) (h4 : ps.length = 4) (w : World) :
    Calls Try.prog 80 #[.agg (psC ps).toArray] w fun e w' => e = .returned (.slice (some ⟨w.heap.size + 1, 0, none⟩) 4 4) ∧ w'.rangeAt (w.heap.size + 1) 0 (psC ps) ∧ w'.there (w.heap.size + 1) 0 20 ∧ w'.heap.size = w.heap.size + 2 ∧ Below w.heap.size w w' := by
  have r1 := World.rangeAt_alloc (rangeAt_new w (psC ps) 71) (.cells (psC zPs).toArray 33)
  have t1 := there_new (w.alloc (.cells (psC ps).toArray 71)) (psC zPs) 33
  have hl : (psC ps).length = 4 * 5 := by rw [len_psC, h4]
  have hz : (psC zPs).length = 4 * 5 := rfl
  simp only [World.size_alloc] at t1
  rw [hz] at t1
  have t2 := t1
  rw [← hl] at t2
  have hm := made4
  have HM := hide hm
  clear hm
  go_enter Try.func80, Try.ntmps80
  go_wp2_with (first | (refine wpList_box_big rfl _ _ rfl (psC ps).toArray rfl ?_) | (refine wpList_make_big rfl 34 _ _ rfl 4 rfl rfl 33 5 40 _ Try.underlying34 made_ps (by omega) (by omega) ?_; rw [unhide HM]) | (refine wpList_copy_big rfl _ _ _ _ rfl 33 (w.heap.size + 1) 0 4 4 ⟨w.heap.size, 0, none⟩ 4 5 (psC ps) Try.underlying34 (by kernel_rfl) rfl rfl hl (src_mid r1) t1 (one_psC ps) ?_))
  go_ret
  exact ⟨rfl, World.rangeAt_setCells_same _ _ _ _ t2, World.there_setCells t1 _ _ _, by rw [size_setCells]; simp, below_setCells _ (by omega) _ _ _ (((Below.refl _ _).alloc (Nat.le_refl _) _).alloc (by simp) _)⟩
/-! Blocks in a row of cells. -/
theorem range_app {w : World} {b o : Nat} {l1 l2 : List Value} : w.rangeAt b o (l1 ++ l2) ↔ w.rangeAt b o l1 ∧ w.rangeAt b (o + l1.length) l2 := by
  constructor
  · intro h
    refine ⟨fun j v hv => h j v (by rw [List.getElem?_append_left (List.getElem?_eq_some_iff.1 hv).1]; exact hv), fun j v hv => ?_⟩
    rw [Nat.add_assoc]
    exact h (l1.length + j) v (by rw [List.getElem?_append_right (by omega)]; simpa using hv)
  · rintro ⟨h1, h2⟩ j v hv
    by_cases hj : j < l1.length
    · exact h1 j v (by rwa [List.getElem?_append_left hj] at hv)
    · rw [List.getElem?_append_right (by omega)] at hv
      have := h2 (j - l1.length) v hv
      rwa [show o + l1.length + (j - l1.length) = o + j by omega] at this
/-- A part of the same length laid over a part. -/
theorem range_set {α : Type} (f : α → List Value) (n : Nat) {w : World} {g o : Nat} {xs : List α} (hf : ∀ x ∈ xs, (f x).length = n) (k : Nat) (hk : k < xs.length) (y : α) (hy : (f y).length = n)
    (h : w.rangeAt g o (xs.flatMap f)) (ht : w.there g (o + k * n) n) : (w.setCells g (o + k * n) (f y)).rangeAt g o ((xs.set k y).flatMap f) := by
  have e : xs = xs.take k ++ (xs[k] :: xs.drop (k + 1)) := by rw [← List.drop_eq_getElem_cons hk]; exact (List.take_append_drop k xs).symm
  have e2 : xs.set k y = xs.take k ++ (y :: xs.drop (k + 1)) := by rw [List.set_eq_take_append_cons_drop, if_pos hk]
  have hl : ((xs.take k).flatMap f).length = k * n := by
    have : ∀ l : List α, (∀ x ∈ l, (f x).length = n) → (l.flatMap f).length = l.length * n := by
      intro l; induction l with
      | nil => simp
      | cons x r ih => intro hh; simp only [List.flatMap_cons, List.length_append, ih (fun z hz => hh z (by simp [hz])), hh x (by simp), List.length_cons, Nat.add_mul]; omega
    rw [this _ (fun x hx => hf x (List.mem_of_mem_take hx)), List.length_take, Nat.min_eq_left (by omega)]
  have h' : w.rangeAt g o ((xs.take k).flatMap f ++ (f xs[k] ++ (xs.drop (k + 1)).flatMap f)) := by
    have q := h
    rw [e] at q
    simpa only [List.flatMap_append, List.flatMap_cons] using q
  rw [e2]
  simp only [List.flatMap_append, List.flatMap_cons]
  rw [range_app, range_app, hl] at h' ⊢
  have hxk : (f xs[k]).length = n := hf _ (List.getElem_mem hk)
  refine ⟨World.rangeAt_setCells_apart h'.1 _ _ _ (by rw [hl]; omega), World.rangeAt_setCells_same _ _ _ _ (by rw [hy]; exact ht), ?_⟩
  have h3 := h'.2.2
  rw [hxk] at h3
  rw [hy]
  exact World.rangeAt_setCells_apart h3 g (o + k * n) (f y) (.inr (.inr (by rw [hy]; exact Nat.le_refl _)))

def shB (bs : List Bk) : Bool := bs.length == 4 && bs.all fun b => b.ps.length == 4
def placesOf (P : Program) : Option TypeDesc → Option (List (Nat × Nat))
  | some (.struct fs) => fs.toList.mapM (fun f => (P.info? f.type).map fun i => (f.offset, i.size))
  | _ => none
theorem places_bk' : placesOf Try.prog (Try.prog.underlying 73) = some [(0, 20), (20, 1)] := by kernel_rfl
theorem places_bk (fs : Array Field) (h : Try.prog.underlying 73 = some (.struct fs)) : fs.toList.mapM (fun f => (Try.prog.info? f.type).map fun i => (f.offset, i.size)) = some [(0, 20), (20, 1)] := by
  have e := places_bk'
  rw [h] at e
  exact e
theorem built_bk (ps : List Pg) (q : Int) (h4 : ps.length = 4) : Try.prog.built 73 [(0, .agg (psC ps).toArray), (1, .int .i64 q)] = some (bkC ⟨ps, q⟩).toArray := by
  have h : ∀ (place : Nat → Option (Nat × Nat)), place 0 = some (0, 20) → place 1 = some (20, 1) → Instr.fill place (bkC zBk).toArray [(0, .agg (psC ps).toArray), (1, .int .i64 q)] = some (bkC ⟨ps, q⟩).toArray := fun place p0 p1 =>
    fill_two (psC ps) q 20 (by rw [len_psC, h4]) _ rfl place p0 p1
  have hi : ∃ it, Try.prog.info? 73 = some it ∧ it.zero = some (.agg (bkC zBk).toArray) := by
    cases hq : Try.prog.info? 73 with
    | none => have := zero_bk; rw [hq] at this; cases this
    | some it => have := zero_bk; rw [hq] at this; exact ⟨it, rfl, this⟩
  obtain ⟨it, h1, h2⟩ := hi
  unfold Program.built
  rw [h1, Try.underlying73]
  have hp := places_bk _ Try.underlying73
  simp only [h2]
  rw [hp]
  exact h _ rfl rfl

def zsFrom (bs : List Bk) (k : Nat) : List Bk := bs.take k ++ zFs.drop k
theorem fours_z : Fours zFs := fun b hb => by simp [zFs] at hb; subst hb; rfl
theorem zsFrom_len {bs : List Bk} {k : Nat} (h4 : bs.length = 4) (hk : k ≤ 4) : (zsFrom bs k).length = 4 := by
  have : zFs.length = 4 := rfl
  simp [zsFrom, this, h4]; omega
theorem zsFrom_succ {bs : List Bk} {k : Nat} (h4 : bs.length = 4) (hk : k < 4) : (zsFrom bs k).set k (bs[k]'(by omega)) = zsFrom bs (k + 1) := by
  have hz : zFs.length = 4 := rfl
  have hl : (bs.take k).length = k := by simp; omega
  unfold zsFrom
  rw [List.set_append, if_neg (by omega), hl, Nat.sub_self, List.drop_eq_getElem_cons (by omega), List.set_cons_zero, List.take_succ_eq_append_getElem (by omega)]
  simp only [List.append_assoc, List.singleton_append]
theorem shB_t {bs : List Bk} (h4 : bs.length = 4) (h : Fours bs) : shB bs = true := by
  simp only [shB, h4, Bool.and_eq_true, List.all_eq_true, beq_iff_eq]; exact ⟨trivial, fun b hb => by simpa using h b hb⟩
theorem shB_n {bs : List Bk} (h : ¬ bs.length = 4) : shB bs = false := by simp [shB, h]
theorem shB_f {bs : List Bk} (k : Nat) (hk : k < bs.length) (h : ¬ bs[k].ps.length = 4) : shB bs = false := by
  cases hs : shB bs
  · rfl
  · simp only [shB, Bool.and_eq_true, List.all_eq_true, beq_iff_eq] at hs
    exact absurd (by simpa using hs.2 _ (List.getElem_mem hk)) h
theorem size_fsa {bs : List Bk} (h : Fours bs) (h4 : bs.length = 4) : (Try.prog.info? 75).map (·.size) = some (fsC bs).toArray.size := by
  rw [List.size_toArray, len_fsC bs h, h4]; kernel_rfl

set_option maxRecDepth 100000 in
set_option maxHeartbeats 1000000 in
theorem shaped_no (zs : List Bk) (hF : Fours zs) (h4 : zs.length = 4) (hz : (Try.prog.info? 75).bind (·.zero) = some (.agg (fsC zs).toArray)) (a : Option Addr) (n cap : Nat) (w : World) (h : ((n : Int) != 4) = true) :
    Calls Try.prog 81 #[.slice a n cap] w fun e w' => e = .returned (.tuple #[.agg (fsC zs).toArray, .bool false]) ∧ Below w.heap.size w w' := by
  have t0 := World.there_alloc (there_new w (fsC zs) 75) (.cells (fsC zs).toArray 75)
  have r0 := rangeAt_new (w.alloc (.cells (fsC zs).toArray 75)) (fsC zs) 75
  simp only [World.size_alloc] at r0
  have HZ := hide hz
  clear hz
  go_enter Try.func81, Try.ntmps81
  go_wp2_with (first | (refine wpList_alloc_big rfl 75 rfl (fsC zs).toArray (unhide HZ) ?_) | (refine wpList_load_mid rfl 75 _ rfl (w.heap.size + 1) 0 rfl (fsC zs) _ r0 Try.underlying75 rfl (size_fsl hF h4) ?_) | (refine wpList_store_mid rfl 75 _ _ rfl w.heap.size 0 (fsC zs).toArray rfl rfl t0 (size_fsa hF h4) (one_fs zs) ?_) | (refine bodyPost_ret (res_cell_tmp Try.results81 _ _ w.heap.size (fsC zs) _ rfl (World.rangeAt_setCells_same _ _ _ _ t0) Try.underlying75 rfl (size_fsl hF h4)) rfl (unhide ?_)))
  exact hide (below_setCells _ (Nat.le_refl _) _ _ _ (((Below.refl _ _).alloc (Nat.le_refl _) _).alloc (by simp) _))

/-- What comes back with a kept form: it is that of the blocks, where the answer is true. -/
def KeptPost (w : World) (bs : List Bk) (ok : Bool) (e : Ending) (w' : World) : Prop :=
  ∃ ks, e = .returned (.tuple #[.agg (fsC ks).toArray, .bool ok]) ∧ ks.length = 4 ∧ Fours ks ∧ (ok = true → ks = bs) ∧ Below w.heap.size w w'

set_option maxRecDepth 100000 in
set_option maxHeartbeats 1000000 in
theorem shaped_four (fb fo cap : Nat) (bs : List Bk) (w : World) (h4 : bs.length = 4) (hf : ∀ i (hi : i < bs.length), BkAt w fb (fo + i * 2) bs[i]) :
    Calls Try.prog 81 #[.slice (some ⟨fb, fo, none⟩) 4 cap] w fun e w' => KeptPost w bs (shB bs) e w' := by
  have z0 := zero_fs
  have Z0 := hide z0
  have lz : (fsC zFs).length = 84 := rfl
  have t0 := World.there_alloc (there_new w (fsC zFs) 75) (.cells (fsC zFs).toArray 75)
  have t1 := there_new (w.alloc (.cells (fsC zFs).toArray 75)) (fsC zFs) 75
  have r0 := rangeAt_new (w.alloc (.cells (fsC zFs).toArray 75)) (fsC zFs) 75
  have b0 : Below w.heap.size w ((w.alloc (.cells (fsC zFs).toArray 75)).alloc (.cells (fsC zFs).toArray 75)) := ((Below.refl _ _).alloc (Nat.le_refl _) _).alloc (by simp) _
  rw [lz] at t0 t1
  simp only [World.size_alloc] at r0 t1
  have e0 : zsFrom bs 0 = zFs := by simp [zsFrom]
  have E0 := hide e0
  clear z0 lz e0
  generalize hzf : (fsC zFs).toArray = zf at *
  clear hzf
  go_enter Try.func81, Try.ntmps81
  go_wp2_with (first | (refine wpList_alloc_big rfl 75 rfl zf (unhide Z0) ?_))
  generalize hw1 : (w.alloc (.cells zf 75)).alloc (.cells zf 75) = w1 at *
  have s1 : w.heap.size + 2 = w1.heap.size := by rw [← hw1]; simp
  clear hw1 Z0
  have S1 := hide s1
  have s2 : w.heap.size + 1 < w1.heap.size := by omega
  clear s1
  go_loopw [15] (fun i w' => ∃ k : Nat, k ≤ 4 ∧ i = .int .i64 k ∧ Hid (∀ j (hj : j < bs.length), j < k → bs[j].ps.length = 4) ∧ w'.rangeAt (w.heap.size + 1) 0 (fsC (zsFrom bs k)) ∧ w'.there w.heap.size 0 84 ∧ w'.there (w.heap.size + 1) 0 84 ∧ Below w.heap.size w w' ∧ w1.heap.size ≤ w'.heap.size) (fun i _ => 4 - (intOf i).toNat)
  case atStart => exact ⟨0, by omega, rfl, fun j hj h => by omega, by rw [unhide E0]; exact r0, t0, t1, b0, Nat.le_refl _⟩
  case round =>
    obtain ⟨k, hk, rfl, hnd, rk, ta, tb, bw, hsz⟩ := hrel
    clear r0 t0 t1 b0
    have hFk : Fours (zsFrom bs k) := fun b hb => by
      simp only [zsFrom, List.mem_append] at hb
      rcases hb with hb | hb
      · obtain ⟨j, hj, rfl⟩ := List.getElem_of_mem hb
        simp at hj
        rw [List.getElem_take]
        exact hnd.out j (by omega) (by omega)
      · exact fours_z b (List.mem_of_mem_drop hb)
    have hlk : (zsFrom bs k).length = 4 := zsFrom_len h4 hk
    have l84 : (fsC (zsFrom bs k)).length = 84 := by rw [len_fsC _ hFk, hlk]
    have ta' := ta
    rw [← l84] at ta'
    by_cases h0 : k = 4
    · subst h0
      have ez : zsFrom bs 4 = bs := by rw [zsFrom, List.take_of_length_le (by omega)]; simp [zFs]
      have hF : Fours bs := by rw [ez] at hFk; exact hFk
      have HT := hide (shB_t h4 hF)
      have EZ := hide ez
      clear ez
      go_wp2_with (first | (refine wpList_load_mid rfl 75 _ rfl (w.heap.size + 1) 0 rfl (fsC (zsFrom bs 4)) _ rk Try.underlying75 rfl (size_fsl hFk hlk) ?_) | (refine wpList_store_mid rfl 75 _ _ rfl w.heap.size 0 (fsC (zsFrom bs 4)).toArray rfl rfl ta' (size_fsa hFk hlk) (one_fs _) ?_) | (refine bodyPost_ret (res_cell_tmp Try.results81 _ _ w.heap.size (fsC (zsFrom bs 4)) _ rfl (World.rangeAt_setCells_same _ _ _ _ ta') Try.underlying75 rfl (size_fsl hFk hlk)) rfl (unhide ?_)))
      exact hide ⟨zsFrom bs 4, by rw [unhide HT], hlk, hFk, fun _ => unhide EZ, below_setCells _ (Nat.le_refl _) _ _ _ bw⟩
    · have hlt : (k : Int) < 4 := by omega
      have hkb : k < bs.length := by omega
      have hlo : (0 : Int) ≤ (k : Int) := by omega
      obtain ⟨pa, pc, c0, c1, hps⟩ := (hf k hkb).below bw
      have HU := hide (zsFrom_succ h4 (by omega : k < 4))
      have HX := hide (shB_f k hkb)
      generalize hbk : bs[k] = b at *
      have HBK := hide hbk
      clear hbk
      by_cases hb4 : b.ps.length = 4
      · have HQ := hide hps
        obtain ⟨pb, po, rfl, hr⟩ : ∃ pb po, pa = some ⟨pb, po, none⟩ ∧ wr.rangeAt pb po (psC b.ps) := by
          rcases hps with h | h
          · rw [h] at hb4; simp at hb4
          · exact h
        have hfl := cell_lt c0
        rw [hb4] at c0
        clear hps HQ
        have z2 := hide zero_ps
        generalize hzp : (psC zPs).toArray = zp at z2
        have hzs : zp.size = (psC b.ps).toArray.size := by rw [← hzp, List.size_toArray, List.size_toArray, len_psC, len_psC, hb4]; rfl
        clear hzp
        have BB : Hid (Try.prog.built 73 [(0, .agg (psC b.ps).toArray), (1, .int .i64 b.wn)] = some (bkC b).toArray) := built_bk b.ps b.wn hb4
        go_wp2_with fail
        refine (rowOf_yes pb po pc b.ps _ hb4 (World.rangeAt_alloc hr _)).mono ?_
        rintro e w2 ⟨rfl, b2⟩
        have s3 : wr.heap.size < w2.heap.size := by have := b2.size; simp at this; omega
        have k1 : w2.cell? ⟨wr.heap.size, 1, none⟩ = some (.int .i64 b.wn) := by rw [b2.cell (p := ⟨wr.heap.size, 1, none⟩) (by simp)]; simp
        have B2 : Below wr.heap.size wr w2 := ((Below.refl _ _).alloc (Nat.le_refl _) _).trans (b2.mono (by simp))
        have B3 := B2.alloc (B2.size) (.cells (psC b.ps).toArray 71)
        have rk3 := rangeAt_below rk B3 (by omega)
        have ta3 := there_below ta B3 (by omega)
        have tb3 := there_below tb B3 (by omega)
        have tk := there_sub tb3 (k * 21) 21 (by omega)
        have tk2 : (w2.alloc (.cells (psC b.ps).toArray 71)).there (w.heap.size + 1) (k * 21) (bkC b).length := by rw [len_bkC b hb4]; simpa using tk
        have rs := range_set bkC 21 (fun x hx => len_bkC x (hFk x hx)) k (by omega) b (len_bkC b hb4) rk3 tk
        rw [Nat.zero_add] at rs
        have bw3 := bw.trans (B3.mono (by have := bw.size; omega))
        have r66 := rangeAt_new w2 (psC b.ps) 71
        have sz3 := B3.size
        have RS := hide rs
        clear b2 rk ta tb ta' hr c0 c1 B2 B3 rk3 tk rs
        go_wp2_with (first | (refine wpList_alloc_big rfl 71 rfl zp (unhide z2) ?_) | (refine wpList_store_new rfl 71 _ _ rfl w2 zp (psC b.ps).toArray rfl rfl rfl (size_rowa hb4) hzs (one_ps b.ps) ?_) | (refine wpList_load_mid rfl 71 _ rfl w2.heap.size 0 rfl (psC b.ps) _ r66 Try.underlying71 rfl (size_row hb4) ?_) | (refine wpList_build_two rfl 73 _ _ rfl (.agg (psC b.ps).toArray) (.int .i64 b.wn) rfl rfl (bkC b).toArray (unhide BB) ?_) | (refine wpList_store_mid rfl 73 _ _ rfl (w.heap.size + 1) (k * 21) (bkC b).toArray rfl rfl tk2 (size_bk hb4) (one_bk b) ?_))
        go_roundw
        case rel =>
          refine ⟨k + 1, by omega, by first | rfl | go_num, fun j hj h => ?_, ?_, World.there_setCells ta3 _ _ _, World.there_setCells tb3 _ _ _, below_setCells _ (by omega) _ _ _ bw3, by rw [size_setCells]; omega⟩
          · by_cases e : j = k
            · subst e; rw [unhide HBK]; exact hb4
            · exact hnd.out j hj (by omega)
          · rw [← unhide HU]; exact unhide RS
        case measure => simp [intOf]; omega
      · have hne : ((b.ps.length : Int) != 4) = true := by simp; omega
        have z2 := hide zero_ps
        have zl := hide len_psC
        have hx4 := hide (unhide HX hb4)
        have hfl := cell_lt c0
        have hrow := hide (rowOf_no pa b.ps.length pc)
        generalize hzp : psC zPs = zp at z2 hrow
        have hz20 : zp.length = 20 := by rw [← hzp]; rfl
        have hz1 : zp.toArray.all (·.oneCell') = true := by rw [← hzp]; exact one_ps zPs
        have hzi : (Try.prog.info? 71).map (·.size) = some zp.toArray.size := by rw [← hzp]; exact size_rowa rfl
        clear hzp
        have HZI := hide hzi
        clear hzi
        go_wp2_with fail
        refine (unhide hrow _ hne).mono ?_
        rintro e w2 ⟨rfl, b2⟩
        have s3 : wr.heap.size < w2.heap.size := by have := b2.size; simp at this; omega
        have B2 : Below wr.heap.size wr w2 := ((Below.refl _ _).alloc (Nat.le_refl _) _).trans (b2.mono (by simp))
        have B3 := B2.alloc (B2.size) (.cells zp.toArray 71)
        have rk3 := rangeAt_below rk B3 (by omega)
        have ta3 := there_below ta' B3 (by omega)
        have bw3 := bw.trans (B3.mono (by have := bw.size; omega))
        clear b2 rk ta tb ta' c0 c1 B2 B3 hps
        go_wp2_with (first | (refine wpList_alloc_big rfl 71 rfl zp.toArray (unhide z2) ?_) | (refine wpList_store_new rfl 71 _ _ rfl w2 zp.toArray zp.toArray rfl rfl rfl (unhide HZI) rfl hz1 ?_) | (refine wpList_load_mid rfl 75 _ rfl (w.heap.size + 1) 0 rfl (fsC (zsFrom bs k)) _ rk3 Try.underlying75 rfl (size_fsl hFk hlk) ?_) | (refine wpList_store_mid rfl 75 _ _ rfl w.heap.size 0 (fsC (zsFrom bs k)).toArray rfl rfl ta3 (size_fsa hFk hlk) (one_fs _) ?_) | (refine bodyPost_ret (res_cell_tmp Try.results81 _ _ w.heap.size (fsC (zsFrom bs k)) _ rfl (World.rangeAt_setCells_same _ _ _ _ ta3) Try.underlying75 rfl (size_fsl hFk hlk)) rfl (unhide ?_)))
        exact hide ⟨zsFrom bs k, by rw [unhide hx4], hlk, hFk, (by rw [unhide hx4]; intro h; cases h), below_setCells _ (Nat.le_refl _) _ _ _ bw3⟩
/-- Whatever the blocks are: they are shaped just if there are four of four pages, and then they are as they were. -/
theorem shaped_any (a : Option Addr) (cap : Nat) (bs : List Bk) (w : World) (hf : FsAt w a bs) (hm : bs.length ≤ 9223372036854775807) :
    Calls Try.prog 81 #[.slice a bs.length cap] w fun e w' => KeptPost w bs (shB bs) e w' := by
  by_cases h4 : bs.length = 4
  · rcases hf with h | ⟨b, o, rfl, h⟩
    · rw [h] at h4; simp at h4
    · rw [h4]; exact shaped_four b o cap bs w h4 h
  · refine (shaped_no zFs fours_z rfl zero_fs a bs.length cap w (by simp; omega)).mono ?_
    rintro e w' ⟨rfl, hb⟩
    have hs := shB_n h4
    exact ⟨zFs, by rw [hs], rfl, fours_z, fun h => by (rw [hs] at h; cases h), hb⟩
theorem okB_shape {bs : List Bk} (h : okB bs = true) : shB bs = true := by
  simp only [okB, Bool.and_eq_true, List.all_eq_true] at h
  simp only [shB, Bool.and_eq_true, List.all_eq_true]
  refine ⟨h.1.1, fun b hb => ?_⟩
  have := h.1.2 b hb
  simp only [bkB, Bool.and_eq_true] at this
  exact this.1.1.1
theorem shB_noOk {bs : List Bk} (h : shB bs = false) : okB bs = false := by
  cases ho : okB bs
  · rfl
  · rw [okB_shape ho] at h; cases h

set_option maxRecDepth 100000 in
set_option maxHeartbeats 1000000 in
theorem of_any (zs : List Bk) (hzF : Fours zs) (hz4 : zs.length = 4) (hz : (Try.prog.info? 75).bind (·.zero) = some (.agg (fsC zs).toArray)) (a : Option Addr) (cap : Nat) (bs : List Bk) (w : World) (hf : FsAt w a bs) (hm : bs.length ≤ 9223372036854775807) :
    Calls Try.prog 54 #[.slice a bs.length cap] w fun e w' => KeptPost w bs (okB bs) e w' := by
  have HZ := hide hz
  clear hz
  have z84 : (fsC zs).length = 84 := by rw [len_fsC _ hzF, hz4]
  have hf1 := hide (hf.below ((Below.refl w.heap.size w).alloc (Nat.le_refl _) (.cells (fsC zs).toArray 75)))
  have t0 := there_new w (fsC zs) 75
  rw [z84] at t0
  go_enter Try.func54, Try.ntmps54
  go_wp2_with (first | (refine wpList_alloc_big rfl 75 rfl (fsC zs).toArray (unhide HZ) ?_))
  refine (shaped_any a cap bs _ (unhide hf1) hm).mono ?_
  rintro e w1 ⟨ks, rfl, hk4, hkF, hke, b1⟩
  have s1 : w.heap.size < w1.heap.size := by have := b1.size; simp at this; omega
  have k84 : (fsC ks).length = 84 := by rw [len_fsC _ hkF, hk4]
  have hsz : (fsC zs).toArray.size = (fsC ks).toArray.size := by simp [z84, k84]
  have B1 : Below w.heap.size w w1 := ((Below.refl _ _).alloc (Nat.le_refl _) _).trans (b1.mono (by simp))
  have t1 := World.there_alloc (there_below t0 b1 (by simp)) (.cells (fsC ks).toArray 75)
  have r1 := rangeAt_new w1 (fsC ks) 75
  have B2 := B1.alloc B1.size (.cells (fsC ks).toArray 75)
  rw [← k84] at t1
  clear b1 t0 z84 k84 B1
  go_wp2_with (first | (refine wpList_alloc_big rfl 75 rfl (fsC zs).toArray (unhide HZ) ?_) | (refine wpList_store_new rfl 75 _ _ rfl w1 (fsC zs).toArray (fsC ks).toArray rfl rfl rfl (size_fsa hkF hk4) hsz (one_fs ks) ?_))
  generalize hw2 : w1.alloc (.cells (fsC ks).toArray 75) = w2 at *
  have s2 : w1.heap.size < w2.heap.size := by rw [← hw2]; simp
  clear hw2
  have hi70 := size_fsl hkF hk4
  have hl84 : (fsC ks).length = 84 := by rw [len_fsC _ hkF, hk4]
  cases hs : shB bs
  · have HO := hide (shB_noOk hs)
    clear hke hs
    refine wp_region_noPanic ?_
    refine wp_region_held_drew (S := fun w' => w'.rangeAt w1.heap.size 0 (fsC ks) ∧ w'.there w.heap.size 0 (fsC ks).length ∧ Below w.heap.size w w' ∧ w2.heap.size ≤ w'.heap.size) (by kernel_rfl) ⟨by simpa using r1, by simpa using t1, B2.drew, Nat.le_refl _⟩ (fun hHeld => ?_)
    clear r1 t1 B2
    refine takeL 0 _ rfl (by kernel_rfl) (by kernel_rfl) (by kernel_rfl) (fun _ _ _ h => h) (yieldsIf_load_mid rfl 75 _ rfl w1.heap.size 0 rfl (fsC ks) _ (fun _ h => h.1) Try.underlying75 rfl hi70) hHeld ?_
    try simp only [Act.put, List.setIfInBounds_toArray, List.set_cons_zero, List.set_cons_succ]
    refine takeL 1 (.bool false) rfl (by kernel_rfl) (by kernel_rfl) (by kernel_rfl) (fun _ _ _ h => h) (Or.inl ⟨rfl, fun _ _ => rfl⟩) hHeld ?_
    try simp only [Act.put, List.setIfInBounds_toArray, List.set_cons_zero, List.set_cons_succ]
    refine takeL 2 (.bool false) rfl (by kernel_rfl) (by kernel_rfl) (by kernel_rfl) (fun _ _ _ h => h) (Or.inl ⟨rfl, fun _ _ => rfl⟩) hHeld ?_
    try simp only [Act.put, List.setIfInBounds_toArray, List.set_cons_zero, List.set_cons_succ]
    refine takeL 3 (undef) rfl (by kernel_rfl) (by kernel_rfl) (by kernel_rfl) (fun _ _ _ h => h) (Or.inr ⟨rfl, rfl⟩) hHeld ?_
    try simp only [Act.put, List.setIfInBounds_toArray, List.set_cons_zero, List.set_cons_succ]
    refine takeL 4 (undef) rfl (by kernel_rfl) (by kernel_rfl) (by kernel_rfl) (fun _ _ _ h => h) (Or.inr ⟨rfl, rfl⟩) hHeld ?_
    try simp only [Act.put, List.setIfInBounds_toArray, List.set_cons_zero, List.set_cons_succ]
    refine takeL 5 (.bool false) rfl (by kernel_rfl) (by kernel_rfl) (by kernel_rfl) (fun _ _ _ h => h) (Or.inl ⟨rfl, fun _ _ => rfl⟩) hHeld ?_
    try simp only [Act.put, List.setIfInBounds_toArray, List.set_cons_zero, List.set_cons_succ]
    refine oneL 6 rfl (by kernel_rfl) rfl (fun K hK => ?_)
    refine wp_store_mid 75 _ _ rfl w.heap.size 0 (fsC ks).toArray rfl rfl hHeld.2.1 (size_fsa hkF hk4) (one_fs ks) ?_
    have rr := World.rangeAt_setCells_same _ _ _ _ hHeld.2.1
    refine hK.out _ _ ⟨World.rangeAt_setCells_apart hHeld.1 _ _ _ (.inl (by omega)), World.there_setCells hHeld.2.1 _ _ _, below_setCells _ (Nat.le_refl _) _ _ _ hHeld.2.2.1, by rw [size_setCells]; exact hHeld.2.2.2⟩ (fun hHeld => ?_)
    clear hK K
    try simp only [Act.put, List.setIfInBounds_toArray, List.set_cons_zero, List.set_cons_succ]
    refine takeL 7 (.bool false) rfl (by kernel_rfl) (by kernel_rfl) (by kernel_rfl) (fun _ _ _ h => h) (Or.inl ⟨rfl, fun _ _ => rfl⟩) hHeld ?_
    try simp only [Act.put, List.setIfInBounds_toArray, List.set_cons_zero, List.set_cons_succ]
    refine wpAnyH_done (by kernel_rfl) ?_ _
    refine NoPanic.normal ?_
    go_wp2_with (first | (refine bodyPost_ret (res_cell_tmp Try.results54 _ _ w.heap.size (fsC ks) _ rfl rr Try.underlying75 rfl hi70) rfl (unhide ?_)))
    exact hide ⟨ks, by rw [unhide HO], hk4, hkF, (by rw [unhide HO]; intro h; cases h), hHeld.2.2.1⟩
  · have HE := hide (hke hs)
    have HC := hide (keptOk_any ks hk4 hkF)
    clear hke hs
    refine wp_region_noPanic ?_
    refine wp_region_held_drew (S := fun w' => w'.rangeAt w1.heap.size 0 (fsC ks) ∧ w'.there w.heap.size 0 (fsC ks).length ∧ Below w.heap.size w w' ∧ w2.heap.size ≤ w'.heap.size) (by kernel_rfl) ⟨by simpa using r1, by simpa using t1, B2.drew, Nat.le_refl _⟩ (fun hHeld => ?_)
    clear r1 t1 B2
    refine takeL 0 _ rfl (by kernel_rfl) (by kernel_rfl) (by kernel_rfl) (fun _ _ _ h => h) (yieldsIf_load_mid rfl 75 _ rfl w1.heap.size 0 rfl (fsC ks) _ (fun _ h => h.1) Try.underlying75 rfl hi70) hHeld ?_
    try simp only [Act.put, List.setIfInBounds_toArray, List.set_cons_zero, List.set_cons_succ]
    refine takeL 1 (.bool true) rfl (by kernel_rfl) (by kernel_rfl) (by kernel_rfl) (fun _ _ _ h => h) (Or.inl ⟨rfl, fun _ _ => rfl⟩) hHeld ?_
    try simp only [Act.put, List.setIfInBounds_toArray, List.set_cons_zero, List.set_cons_succ]
    refine takeL 2 (.bool true) rfl (by kernel_rfl) (by kernel_rfl) (by kernel_rfl) (fun _ _ _ h => h) (Or.inl ⟨rfl, fun _ _ => rfl⟩) hHeld ?_
    try simp only [Act.put, List.setIfInBounds_toArray, List.set_cons_zero, List.set_cons_succ]
    refine takeL 3 _ rfl (by kernel_rfl) (by kernel_rfl) (by kernel_rfl) (fun _ _ _ h => h) (yieldsIf_load_mid rfl 75 _ rfl w1.heap.size 0 rfl (fsC ks) _ (fun _ h => h.1) Try.underlying75 rfl hi70) hHeld ?_
    try simp only [Act.put, List.setIfInBounds_toArray, List.set_cons_zero, List.set_cons_succ]
    refine oneL 4 rfl (by kernel_rfl) rfl (fun K hK => ?_)
    go_simp
    refine (unhide HC _).mono ?_
    rintro e w3 ⟨rfl, b3⟩
    have hb3 := b3.size
    go_wp2_with fail
    refine hK.out _ _ ⟨rangeAt_below hHeld.1 b3 (by have := hHeld.2.2.2; omega), there_below hHeld.2.1 b3 (by have := hHeld.2.2.2; omega), hHeld.2.2.1.trans (b3.mono (hHeld.2.2.1.size)), by have := hHeld.2.2.2; omega⟩ (fun hHeld => ?_)
    clear hK K b3
    try simp only [Act.put, List.setIfInBounds_toArray, List.set_cons_zero, List.set_cons_succ]
    refine takeL 5 (.bool (okB ks)) rfl (by kernel_rfl) (by kernel_rfl) (by kernel_rfl) (fun _ _ _ h => h) (Or.inl ⟨rfl, fun _ _ => rfl⟩) hHeld ?_
    try simp only [Act.put, List.setIfInBounds_toArray, List.set_cons_zero, List.set_cons_succ]
    refine oneL 6 rfl (by kernel_rfl) rfl (fun K hK => ?_)
    refine wp_store_mid 75 _ _ rfl w.heap.size 0 (fsC ks).toArray rfl rfl hHeld.2.1 (size_fsa hkF hk4) (one_fs ks) ?_
    have rr := World.rangeAt_setCells_same _ _ _ _ hHeld.2.1
    refine hK.out _ _ ⟨World.rangeAt_setCells_apart hHeld.1 _ _ _ (.inl (by omega)), World.there_setCells hHeld.2.1 _ _ _, below_setCells _ (Nat.le_refl _) _ _ _ hHeld.2.2.1, by rw [size_setCells]; exact hHeld.2.2.2⟩ (fun hHeld => ?_)
    clear hK K
    try simp only [Act.put, List.setIfInBounds_toArray, List.set_cons_zero, List.set_cons_succ]
    refine takeL 7 (.bool (okB ks)) rfl (by kernel_rfl) (by kernel_rfl) (by kernel_rfl) (fun _ _ _ h => h) (Or.inl ⟨rfl, fun _ _ => rfl⟩) hHeld ?_
    try simp only [Act.put, List.setIfInBounds_toArray, List.set_cons_zero, List.set_cons_succ]
    refine wpAnyH_done (by kernel_rfl) ?_ _
    refine NoPanic.normal ?_
    go_wp2_with (first | (refine bodyPost_ret (res_cell_tmp Try.results54 _ _ w.heap.size (fsC ks) _ rfl rr Try.underlying75 rfl hi70) rfl (unhide ?_)))
    exact hide ⟨ks, by rw [← unhide HE], hk4, hkF, fun _ => unhide HE, hHeld.2.2.1⟩
end Go.Proofs.Ytkikeapfjpnkgaa.ImplS
