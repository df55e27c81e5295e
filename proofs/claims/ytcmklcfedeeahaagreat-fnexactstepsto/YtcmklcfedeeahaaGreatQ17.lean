/-
  Texts that belong together, one behind the other: QuB, RmA, WrA, FlA.
-/
import Derived.Test.YtcmklcfedeeahaaGreatQ16
import Derived.Laws.EntriesVeiled

/-
  Whether a step is one; the function value that waits for it, and what a call of it answers.
-/
namespace Go.Proofs.YtcmklcfedeeahaaGreat.QuB
open Go.ChangeShapes Go.WideShapes Go.ChangeAt Go.RowKit Go.Shelf OkA Big Fl ImplB ImplF ImplS _root_.Go.Proofs.YtcmklcfedeeahaaGreat.Own ImplT ImplU SpecA SpecB SpecC SpecD SpecW SpecF SpecG SpecH Ok2 Pl FindP SpecX SpecY ImplW ImplX ImplL Kp StA MpA StB StC StD StE StF StG FindL Gd QuA
set_option linter.unusedVariables false
set_option linter.unusedSimpArgs false
attribute [local go_sem ↓] Go.wp_at_zero Go.wp_at_succ
attribute [local go_sem] onlyIf_t onlyIf_f

def StepPost (w : World) (x : Stp) (e : Ending) (w' : World) : Prop := e = .returned (.agg (stC x).toArray) ∧ Below w.heap.size w w'
theorem diskStep_any (addr val : Int) (w : World) :
    Calls Tryz.prog 76 #[.int .i64 addr, .int .i64 val] w fun e w' => StepPost w (diskS addr val) e w' := by
  go_enter Tryz.func76, Tryz.ntmps76
  go_wp2
  exact bodyPost_ret (v := .agg (stC (diskS addr val)).toArray) (by simp [results, Tryz.results76, go_sem]; rfl) rfl ⟨rfl, (Below.refl _ _).alloc (Nat.le_refl _) _⟩
theorem wipeStep_any (blk : Int) (w : World) :
    Calls Tryz.prog 77 #[.int .i64 blk] w fun e w' => StepPost w (wipeS blk) e w' := by
  go_enter Tryz.func77, Tryz.ntmps77
  go_wp2
  exact bodyPost_ret (v := .agg (stC (wipeS blk)).toArray) (by simp [results, Tryz.results77, go_sem]; rfl) rfl ⟨rfl, (Below.refl _ _).alloc (Nat.le_refl _) _⟩
theorem writeStep_any (blk : Int) (r : Rc) (w : World) :
    Calls Tryz.prog 78 #[.int .i64 blk, .agg (rcC r).toArray] w fun e w' => StepPost w (writeS blk r) e w' := by
  rw [show (rcC r).toArray = #[.int .i64 r.k, .int .i64 r.s, .int .i64 r.a, .int .i64 r.v] from rfl]
  go_enter Tryz.func78, Tryz.ntmps78
  go_wp2
  exact bodyPost_ret (v := .agg (stC (writeS blk r)).toArray) (by simp [results, Tryz.results78, go_sem]; rfl) rfl ⟨rfl, ((Below.refl _ _).alloc (Nat.le_refl _) _).alloc (by simp) _⟩
theorem within_b (n lo hi : Int) (w : World) : Calls Tryz.prog 68 #[.int .i64 n, .int .i64 lo, .int .i64 hi] w fun e w' => e = .returned (.bool (inB n lo hi)) ∧ Below w.heap.size w w' := by
  refine (within_any n lo hi w).mono ?_
  rintro e w' ⟨rfl, rfl⟩
  exact ⟨rfl, Below.refl _ _⟩
theorem size_s8 (x : Stp) : (Tryz.prog.info? 48).map (·.size) = some (stC x).length := by show _ = some 8; kernel_rfl
theorem size_r4 (r : Rc) : (Tryz.prog.info? 46).map (·.size) = some (rcC r).length := by show _ = some 4; kernel_rfl
theorem step_rec {w : World} {b : Nat} {x : Stp} (h : CsAt w b (stC x)) : w.rangeAt b 4 (rcC x.r) := fun j v hv => by
  have := h.cells (4 + j) v (by simpa [stC, rcC, Nat.add_comm] using hv)
  rwa [Nat.zero_add] at this

/-- A step is one. -/
def stkB (x : Stp) : Bool :=
  if x.kind = 1 then (x.blk == 0 && noRc x.r) && inB x.addr 1 6 && inB x.val 0 9
  else if x.kind = 2 then (x.addr == 0 && x.val == 0 && noRc x.r) && inB x.blk 0 3
  else if x.kind = 3 then (x.addr == 0 && x.val == 0) && inB x.blk 0 3 && recB x.r.k x.r.s x.r.a x.r.v
  else false
theorem stk_stp {x : Stp} (h : stkB x = true) : stpB x = true := by
  unfold stkB at h
  unfold stpB
  split
  · rename_i h1; rw [if_pos h1] at h; simp only [Bool.and_eq_true] at h; exact h.1.2
  · rename_i h1
    rw [if_neg h1] at h
    split
    · rename_i h2; rw [if_pos h2] at h; simp only [Bool.and_eq_true] at h; exact h.2
    · rename_i h2
      rw [if_neg h2] at h
      split
      · rename_i h3; rw [if_pos h3] at h; simp only [Bool.and_eq_true] at h; rw [h.1.2, h.2]; rfl
      · rfl

set_option maxRecDepth 100000 in
set_option maxHeartbeats 4000000 in
theorem stepOk_any (x : Stp) (w : World) :
    Calls Tryz.prog 50 #[.agg (stC x).toArray] w fun e w' => e = .returned (.bool (stkB x)) ∧ Below w.heap.size w w' := by
  have HR : Hid (stkB x = if x.kind = 1 then (x.blk == 0 && noRc x.r) && inB x.addr 1 6 && inB x.val 0 9 else if x.kind = 2 then (x.addr == 0 && x.val == 0 && noRc x.r) && inB x.blk 0 3 else if x.kind = 3 then (x.addr == 0 && x.val == 0) && inB x.blk 0 3 && recB x.r.k x.r.s x.r.a x.r.v else false) := rfl
  generalize stkB x = R at *
  have cX := CsAt.new w (stC x) 48
  have B0 : Below w.heap.size w (w.alloc (.cells (stC x).toArray 48)) := (Below.refl _ _).alloc (Nat.le_refl _) _
  have s0 : w.heap.size < (w.alloc (.cells (stC x).toArray 48)).heap.size := by simp
  have HW := hide (fun (w' : World) => within_any x.blk 0 3 w')
  have HS8 := hide (size_s8 x)
  have HS4 := hide (size_r4 x.r)
  have HDS := hide (diskStep_any x.addr x.val)
  have HWS := hide (wipeStep_any x.blk)
  have HRS := hide (writeStep_any x.blk x.r)
  have HA := hide (within_b x.addr 1 6)
  have HV := hide (within_b x.val 0 9)
  have HRO := hide (recOk_any x.r.k x.r.s x.r.a x.r.v)
  have x0 := cX.cell 0 _ rfl
  have x3 := cX.cell 3 _ rfl
  go_enter Tryz.func50, Tryz.ntmps50
  by_cases hk1 : x.kind = 1
  · have g1 : (x.kind == 1) = true := by simpa using hk1
    rw [if_pos hk1] at HR
    go_wp2_with (first | (refine wpList_box_big rfl _ _ rfl (stC x).toArray rfl ?_) | (go_at_call 68; refine (unhide HW _).mono ?_; rintro e w' ⟨rfl, hw'⟩; obtain rfl := hw'.symm))
    clear x0 x3
    generalize w.alloc (.cells (stC x).toArray 48) = w1 at *
    refine wp_region_noPanic ?_
    refine wp_region_held_drew (S := fun w' => Below w1.heap.size w1 w') (by kernel_rfl) ((Below.refl _ _).drew) (fun hHeld => ?_)
    refine takeL 0 (_) rfl (by kernel_rfl) (by kernel_rfl) (by kernel_rfl) (fun _ _ _ h => h) (yieldsIf_load_mid rfl 48 _ rfl w.heap.size 0 rfl (stC x) _ (fun _ h => (cX.below h s0).cells) Tryz.underlying48 rfl (unhide HS8)) hHeld ?_
    try simp only [Act.put, List.setIfInBounds_toArray, List.set_cons_zero, List.set_cons_succ]
    refine takeL 1 (.pointer (some ⟨w.heap.size, 1, none⟩)) rfl (by kernel_rfl) (by kernel_rfl) (by kernel_rfl) (fun _ _ _ h => h) (Or.inl ⟨rfl, fun w9 hSw => by go_simp⟩) hHeld ?_
    try simp only [Act.put, List.setIfInBounds_toArray, List.set_cons_zero, List.set_cons_succ]
    refine takeL 2 (.int .i64 x.addr) rfl (by kernel_rfl) (by kernel_rfl) (by kernel_rfl) (fun _ _ _ h => h) (Or.inl ⟨rfl, fun w9 hSw => by have hc := (cX.below hSw s0).cell 1 _ rfl; go_simp⟩) hHeld ?_
    try simp only [Act.put, List.setIfInBounds_toArray, List.set_cons_zero, List.set_cons_succ]
    refine takeL 3 (.pointer (some ⟨w.heap.size, 2, none⟩)) rfl (by kernel_rfl) (by kernel_rfl) (by kernel_rfl) (fun _ _ _ h => h) (Or.inl ⟨rfl, fun w9 hSw => by go_simp⟩) hHeld ?_
    try simp only [Act.put, List.setIfInBounds_toArray, List.set_cons_zero, List.set_cons_succ]
    refine takeL 4 (.int .i64 x.val) rfl (by kernel_rfl) (by kernel_rfl) (by kernel_rfl) (fun _ _ _ h => h) (Or.inl ⟨rfl, fun w9 hSw => by have hc := (cX.below hSw s0).cell 2 _ rfl; go_simp⟩) hHeld ?_
    try simp only [Act.put, List.setIfInBounds_toArray, List.set_cons_zero, List.set_cons_succ]
    refine oneL 5 rfl (by kernel_rfl) rfl (fun K hK => ?_)
    go_simp
    refine (unhide HDS _).mono ?_
    rintro e w4 ⟨rfl, b4⟩
    go_wp2_with fail
    refine hK.out _ _ (hHeld.trans (b4.mono hHeld.size)) (fun hHeld => ?_)
    clear hK K
    try simp only [Act.put, List.setIfInBounds_toArray, List.set_cons_zero, List.set_cons_succ]
    refine takeL 6 (.bool (x.blk == 0 && noRc x.r)) rfl (by kernel_rfl) (by kernel_rfl) (by kernel_rfl) (fun _ _ _ h => h) (Or.inl ⟨rfl, fun w9 hSw => by unfold noRc stC diskS zRc; go_simp; by_cases q0 : x.blk = 0 <;> by_cases q1 : x.r.k = 0 <;> by_cases q2 : x.r.s = 0 <;> by_cases q3 : x.r.a = 0 <;> by_cases q4 : x.r.v = 0 <;> simp [q0, q1, q2, q3, q4, hk1]⟩) hHeld ?_
    try simp only [Act.put, List.setIfInBounds_toArray, List.set_cons_zero, List.set_cons_succ]
    generalize hee : (x.blk == 0 && noRc x.r) = e at *
    generalize haa : inB x.addr 1 6 = a at *
    generalize hvv : inB x.val 0 9 = v at *
    refine takeL 7 (.bool e) rfl (by kernel_rfl) (by kernel_rfl) (by kernel_rfl) (fun _ _ _ h => h) (Or.inl ⟨rfl, fun _ _ => rfl⟩) hHeld ?_
    try simp only [Act.put, List.setIfInBounds_toArray, List.set_cons_zero, List.set_cons_succ]
    refine takeG 8 (e) (.pointer (some ⟨w.heap.size, 1, none⟩)) rfl (by kernel_rfl) (by kernel_rfl) (by kernel_rfl) (fun _ _ _ h => h) (by cases e <;> rfl) (fun hb w9 hSw => by cases e <;> first | (cases hb; done) | (go_simp)) hHeld ?_
    try simp only [Act.put, List.setIfInBounds_toArray, List.set_cons_zero, List.set_cons_succ]
    refine takeG 9 (e) (.int .i64 x.addr) rfl (by kernel_rfl) (by kernel_rfl) (by kernel_rfl) (fun _ _ _ h => h) (by cases e <;> rfl) (fun hb w9 hSw => by cases e <;> first | (cases hb; done) | (have hc := (cX.below hSw s0).cell 1 _ rfl; go_simp)) hHeld ?_
    try simp only [Act.put, List.setIfInBounds_toArray, List.set_cons_zero, List.set_cons_succ]
    refine callG 10 (e) (.bool a) rfl (by kernel_rfl) (by cases e <;> rfl) hHeld (fun hb K hK => by cases e <;> first | (cases hb; done) | (go_simp; refine (unhide HA _).mono ?_; rintro e w4 ⟨rfl, b4⟩; go_wp2_with fail; exact hK.out _ (hHeld.trans (b4.mono hHeld.size)))) (fun w4 hHeld => ?_)
    try simp only [Act.put, List.setIfInBounds_toArray, List.set_cons_zero, List.set_cons_succ]
    refine takeL 11 (.bool (e && a)) rfl (by kernel_rfl) (by kernel_rfl) (by kernel_rfl) (fun _ _ _ h => h) (Or.inl ⟨rfl, fun w9 hSw => by cases e <;> (go_simp)⟩) hHeld ?_
    try simp only [Act.put, List.setIfInBounds_toArray, List.set_cons_zero, List.set_cons_succ]
    refine takeL 12 (.bool (e && a)) rfl (by kernel_rfl) (by kernel_rfl) (by kernel_rfl) (fun _ _ _ h => h) (Or.inl ⟨rfl, fun _ _ => rfl⟩) hHeld ?_
    try simp only [Act.put, List.setIfInBounds_toArray, List.set_cons_zero, List.set_cons_succ]
    refine takeG 13 (e && a) (.pointer (some ⟨w.heap.size, 2, none⟩)) rfl (by kernel_rfl) (by kernel_rfl) (by kernel_rfl) (fun _ _ _ h => h) (by cases e <;> cases a <;> rfl) (fun hb w9 hSw => by cases e <;> cases a <;> first | (cases hb; done) | (go_simp)) hHeld ?_
    try simp only [Act.put, List.setIfInBounds_toArray, List.set_cons_zero, List.set_cons_succ]
    refine takeG 14 (e && a) (.int .i64 x.val) rfl (by kernel_rfl) (by kernel_rfl) (by kernel_rfl) (fun _ _ _ h => h) (by cases e <;> cases a <;> rfl) (fun hb w9 hSw => by cases e <;> cases a <;> first | (cases hb; done) | (have hc := (cX.below hSw s0).cell 2 _ rfl; go_simp)) hHeld ?_
    try simp only [Act.put, List.setIfInBounds_toArray, List.set_cons_zero, List.set_cons_succ]
    refine callG 15 (e && a) (.bool v) rfl (by kernel_rfl) (by cases e <;> cases a <;> rfl) hHeld (fun hb K hK => by cases e <;> cases a <;> first | (cases hb; done) | (go_simp; refine (unhide HV _).mono ?_; rintro e w4 ⟨rfl, b4⟩; go_wp2_with fail; exact hK.out _ (hHeld.trans (b4.mono hHeld.size)))) (fun w4 hHeld => ?_)
    try simp only [Act.put, List.setIfInBounds_toArray, List.set_cons_zero, List.set_cons_succ]
    refine takeL 16 (.bool (e && a && v)) rfl (by kernel_rfl) (by kernel_rfl) (by kernel_rfl) (fun _ _ _ h => h) (Or.inl ⟨rfl, fun w9 hSw => by cases e <;> cases a <;> (go_simp)⟩) hHeld ?_
    try simp only [Act.put, List.setIfInBounds_toArray, List.set_cons_zero, List.set_cons_succ]
    refine takeL 17 (.bool (e && a && v)) rfl (by kernel_rfl) (by kernel_rfl) (by kernel_rfl) (fun _ _ _ h => h) (Or.inl ⟨rfl, fun _ _ => rfl⟩) hHeld ?_
    try simp only [Act.put, List.setIfInBounds_toArray, List.set_cons_zero, List.set_cons_succ]
    refine wpAnyH_done (by kernel_rfl) ?_ _
    refine NoPanic.normal ?_
    clear cX
    go_wp2
    go_ret
    exact ⟨by rw [unhide HR]; rfl, B0.trans (hHeld.mono B0.size)⟩
  rw [if_neg hk1] at HR
  have g1 : (x.kind == 1) = false := by simpa using hk1
  by_cases hk2 : x.kind = 2
  · have g2 : (x.kind == 2) = true := by simpa using hk2
    rw [if_pos hk2] at HR
    go_wp2_with (first | (refine wpList_box_big rfl _ _ rfl (stC x).toArray rfl ?_) | (go_at_call 68; refine (unhide HW _).mono ?_; rintro e w' ⟨rfl, hw'⟩; obtain rfl := hw'.symm))
    clear x0 x3
    generalize w.alloc (.cells (stC x).toArray 48) = w1 at *
    refine wp_region_noPanic ?_
    refine wp_region_held_drew (S := fun w' => Below w1.heap.size w1 w') (by kernel_rfl) ((Below.refl _ _).drew) (fun hHeld => ?_)
    refine takeL 0 (_) rfl (by kernel_rfl) (by kernel_rfl) (by kernel_rfl) (fun _ _ _ h => h) (yieldsIf_load_mid rfl 48 _ rfl w.heap.size 0 rfl (stC x) _ (fun _ h => (cX.below h s0).cells) Tryz.underlying48 rfl (unhide HS8)) hHeld ?_
    try simp only [Act.put, List.setIfInBounds_toArray, List.set_cons_zero, List.set_cons_succ]
    refine takeL 1 (.pointer (some ⟨w.heap.size, 3, none⟩)) rfl (by kernel_rfl) (by kernel_rfl) (by kernel_rfl) (fun _ _ _ h => h) (Or.inl ⟨rfl, fun w9 hSw => by go_simp⟩) hHeld ?_
    try simp only [Act.put, List.setIfInBounds_toArray, List.set_cons_zero, List.set_cons_succ]
    refine takeL 2 (.int .i64 x.blk) rfl (by kernel_rfl) (by kernel_rfl) (by kernel_rfl) (fun _ _ _ h => h) (Or.inl ⟨rfl, fun w9 hSw => by have hc := (cX.below hSw s0).cell 3 _ rfl; go_simp⟩) hHeld ?_
    try simp only [Act.put, List.setIfInBounds_toArray, List.set_cons_zero, List.set_cons_succ]
    refine oneL 3 rfl (by kernel_rfl) rfl (fun K hK => ?_)
    go_simp
    refine (unhide HWS _).mono ?_
    rintro e w4 ⟨rfl, b4⟩
    go_wp2_with fail
    refine hK.out _ _ (hHeld.trans (b4.mono hHeld.size)) (fun hHeld => ?_)
    clear hK K
    try simp only [Act.put, List.setIfInBounds_toArray, List.set_cons_zero, List.set_cons_succ]
    refine takeL 4 (.bool (x.addr == 0 && x.val == 0 && noRc x.r)) rfl (by kernel_rfl) (by kernel_rfl) (by kernel_rfl) (fun _ _ _ h => h) (Or.inl ⟨rfl, fun w9 hSw => by unfold noRc stC wipeS zRc; go_simp; by_cases q0 : x.addr = 0 <;> by_cases q1 : x.val = 0 <;> by_cases q2 : x.r.k = 0 <;> by_cases q3 : x.r.s = 0 <;> by_cases q4 : x.r.a = 0 <;> by_cases q5 : x.r.v = 0 <;> simp [q0, q1, q2, q3, q4, q5, hk2]⟩) hHeld ?_
    try simp only [Act.put, List.setIfInBounds_toArray, List.set_cons_zero, List.set_cons_succ]
    generalize hee : (x.addr == 0 && x.val == 0 && noRc x.r) = e at *
    generalize hbb : inB x.blk 0 3 = bb at *
    refine takeL 5 (.bool e) rfl (by kernel_rfl) (by kernel_rfl) (by kernel_rfl) (fun _ _ _ h => h) (Or.inl ⟨rfl, fun _ _ => rfl⟩) hHeld ?_
    try simp only [Act.put, List.setIfInBounds_toArray, List.set_cons_zero, List.set_cons_succ]
    refine takeG 6 (e) (.bool bb) rfl (by kernel_rfl) (by kernel_rfl) (by kernel_rfl) (fun _ _ _ h => h) (by cases e <;> rfl) (fun hb w9 hSw => by cases e <;> first | (cases hb; done) | (go_simp)) hHeld ?_
    try simp only [Act.put, List.setIfInBounds_toArray, List.set_cons_zero, List.set_cons_succ]
    refine takeL 7 (.bool (e && bb)) rfl (by kernel_rfl) (by kernel_rfl) (by kernel_rfl) (fun _ _ _ h => h) (Or.inl ⟨rfl, fun w9 hSw => by cases e <;> (go_simp)⟩) hHeld ?_
    try simp only [Act.put, List.setIfInBounds_toArray, List.set_cons_zero, List.set_cons_succ]
    refine takeL 8 (.bool (e && bb)) rfl (by kernel_rfl) (by kernel_rfl) (by kernel_rfl) (fun _ _ _ h => h) (Or.inl ⟨rfl, fun _ _ => rfl⟩) hHeld ?_
    try simp only [Act.put, List.setIfInBounds_toArray, List.set_cons_zero, List.set_cons_succ]
    refine wpAnyH_done (by kernel_rfl) ?_ _
    refine NoPanic.normal ?_
    clear cX
    go_wp2
    go_ret
    exact ⟨by rw [unhide HR]; rfl, B0.trans (hHeld.mono B0.size)⟩
  rw [if_neg hk2] at HR
  have g2 : (x.kind == 2) = false := by simpa using hk2
  by_cases hk3 : x.kind = 3
  · have g3 : (x.kind == 3) = true := by simpa using hk3
    rw [if_pos hk3] at HR
    go_wp2_with (first | (refine wpList_box_big rfl _ _ rfl (stC x).toArray rfl ?_) | (go_at_call 68; refine (unhide HW _).mono ?_; rintro e w' ⟨rfl, hw'⟩; obtain rfl := hw'.symm))
    clear x0 x3
    generalize w.alloc (.cells (stC x).toArray 48) = w1 at *
    refine wp_region_noPanic ?_
    refine wp_region_held_drew (S := fun w' => Below w1.heap.size w1 w') (by kernel_rfl) ((Below.refl _ _).drew) (fun hHeld => ?_)
    refine takeL 0 (_) rfl (by kernel_rfl) (by kernel_rfl) (by kernel_rfl) (fun _ _ _ h => h) (yieldsIf_load_mid rfl 48 _ rfl w.heap.size 0 rfl (stC x) _ (fun _ h => (cX.below h s0).cells) Tryz.underlying48 rfl (unhide HS8)) hHeld ?_
    try simp only [Act.put, List.setIfInBounds_toArray, List.set_cons_zero, List.set_cons_succ]
    refine takeL 1 (.pointer (some ⟨w.heap.size, 3, none⟩)) rfl (by kernel_rfl) (by kernel_rfl) (by kernel_rfl) (fun _ _ _ h => h) (Or.inl ⟨rfl, fun w9 hSw => by go_simp⟩) hHeld ?_
    try simp only [Act.put, List.setIfInBounds_toArray, List.set_cons_zero, List.set_cons_succ]
    refine takeL 2 (.int .i64 x.blk) rfl (by kernel_rfl) (by kernel_rfl) (by kernel_rfl) (fun _ _ _ h => h) (Or.inl ⟨rfl, fun w9 hSw => by have hc := (cX.below hSw s0).cell 3 _ rfl; go_simp⟩) hHeld ?_
    try simp only [Act.put, List.setIfInBounds_toArray, List.set_cons_zero, List.set_cons_succ]
    refine takeL 3 (.pointer (some ⟨w.heap.size, 4, none⟩)) rfl (by kernel_rfl) (by kernel_rfl) (by kernel_rfl) (fun _ _ _ h => h) (Or.inl ⟨rfl, fun w9 hSw => by go_simp⟩) hHeld ?_
    try simp only [Act.put, List.setIfInBounds_toArray, List.set_cons_zero, List.set_cons_succ]
    refine takeL 4 (_) rfl (by kernel_rfl) (by kernel_rfl) (by kernel_rfl) (fun _ _ _ h => h) (yieldsIf_load_mid rfl 46 _ rfl w.heap.size 4 rfl (rcC x.r) _ (fun _ h => step_rec (cX.below h s0)) Tryz.underlying46 rfl (unhide HS4)) hHeld ?_
    try simp only [Act.put, List.setIfInBounds_toArray, List.set_cons_zero, List.set_cons_succ]
    refine oneL 5 rfl (by kernel_rfl) rfl (fun K hK => ?_)
    go_simp
    refine (unhide HRS _).mono ?_
    rintro e w4 ⟨rfl, b4⟩
    go_wp2_with fail
    refine hK.out _ _ (hHeld.trans (b4.mono hHeld.size)) (fun hHeld => ?_)
    clear hK K
    try simp only [Act.put, List.setIfInBounds_toArray, List.set_cons_zero, List.set_cons_succ]
    refine takeL 6 (.bool (x.addr == 0 && x.val == 0)) rfl (by kernel_rfl) (by kernel_rfl) (by kernel_rfl) (fun _ _ _ h => h) (Or.inl ⟨rfl, fun w9 hSw => by unfold stC writeS; go_simp; by_cases q0 : x.addr = 0 <;> by_cases q1 : x.val = 0 <;> simp [q0, q1, hk3]⟩) hHeld ?_
    try simp only [Act.put, List.setIfInBounds_toArray, List.set_cons_zero, List.set_cons_succ]
    generalize hee : (x.addr == 0 && x.val == 0) = e at *
    generalize hbb : inB x.blk 0 3 = bb at *
    generalize hrr : recB x.r.k x.r.s x.r.a x.r.v = rr at *
    refine takeL 7 (.bool e) rfl (by kernel_rfl) (by kernel_rfl) (by kernel_rfl) (fun _ _ _ h => h) (Or.inl ⟨rfl, fun _ _ => rfl⟩) hHeld ?_
    try simp only [Act.put, List.setIfInBounds_toArray, List.set_cons_zero, List.set_cons_succ]
    refine takeG 8 (e) (.bool bb) rfl (by kernel_rfl) (by kernel_rfl) (by kernel_rfl) (fun _ _ _ h => h) (by cases e <;> rfl) (fun hb w9 hSw => by cases e <;> first | (cases hb; done) | (go_simp)) hHeld ?_
    try simp only [Act.put, List.setIfInBounds_toArray, List.set_cons_zero, List.set_cons_succ]
    refine takeL 9 (.bool (e && bb)) rfl (by kernel_rfl) (by kernel_rfl) (by kernel_rfl) (fun _ _ _ h => h) (Or.inl ⟨rfl, fun w9 hSw => by cases e <;> (go_simp)⟩) hHeld ?_
    try simp only [Act.put, List.setIfInBounds_toArray, List.set_cons_zero, List.set_cons_succ]
    refine takeL 10 (.bool (e && bb)) rfl (by kernel_rfl) (by kernel_rfl) (by kernel_rfl) (fun _ _ _ h => h) (Or.inl ⟨rfl, fun _ _ => rfl⟩) hHeld ?_
    try simp only [Act.put, List.setIfInBounds_toArray, List.set_cons_zero, List.set_cons_succ]
    refine takeG 11 (e && bb) (.pointer (some ⟨w.heap.size, 4, none⟩)) rfl (by kernel_rfl) (by kernel_rfl) (by kernel_rfl) (fun _ _ _ h => h) (by cases e <;> cases bb <;> rfl) (fun hb w9 hSw => by cases e <;> cases bb <;> first | (cases hb; done) | (go_simp)) hHeld ?_
    try simp only [Act.put, List.setIfInBounds_toArray, List.set_cons_zero, List.set_cons_succ]
    refine takeG 12 (e && bb) (.agg #[.int .i64 x.r.k, .int .i64 x.r.s, .int .i64 x.r.a, .int .i64 x.r.v]) rfl (by kernel_rfl) (by kernel_rfl) (by kernel_rfl) (fun _ _ _ h => h) (by cases e <;> cases bb <;> rfl) (fun hb w9 hSw => by cases e <;> cases bb <;> first | (cases hb; done) | (have hc0 := (cX.below hSw s0).cell 4 _ rfl; have hc1 := (cX.below hSw s0).cell 5 _ rfl; have hc2 := (cX.below hSw s0).cell 6 _ rfl; have hc3 := (cX.below hSw s0).cell 7 _ rfl; go_simp)) hHeld ?_
    try simp only [Act.put, List.setIfInBounds_toArray, List.set_cons_zero, List.set_cons_succ]
    refine callG 13 (e && bb) (.bool rr) rfl (by kernel_rfl) (by cases e <;> cases bb <;> rfl) hHeld (fun hb K hK => by cases e <;> cases bb <;> first | (cases hb; done) | (go_simp; refine (unhide HRO _).mono ?_; rintro e w4 ⟨rfl, b4⟩; go_wp2_with fail; exact hK.out _ (hHeld.trans (b4.mono hHeld.size)))) (fun w4 hHeld => ?_)
    try simp only [Act.put, List.setIfInBounds_toArray, List.set_cons_zero, List.set_cons_succ]
    refine takeL 14 (.bool (e && bb && rr)) rfl (by kernel_rfl) (by kernel_rfl) (by kernel_rfl) (fun _ _ _ h => h) (Or.inl ⟨rfl, fun w9 hSw => by cases e <;> cases bb <;> (go_simp)⟩) hHeld ?_
    try simp only [Act.put, List.setIfInBounds_toArray, List.set_cons_zero, List.set_cons_succ]
    refine takeL 15 (.bool (e && bb && rr)) rfl (by kernel_rfl) (by kernel_rfl) (by kernel_rfl) (fun _ _ _ h => h) (Or.inl ⟨rfl, fun _ _ => rfl⟩) hHeld ?_
    try simp only [Act.put, List.setIfInBounds_toArray, List.set_cons_zero, List.set_cons_succ]
    refine wpAnyH_done (by kernel_rfl) ?_ _
    refine NoPanic.normal ?_
    clear cX
    go_wp2
    go_ret
    exact ⟨by rw [unhide HR]; rfl, B0.trans (hHeld.mono B0.size)⟩
  rw [if_neg hk3] at HR
  have g3 : (x.kind == 3) = false := by simpa using hk3
  go_wp2_with (first | (refine wpList_box_big rfl _ _ rfl (stC x).toArray rfl ?_) | (go_at_call 68; refine (unhide HW _).mono ?_; rintro e w' ⟨rfl, hw'⟩; obtain rfl := hw'.symm))
  go_ret
  exact ⟨by rw [unhide HR]; rfl, B0⟩

/-! The function value that waits for a step; its captured variables lie from lo to hi. -/
def DoAt (w : World) (lo hi : Nat) (x : Stp) (v : Value) : Prop :=
  (x.kind = 1 ∧ ∃ p q, v = .func (.func 99) #[] #[.pointer (some ⟨p, 0, none⟩), .pointer (some ⟨q, 0, none⟩)] ∧ (lo ≤ p ∧ p < hi) ∧ (lo ≤ q ∧ q < hi) ∧ w.cell? ⟨p, 0, none⟩ = some (.int .i64 x.addr) ∧ w.cell? ⟨q, 0, none⟩ = some (.int .i64 x.val)) ∨
  (x.kind = 2 ∧ ∃ p, v = .func (.func 101) #[] #[.pointer (some ⟨p, 0, none⟩)] ∧ (lo ≤ p ∧ p < hi) ∧ w.cell? ⟨p, 0, none⟩ = some (.int .i64 x.blk)) ∨
  (x.kind = 3 ∧ ∃ p q, v = .func (.func 103) #[] #[.pointer (some ⟨p, 0, none⟩), .pointer (some ⟨q, 0, none⟩)] ∧ (lo ≤ p ∧ p < hi) ∧ (lo ≤ q ∧ q < hi) ∧ w.cell? ⟨p, 0, none⟩ = some (.int .i64 x.blk) ∧ w.rangeAt q 0 (rcC x.r))
theorem DoAt.kept {w w' : World} {lo hi : Nat} {x : Stp} {v : Value} (h : DoAt w lo hi x v) {L : List Nat} (k : Kept L w w') (hh : hi ≤ w.heap.size) (hL : ∀ y ∈ L, y < lo ∨ hi ≤ y) : DoAt w' lo hi x v := by
  have hn : ∀ p, lo ≤ p ∧ p < hi → p ∉ L := fun p hp hm => by have := hL p hm; omega
  rcases h with ⟨hk, p, q, e, hp, hq, cp, cq⟩ | ⟨hk, p, e, hp, cp⟩ | ⟨hk, p, q, e, hp, hq, cp, cq⟩
  · exact .inl ⟨hk, p, q, e, hp, hq, by rw [k.cell 0 (by omega) (hn p hp)]; exact cp, by rw [k.cell 0 (by omega) (hn q hq)]; exact cq⟩
  · exact .inr (.inl ⟨hk, p, e, hp, by rw [k.cell 0 (by omega) (hn p hp)]; exact cp⟩)
  · exact .inr (.inr ⟨hk, p, q, e, hp, hq, by rw [k.cell 0 (by omega) (hn p hp)]; exact cp, k.range cq (by omega) (hn q hq)⟩)
theorem DoAt.mono {w : World} {lo hi : Nat} {x : Stp} {v : Value} (h : DoAt w lo hi x v) {lo' hi' : Nat} (hl : lo' ≤ lo) (hh : hi ≤ hi') : DoAt w lo' hi' x v := by
  rcases h with ⟨hk, p, q, e, hp, hq, c⟩ | ⟨hk, p, e, hp, c⟩ | ⟨hk, p, q, e, hp, hq, c⟩
  · exact .inl ⟨hk, p, q, e, by omega, by omega, c⟩
  · exact .inr (.inl ⟨hk, p, e, by omega, c⟩)
  · exact .inr (.inr ⟨hk, p, q, e, by omega, by omega, c⟩)
theorem DoAt.one {w : World} {lo hi : Nat} {x : Stp} {v : Value} (h : DoAt w lo hi x v) : v.oneCell' = true := by
  rcases h with ⟨_, p, q, rfl, _⟩ | ⟨_, p, rfl, _⟩ | ⟨_, p, q, rfl, _⟩ <;> rfl
def DfPost (w : World) (x : Stp) (e : Ending) (w' : World) : Prop := ∃ v, e = .returned v ∧ DoAt w' w.heap.size w'.heap.size x v ∧ Below w.heap.size w w'
theorem doDisk_any (addr val : Int) (w : World) : Calls Tryz.prog 80 #[.int .i64 addr, .int .i64 val] w fun e w' => e = .returned (.func (.func 99) #[] #[.pointer (some ⟨w.heap.size, 0, none⟩), .pointer (some ⟨w.heap.size + 1, 0, none⟩)]) ∧ w' = (w.alloc (.cells #[.int .i64 addr] 3)).alloc (.cells #[.int .i64 val] 3) := by
  go_enter Tryz.func80, Tryz.ntmps80
  go_wp2
  go_ret
  exact ⟨rfl, rfl⟩
theorem doWipe_any (blk : Int) (w : World) : Calls Tryz.prog 81 #[.int .i64 blk] w fun e w' => e = .returned (.func (.func 101) #[] #[.pointer (some ⟨w.heap.size, 0, none⟩)]) ∧ w' = w.alloc (.cells #[.int .i64 blk] 3) := by
  go_enter Tryz.func81, Tryz.ntmps81
  go_wp2
  go_ret
  exact ⟨rfl, rfl⟩
theorem doWrite_any (blk : Int) (r : Rc) (w : World) : Calls Tryz.prog 82 #[.int .i64 blk, .agg #[.int .i64 r.k, .int .i64 r.s, .int .i64 r.a, .int .i64 r.v]] w fun e w' => e = .returned (.func (.func 103) #[] #[.pointer (some ⟨w.heap.size, 0, none⟩), .pointer (some ⟨w.heap.size + 1, 0, none⟩)]) ∧ w' = (w.alloc (.cells #[.int .i64 blk] 3)).alloc (.cells (rcC r).toArray 46) := by
  go_enter Tryz.func82, Tryz.ntmps82
  go_wp2
  go_ret
  exact ⟨rfl, rfl⟩

set_option maxRecDepth 100000 in
set_option maxHeartbeats 1000000 in
theorem doOf_any (x : Stp) (hx : stkB x = true) (w : World) :
    Calls Tryz.prog 51 #[.agg (stC x).toArray] w fun e w' => DfPost w x e w' := by
  have cX := CsAt.new w (stC x) 48
  have B0 : Below w.heap.size w (w.alloc (.cells (stC x).toArray 48)) := (Below.refl _ _).alloc (Nat.le_refl _) _
  have s0 : w.heap.size < (w.alloc (.cells (stC x).toArray 48)).heap.size := by simp
  have x0 := cX.cell 0 _ rfl
  have x1 := cX.cell 1 _ rfl
  have x2 := cX.cell 2 _ rfl
  have x3 := cX.cell 3 _ rfl
  have x4 := cX.cell 4 _ rfl
  have x5 := cX.cell 5 _ rfl
  have x6 := cX.cell 6 _ rfl
  have x7 := cX.cell 7 _ rfl
  unfold stkB at hx
  go_enter Tryz.func51, Tryz.ntmps51
  by_cases hk1 : x.kind = 1
  · have g1 : (x.kind == 1) = true := by simpa using hk1
    have HK := hide hk1
    clear hx hk1
    go_wp2_with (refine wpList_box_big rfl _ _ rfl (stC x).toArray rfl ?_)
    clear x0 x1 x2 x3 x4 x5 x6 x7 cX
    generalize w.alloc (.cells (stC x).toArray 48) = w1 at *
    refine (doDisk_any x.addr x.val _).mono ?_
    rintro e w2 ⟨rfl, hw2⟩
    have b2 : Below w1.heap.size w1 w2 := by rw [hw2]; exact ((Below.refl _ _).alloc (Nat.le_refl _) _).alloc (by simp) _
    have c1 : w2.cell? ⟨w1.heap.size, 0, none⟩ = some (.int .i64 x.addr) := by
      rw [hw2]; exact ((CsAt.new w1 [.int .i64 x.addr] 3).alloc (by simp) _).cell 0 _ rfl
    have c2 : w2.cell? ⟨w1.heap.size + 1, 0, none⟩ = some (.int .i64 x.val) := by
      have := (CsAt.new (w1.alloc (.cells #[.int .i64 x.addr] 3)) [.int .i64 x.val] 3).cell 0 _ rfl
      rw [World.size_alloc] at this
      rw [hw2]; exact this
    have s2 : w1.heap.size + 2 ≤ w2.heap.size := by rw [hw2]; simp
    have B2 := B0.trans (b2.mono B0.size)
    clear hw2 b2
    go_wp2
    go_ret
    exact ⟨_, rfl, .inl ⟨unhide HK, _, _, rfl, by omega, by omega, c1, c2⟩, B2⟩
  have g1 : (x.kind == 1) = false := by simpa using hk1
  rw [if_neg hk1] at hx
  by_cases hk2 : x.kind = 2
  · have g2 : (x.kind == 2) = true := by simpa using hk2
    have HK := hide hk2
    clear hx hk2 hk1
    go_wp2_with (refine wpList_box_big rfl _ _ rfl (stC x).toArray rfl ?_)
    clear x0 x1 x2 x3 x4 x5 x6 x7 cX
    generalize w.alloc (.cells (stC x).toArray 48) = w1 at *
    refine (doWipe_any x.blk _).mono ?_
    rintro e w2 ⟨rfl, hw2⟩
    have b2 : Below w1.heap.size w1 w2 := by rw [hw2]; exact (Below.refl _ _).alloc (Nat.le_refl _) _
    have c1 : w2.cell? ⟨w1.heap.size, 0, none⟩ = some (.int .i64 x.blk) := by
      rw [hw2]; exact (CsAt.new w1 [.int .i64 x.blk] 3).cell 0 _ rfl
    have s2 : w1.heap.size + 1 ≤ w2.heap.size := by rw [hw2]; simp
    have B2 := B0.trans (b2.mono B0.size)
    clear hw2 b2
    go_wp2
    go_ret
    exact ⟨_, rfl, .inr (.inl ⟨unhide HK, _, rfl, by omega, c1⟩), B2⟩
  have g2 : (x.kind == 2) = false := by simpa using hk2
  rw [if_neg hk2] at hx
  have hk3 : x.kind = 3 := by
    by_cases h : x.kind = 3
    · exact h
    · rw [if_neg h] at hx; cases hx
  have HK := hide hk3
  clear hx hk1 hk2 hk3
  go_wp2_with (refine wpList_box_big rfl _ _ rfl (stC x).toArray rfl ?_)
  clear x0 x1 x2 x3 x4 x5 x6 x7 cX
  generalize w.alloc (.cells (stC x).toArray 48) = w1 at *
  refine (doWrite_any x.blk x.r _).mono ?_
  rintro e w2 ⟨rfl, hw2⟩
  have b2 : Below w1.heap.size w1 w2 := by rw [hw2]; exact ((Below.refl _ _).alloc (Nat.le_refl _) _).alloc (by simp) _
  have c1 : w2.cell? ⟨w1.heap.size, 0, none⟩ = some (.int .i64 x.blk) := by
    rw [hw2]; exact ((CsAt.new w1 [.int .i64 x.blk] 3).alloc (by simp) _).cell 0 _ rfl
  have c2 : w2.rangeAt (w1.heap.size + 1) 0 (rcC x.r) := by
    have := rangeAt_new (w1.alloc (.cells #[.int .i64 x.blk] 3)) (rcC x.r) 46
    rw [World.size_alloc] at this
    rw [hw2]; exact this
  have s2 : w1.heap.size + 2 ≤ w2.heap.size := by rw [hw2]; simp
  have B2 := B0.trans (b2.mono B0.size)
  clear hw2 b2
  go_wp2
  go_ret
  exact ⟨_, rfl, .inr (.inr ⟨unhide HK, _, _, rfl, by omega, by omega, c1, c2⟩), B2⟩
end Go.Proofs.YtcmklcfedeeahaaGreat.QuB

/-
  The specification's room: by which steps there is a clean page.
-/
namespace Go.Proofs.YtcmklcfedeeahaaGreat.RmA
open Go.ChangeShapes Go.WideShapes Go.ChangeAt Go.RowKit Go.Shelf OkA Big Fl ImplB ImplF ImplS _root_.Go.Proofs.YtcmklcfedeeahaaGreat.Own ImplT ImplU SpecA SpecB SpecC SpecD SpecW SpecF SpecG SpecH Ok2 Pl FindP SpecX ImplL FindN FindL FindV Kp StA
set_option linter.unusedVariables false
set_option linter.unusedSimpArgs false
attribute [local go_sem ↓] Go.wp_at_zero Go.wp_at_succ

/-! A row of steps that grows. -/
structure Sts (w : World) (lo : Nat) (v : Value) (l : List Stp) : Prop where
  row : w.ownsRow lo 48 8 v l.length (stsC l)
  lt : ∀ g, v.ownBlock = some g → lo ≤ g ∧ g < w.heap.size
theorem made_st : (Tryz.prog.info? 48).map (fun i => (i.zero, i.size, i.bytes)) = some (some (.agg (stC zSt).toArray), 8, 64) := by kernel_rfl
theorem infoS : ∃ i, Tryz.prog.info? 48 = some i ∧ i.zero = some (.agg (stC zSt).toArray) ∧ i.size = 8 ∧ i.bytes = 64 := by
  have h := made_st
  cases hq : Tryz.prog.info? 48 with
  | none => rw [hq] at h; cases h
  | some i => rw [hq] at h; simp at h; exact ⟨i, rfl, h.1, h.2.1, h.2.2⟩
theorem Sts.below {w w' : World} {lo : Nat} {v : Value} {l : List Stp} (h : Sts w lo v l) {B : Nat} (hb : Below B w w') (hB : w.heap.size ≤ B) : Sts w' lo v l :=
  ⟨ownsRow_below h.row hb (fun g hg => Nat.lt_of_lt_of_le (h.lt g hg).2 hB), fun g hg => ⟨(h.lt g hg).1, Nat.lt_of_lt_of_le (h.lt g hg).2 hb.size⟩⟩
theorem Sts.nil (w : World) (lo : Nat) (hl : lo ≤ w.heap.size) : Sts (w.alloc (.cells #[] 48)) lo (.slice (some ⟨w.heap.size, 0, none⟩) 0 0) [] :=
  ⟨World.ownsRow_lit w #[] 0 hl (by simp [maxLen]) rfl, fun g hg => by simp [Value.ownBlock] at hg; subst hg; exact ⟨hl, by simp⟩⟩
theorem Sts.mono {w : World} {lo lo' : Nat} {v : Value} {l : List Stp} (h : Sts w lo v l) (hl : lo' ≤ lo) : Sts w lo' v l := by
  refine ⟨?_, fun g hg => ⟨Nat.le_trans hl (h.lt g hg).1, (h.lt g hg).2⟩⟩
  obtain ⟨h1, h2⟩ := h.row
  refine ⟨h1, ?_⟩
  rcases h2 with h2 | ⟨g, cap, cur, e, hb, r⟩
  · exact .inl h2
  · exact .inr ⟨g, cap, cur, e, Nat.le_trans hl hb, r⟩
theorem one_stC (x : Stp) : ∀ v ∈ stC x, v.oneCell' = true := by intro v hv; simp [stC] at hv; rcases hv with rfl | rfl | rfl | rfl | rfl | rfl | rfl | rfl <;> rfl
theorem stsC_one (l : List Stp) (x : Stp) : stsC (l ++ [x]) = stsC l ++ stC x := by simp [stsC]
/-- What a row that was appended to is. -/
theorem Sts.push {w w' : World} {lo : Nat} {v v' : Value} {l : List Stp} {x : Stp} (h : Sts w lo v l) (hlo : lo ≤ w.heap.size) (ho : w'.ownsRow lo 48 8 v' (l.length + 1) (stsC l ++ stC x)) (hg : w.grownBy w' v.ownBlock) : Sts w' lo v' (l ++ [x]) ∧ Below lo w w' := by
  refine ⟨⟨by rw [stsC_one, List.length_append]; exact ho, fun g e => ?_⟩, (Below.refl _ _).grown hg hlo (fun k e => (h.lt k e).1)⟩
  obtain ⟨_, h2⟩ := ho
  rcases h2 with ⟨_, h2⟩ | ⟨g', cap, cur, rfl, hb, hh, _⟩
  · omega
  · simp [Value.ownBlock] at e
    subst e
    refine ⟨hb, ?_⟩
    by_cases hlt : g' < w'.heap.size
    · exact hlt
    · have : w'.heap[g']? = none := by simp; omega
      rw [this] at hh; cases hh
def RoomPost (w : World) (bs : List Bk) (e : Ending) (w' : World) : Prop := ∃ v, e = .returned (.tuple #[v, .int .i64 (roomB bs), .bool (roomO bs)]) ∧ Sts w' w.heap.size v (roomL bs) ∧ Below w.heap.size w w'
theorem tellP_take (bs : List Bk) (ps : List Pg) (k : Nat) (hk : k < ps.length) : tellP bs (ps.take (k + 1)) = tellP bs (ps.take k) ++ (if liveB bs ps[k] && ps[k].k == 1 then [diskS ps[k].a ps[k].v] else []) := by
  unfold tellP
  rw [List.take_succ_eq_append_getElem hk, List.filterMap_append]
  congr 1
  cases h : liveB bs ps[k] && ps[k].k == 1 <;> simp only [List.filterMap_cons, List.filterMap_nil, h] <;> rfl
theorem tellP_len (bs : List Bk) (ps : List Pg) : (tellP bs ps).length ≤ ps.length := List.length_filterMap_le _ _

theorem here : True := trivial
end Go.Proofs.YtcmklcfedeeahaaGreat.RmA

/-
  The specification's steps by which a record is written.
-/
namespace Go.Proofs.YtcmklcfedeeahaaGreat.WrA
open Go.ChangeShapes Go.WideShapes Go.ChangeAt Go.RowKit Go.Shelf OkA Big Fl ImplB ImplF ImplS _root_.Go.Proofs.YtcmklcfedeeahaaGreat.Own ImplT ImplU SpecA SpecB SpecC SpecD SpecW SpecF SpecG SpecH Ok2 Pl FindP SpecX ImplL FindN FindL FindV Kp StA RmA
set_option linter.unusedVariables false
set_option linter.unusedSimpArgs false
attribute [local go_sem ↓] Go.wp_at_zero Go.wp_at_succ

def StpPost (w : World) (l : List Stp) (e : Ending) (w' : World) : Prop := ∃ v, e = .returned v ∧ Sts w' w.heap.size v l ∧ Below w.heap.size w w'
theorem roomL_len (bs : List Bk) (hF : Fours bs) (h4 : bs.length = 4) : (roomL bs).length ≤ 5 := by
  unfold roomL
  split
  · simp
  · have hob : oldB bs < bs.length := by unfold oldB; have := oldN_le bs 3; omega
    have := tellP_len bs (bs.getD (oldB bs) zBk).ps
    rw [getD_at bs _ hob, hF.at _ hob] at this
    rw [List.length_append, getD_at bs _ hob]
    simp
    omega

theorem here : True := trivial
end Go.Proofs.YtcmklcfedeeahaaGreat.WrA

/-
  The specification's steps by which the slow disk is told a value, and by which a value is filled.
-/
namespace Go.Proofs.YtcmklcfedeeahaaGreat.FlA
open Go.ChangeShapes Go.WideShapes Go.ChangeAt Go.RowKit Go.Shelf OkA Big Fl ImplB ImplF ImplS _root_.Go.Proofs.YtcmklcfedeeahaaGreat.Own ImplT ImplU SpecA SpecB SpecC SpecD SpecW SpecF SpecG SpecH Ok2 Pl FindP SpecX ImplL FindN FindL FindV Kp StA RmA WrA
set_option linter.unusedVariables false
set_option linter.unusedSimpArgs false
attribute [local go_sem ↓] Go.wp_at_zero Go.wp_at_succ

theorem stsForm {w : World} {lo : Nat} {v : Value} {l : List Stp} (h : Sts w lo v l) : ∃ a cap, v = .slice a l.length cap ∧ (l = [] ∨ ∃ g, a = some ⟨g, 0, none⟩ ∧ lo ≤ g ∧ g < w.heap.size ∧ w.rangeAt g 0 (stsC l)) := by
  obtain ⟨h1, h2⟩ := h.row
  rcases h2 with ⟨e, hn⟩ | ⟨g, cap, cur, e, hb, hh, r⟩
  · exact ⟨none, 0, by rw [e, hn], .inl (List.eq_nil_of_length_eq_zero hn)⟩
  · refine ⟨_, cap, e, ?_⟩
    cases l with
    | nil => exact .inl rfl
    | cons x r' =>
      subst e
      have hl := h.lt g rfl
      exact .inr ⟨g, rfl, hl.1, hl.2, (row_pages (by simp) h.row).1⟩
theorem writeP_len (bs : List Bk) (hF : Fours bs) (h4 : bs.length = 4) (k a v : Int) : (writeP bs k a v).length ≤ 6 := by
  unfold writeP
  split
  · have := roomL_len bs hF h4
    rw [List.length_append]; simp; omega
  · simp

theorem here : True := trivial
end Go.Proofs.YtcmklcfedeeahaaGreat.FlA
