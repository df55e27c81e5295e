/-
  Texts that belong together, one behind the other: LawsE, OpenF, Ok2, SpecF.
-/
import Derived.Test.YtogfelpdgeionaaGreatHaH
import Derived.Deep.RegionHeld3
import Derived.Deep.DrawnRows
import Derived.ShutString
import Derived.ChangeOld
import Derived.Deep.Slices
import Derived.ChangeSame
import Derived.Lib.SmallJoins
import Derived.Test.YtogfelpdgeionaaGreatHaF
import Derived.Test.YtogfelpdgeionaaGreatHaE

/-
  The laws' helpers: whether two lists of blocks are the same: true of two that hold the same, wherever they lie.
-/
namespace Go.Proofs.YtogfelpdgeionaaGreat.LawsE
open Go.ChangeShapes Go.WideShapes Go.ChangeAt Go.RowKit OkA Big Fl ImplB ImplF ImplS _root_.Go.Proofs.YtogfelpdgeionaaGreat.Own ImplT ImplU SpecA SpecB LawsA LawsB
set_option linter.unusedVariables false
set_option linter.unusedSimpArgs false
attribute [local go_sem ↓] Go.wp_at_zero Go.wp_at_succ

set_option maxHeartbeats 400000 in
theorem eqRec_any (k s a v : Int) (w : World) :
    Calls Tryz.prog 195 #[.agg #[.int .i64 k, .int .i64 s, .int .i64 a, .int .i64 v], .agg #[.int .i64 k, .int .i64 s, .int .i64 a, .int .i64 v]] w fun e w' => e = .returned (.bool true) ∧ Below w.heap.size w w' := by
  go_enter Tryz.func195, Tryz.ntmps195
  go_wp2
  go_ret
  exact ⟨rfl, ((Below.refl _ _).alloc (Nat.le_refl _) _).alloc (by simp) _⟩
set_option maxHeartbeats 400000 in
theorem eqPage_any (p : Pg) (w : World) :
    Calls Tryz.prog 266 #[.agg (pgC p).toArray, .agg (pgC p).toArray] w fun e w' => e = .returned (.bool true) ∧ Below w.heap.size w w' := by
  show Calls Tryz.prog 266 #[.agg #[.int .i64 p.st, .int .i64 p.k, .int .i64 p.s, .int .i64 p.a, .int .i64 p.v], .agg #[.int .i64 p.st, .int .i64 p.k, .int .i64 p.s, .int .i64 p.a, .int .i64 p.v]] w _
  go_enter Tryz.func266, Tryz.ntmps266
  go_wp2_with fail
  refine (eqRec_any _ _ _ _ _).mono ?_
  rintro e w1 ⟨rfl, b1⟩
  have B0 : ∀ x y, Below w.heap.size w ((w.alloc x).alloc y) := fun x y => ((Below.refl _ _).alloc (Nat.le_refl _) _).alloc (by simp) _
  have B1 := (B0 _ _).trans (b1.mono (B0 _ _).size)
  clear b1 B0
  go_wp2
  go_ret
  exact ⟨rfl, B1⟩
theorem PsAt.drew {w : World} {a : Option Addr} {ps : List Pg} (h : PsAt w a ps) : PsAt w.drew a ps := h.below ((Below.refl _ _).drew)
theorem range_pg {w : World} {b o : Nat} {ps : List Pg} (h : w.rangeAt b o (psC ps)) (k : Nat) (hk : k < ps.length) : w.rangeAt b (o + k * 5) (pgC ps[k]) := by
  have := rangeAt_sub h (k * 5) 5
  rwa [part_ps ps k hk] at this

set_option maxHeartbeats 1000000 in
theorem eqPageS_any (a1 a2 : Option Addr) (cap1 cap2 : Nat) (ps : List Pg) (w : World) (h1 : PsAt w a1 ps) (h2 : PsAt w a2 ps) (hl : ps.length ≤ 1048576) :
    Calls Tryz.prog 236 #[.slice a1 ps.length cap1, .slice a2 ps.length cap2] w fun e w' => e = .returned (.bool true) ∧ Below w.heap.size w w' := by
  have hli : (ps.length : Int) ≤ 1048576 := by omega
  have H1 := hide h1
  have H2 := hide h2
  clear h1 h2
  go_enter Tryz.func236, Tryz.ntmps236
  go_wp2
  go_loopw [5] (fun i w' => ∃ k : Nat, k ≤ ps.length ∧ i = .int .i64 k ∧ Below w.heap.size w w') (fun i _ => ps.length - (intOf i).toNat)
  case atStart => exact ⟨0, by omega, rfl, Below.refl _ _⟩
  case round =>
    obtain ⟨k, hk, rfl, bw⟩ := hrel
    by_cases h0 : k = ps.length
    · subst h0
      go_wp2
      go_ret
      exact ⟨rfl, bw⟩
    · have hlt : (k : Int) < (ps.length : Int) := by omega
      have hkb : k < ps.length := by omega
      have hlo : (0 : Int) ≤ (k : Int) := by omega
      obtain ⟨b1, o1, rfl, g1⟩ : ∃ b o, a1 = some ⟨b, o, none⟩ ∧ wr.rangeAt b o (psC ps) := by
        rcases (unhide H1).below bw with rfl | h
        · simp at hkb
        · exact h
      obtain ⟨b2, o2, rfl, g2⟩ : ∃ b o, a2 = some ⟨b, o, none⟩ ∧ wr.rangeAt b o (psC ps) := by
        rcases (unhide H2).below bw with rfl | h
        · simp at hkb
        · exact h
      have l1 := cell_lt (PsAt.cells g1 k hkb).1
      have l2 := cell_lt (PsAt.cells g2 k hkb).1
      have x1 := range_pg g1 k hkb
      have x2 := range_pg g2 k hkb
      have HC := hide (eqPage_any ps[k])
      have HS1 := hide (size_pg ps[k])
      have HS2 := hide (size_pg ps[k])
      clear g1 g2
      generalize pgC ps[k] = pc at *
      go_wp2_with fail
      refine wp_region_noPanic ?_
      refine wp_region_held_drew (S := fun w' => w'.rangeAt b1 (o1 + k * 5) pc ∧ w'.rangeAt b2 (o2 + k * 5) pc) (by kernel_rfl) (⟨by simpa using x1, by simpa using x2⟩) (fun hHeld => ?_)
      refine takeL 0 (.slice (some ⟨b1, o1, none⟩) ps.length cap1) rfl (by kernel_rfl) (by kernel_rfl) (by kernel_rfl) (fun _ _ _ h => h) (Or.inl ⟨rfl, fun _ _ => rfl⟩) hHeld ?_
      try simp only [Act.put, List.setIfInBounds_toArray, List.set_cons_zero, List.set_cons_succ]
      refine takeL 1 (.int .i64 k) rfl (by kernel_rfl) (by kernel_rfl) (by kernel_rfl) (fun _ _ _ h => h) (Or.inl ⟨rfl, fun _ _ => rfl⟩) hHeld ?_
      try simp only [Act.put, List.setIfInBounds_toArray, List.set_cons_zero, List.set_cons_succ]
      refine takeL 2 (.pointer (some ⟨b1, o1 + k * 5, none⟩)) rfl (by kernel_rfl) (by kernel_rfl) (by kernel_rfl) (fun _ _ _ h => h) (Or.inl ⟨rfl, fun w9 hSw => by go_simp⟩) hHeld ?_
      try simp only [Act.put, List.setIfInBounds_toArray, List.set_cons_zero, List.set_cons_succ]
      refine takeL 3 (_) rfl (by kernel_rfl) (by kernel_rfl) (by kernel_rfl) (fun _ _ _ h => h) (yieldsIf_load_mid rfl 102 _ rfl b1 (o1 + k * 5) rfl pc _ (fun _ h => h.1) Tryz.underlying102 rfl (unhide HS1)) hHeld ?_
      try simp only [Act.put, List.setIfInBounds_toArray, List.set_cons_zero, List.set_cons_succ]
      refine takeL 4 (.slice (some ⟨b2, o2, none⟩) ps.length cap2) rfl (by kernel_rfl) (by kernel_rfl) (by kernel_rfl) (fun _ _ _ h => h) (Or.inl ⟨rfl, fun _ _ => rfl⟩) hHeld ?_
      try simp only [Act.put, List.setIfInBounds_toArray, List.set_cons_zero, List.set_cons_succ]
      refine takeL 5 (.int .i64 k) rfl (by kernel_rfl) (by kernel_rfl) (by kernel_rfl) (fun _ _ _ h => h) (Or.inl ⟨rfl, fun _ _ => rfl⟩) hHeld ?_
      try simp only [Act.put, List.setIfInBounds_toArray, List.set_cons_zero, List.set_cons_succ]
      refine takeL 6 (.pointer (some ⟨b2, o2 + k * 5, none⟩)) rfl (by kernel_rfl) (by kernel_rfl) (by kernel_rfl) (fun _ _ _ h => h) (Or.inl ⟨rfl, fun w9 hSw => by go_simp⟩) hHeld ?_
      try simp only [Act.put, List.setIfInBounds_toArray, List.set_cons_zero, List.set_cons_succ]
      refine takeL 7 (_) rfl (by kernel_rfl) (by kernel_rfl) (by kernel_rfl) (fun _ _ _ h => h) (yieldsIf_load_mid rfl 102 _ rfl b2 (o2 + k * 5) rfl pc _ (fun _ h => h.2) Tryz.underlying102 rfl (unhide HS2)) hHeld ?_
      try simp only [Act.put, List.setIfInBounds_toArray, List.set_cons_zero, List.set_cons_succ]
      refine oneL 8 rfl (by kernel_rfl) rfl (fun K hK => ?_)
      go_simp
      refine (unhide HC _).mono ?_
      rintro e wz ⟨rfl, bz⟩
      go_wp2_with fail
      refine hK.out _ _ ⟨rangeAt_below hHeld.1 bz (by simpa using l1), rangeAt_below hHeld.2 bz (by simpa using l2)⟩ (fun hHeld => ?_)
      clear hK K
      try simp only [Act.put, List.setIfInBounds_toArray, List.set_cons_zero, List.set_cons_succ]
      refine takeL 9 (.bool false) rfl (by kernel_rfl) (by kernel_rfl) (by kernel_rfl) (fun _ _ _ h => h) (Or.inl ⟨rfl, fun w9 hSw => by go_simp⟩) hHeld ?_
      try simp only [Act.put, List.setIfInBounds_toArray, List.set_cons_zero, List.set_cons_succ]
      refine wpAnyH_done (by kernel_rfl) ?_ _
      refine NoPanic.normal ?_
      have B2 := bw.drew.trans (bz.mono bw.size)
      clear bz bw x1 x2
      go_wp2
      go_roundw
      case rel => exact ⟨k + 1, by omega, by first | rfl | go_num, B2⟩
      case measure => simp [intOf]; omega

set_option maxHeartbeats 400000 in
theorem eqBlock_any (a1 a2 : Option Addr) (cap1 cap2 : Nat) (b : Bk) (w : World) (h1 : PsAt w a1 b.ps) (h2 : PsAt w a2 b.ps) (hl : b.ps.length ≤ 1048576) :
    Calls Tryz.prog 196 #[.agg #[.slice a1 b.ps.length cap1, .int .i64 b.wn], .agg #[.slice a2 b.ps.length cap2, .int .i64 b.wn]] w fun e w' => e = .returned (.bool true) ∧ Below w.heap.size w w' := by
  have B0 : Below w.heap.size w ((w.alloc (.cells #[.slice a1 b.ps.length cap1, .int .i64 b.wn] 209)).alloc (.cells #[.slice a2 b.ps.length cap2, .int .i64 b.wn] 209)) := ((Below.refl _ _).alloc (Nat.le_refl _) _).alloc (by simp) _
  have HC := hide (eqPageS_any a1 a2 cap1 cap2 b.ps _ (h1.below B0) (h2.below B0) hl)
  clear h1 h2
  go_enter Tryz.func196, Tryz.ntmps196
  go_wp2_with fail
  refine (unhide HC).mono ?_
  rintro e w1 ⟨rfl, b1⟩
  have k1 : w1.cell? ⟨w.heap.size, 1, none⟩ = some (.int .i64 b.wn) := by rw [b1.cell (p := ⟨w.heap.size, 1, none⟩) (by simp; omega), World.cell?_alloc_lt _ _ _ (by simp)]; exact cell_top _ _ _ _ _ _ rfl rfl
  have k2 : w1.cell? ⟨w.heap.size + 1, 1, none⟩ = some (.int .i64 b.wn) := by rw [b1.cell (p := ⟨w.heap.size + 1, 1, none⟩) (by simp)]; exact cell_top _ _ _ _ _ _ (by simp) rfl
  have B1 := B0.trans (b1.mono B0.size)
  clear b1 B0 HC
  go_wp2
  go_ret
  exact ⟨rfl, B1⟩

theorem blk_range {w : World} {b o : Nat} {x y : Value} (h0 : w.cell? ⟨b, o, none⟩ = some x) (h1 : w.cell? ⟨b, o + 1, none⟩ = some y) : w.rangeAt b o [x, y] := fun j v hv => by
  match j, hv with
  | 0, hv => (obtain rfl : v = x := by simpa using hv.symm); exact h0
  | 1, hv => (obtain rfl : v = y := by simpa using hv.symm); exact h1
  | n + 2, hv => simp at hv

set_option maxHeartbeats 1000000 in
theorem eqBlockS_any (a1 a2 : Option Addr) (cap1 cap2 : Nat) (bs : List Bk) (w : World) (h1 : FsAt w a1 bs) (h2 : FsAt w a2 bs) (hl : bs.length ≤ 1048576) (hp : ∀ b ∈ bs, b.ps.length ≤ 1048576) :
    Calls Tryz.prog 131 #[.slice a1 bs.length cap1, .slice a2 bs.length cap2] w fun e w' => e = .returned (.bool true) ∧ Below w.heap.size w w' := by
  have hli : (bs.length : Int) ≤ 1048576 := by omega
  have H1 := hide h1
  have H2 := hide h2
  have HP := hide hp
  clear h1 h2 hp
  go_enter Tryz.func131, Tryz.ntmps131
  go_wp2
  go_loopw [5] (fun i w' => ∃ k : Nat, k ≤ bs.length ∧ i = .int .i64 k ∧ Below w.heap.size w w') (fun i _ => bs.length - (intOf i).toNat)
  case atStart => exact ⟨0, by omega, rfl, Below.refl _ _⟩
  case round =>
    obtain ⟨k, hk, rfl, bw⟩ := hrel
    by_cases h0 : k = bs.length
    · subst h0
      go_wp2
      go_ret
      exact ⟨rfl, bw⟩
    · have hlt : (k : Int) < (bs.length : Int) := by omega
      have hkb : k < bs.length := by omega
      have hlo : (0 : Int) ≤ (k : Int) := by omega
      obtain ⟨b1, o1, rfl, g1⟩ : ∃ b o, a1 = some ⟨b, o, none⟩ ∧ ∀ i (hi : i < bs.length), BkAt wr b (o + i * 2) bs[i] := by
        rcases (unhide H1).below bw with rfl | h
        · simp at hkb
        · exact h
      obtain ⟨b2, o2, rfl, g2⟩ : ∃ b o, a2 = some ⟨b, o, none⟩ ∧ ∀ i (hi : i < bs.length), BkAt wr b (o + i * 2) bs[i] := by
        rcases (unhide H2).below bw with rfl | h
        · simp at hkb
        · exact h
      obtain ⟨p1, c1, d0, d1, q1⟩ := g1 k hkb
      obtain ⟨p2, c2, e0, e1, q2⟩ := g2 k hkb
      have l1 := cell_lt d0
      have l2 := cell_lt e0
      have x1 := blk_range d0 d1
      have x2 := blk_range e0 e1
      have HC := hide (fun (w : World) (h : PsAt w p1 bs[k].ps) (h' : PsAt w p2 bs[k].ps) => eqBlock_any p1 p2 c1 c2 bs[k] w h h' (unhide HP _ (List.getElem_mem hkb)))
      have HS1 : Hid ((Tryz.prog.info? 209).map (·.size) = some [Value.slice p1 bs[k].ps.length c1, Value.int .i64 bs[k].wn].length) := by show _ = some 2; kernel_rfl
      have HS2 : Hid ((Tryz.prog.info? 209).map (·.size) = some [Value.slice p2 bs[k].ps.length c2, Value.int .i64 bs[k].wn].length) := by show _ = some 2; kernel_rfl
      have hpc : #[Value.slice p1 bs[k].ps.length c1, Value.int .i64 bs[k].wn] = [Value.slice p1 bs[k].ps.length c1, Value.int .i64 bs[k].wn].toArray := rfl
      have hqc : #[Value.slice p2 bs[k].ps.length c2, Value.int .i64 bs[k].wn] = [Value.slice p2 bs[k].ps.length c2, Value.int .i64 bs[k].wn].toArray := rfl
      clear g1 g2 d0 d1 e0 e1 hpc hqc
      generalize [Value.slice p1 bs[k].ps.length c1, Value.int .i64 bs[k].wn] = pc at *
      generalize [Value.slice p2 bs[k].ps.length c2, Value.int .i64 bs[k].wn] = qc at *
      go_wp2_with fail
      refine wp_region_noPanic ?_
      refine wp_region_held_drew (S := fun w' => w'.rangeAt b1 (o1 + k * 2) pc ∧ w'.rangeAt b2 (o2 + k * 2) qc) (by kernel_rfl) (⟨by simpa using x1, by simpa using x2⟩) (fun hHeld => ?_)
      refine takeL 0 (.slice (some ⟨b1, o1, none⟩) bs.length cap1) rfl (by kernel_rfl) (by kernel_rfl) (by kernel_rfl) (fun _ _ _ h => h) (Or.inl ⟨rfl, fun _ _ => rfl⟩) hHeld ?_
      try simp only [Act.put, List.setIfInBounds_toArray, List.set_cons_zero, List.set_cons_succ]
      refine takeL 1 (.int .i64 k) rfl (by kernel_rfl) (by kernel_rfl) (by kernel_rfl) (fun _ _ _ h => h) (Or.inl ⟨rfl, fun _ _ => rfl⟩) hHeld ?_
      try simp only [Act.put, List.setIfInBounds_toArray, List.set_cons_zero, List.set_cons_succ]
      refine takeL 2 (.pointer (some ⟨b1, o1 + k * 2, none⟩)) rfl (by kernel_rfl) (by kernel_rfl) (by kernel_rfl) (fun _ _ _ h => h) (Or.inl ⟨rfl, fun w9 hSw => by go_simp⟩) hHeld ?_
      try simp only [Act.put, List.setIfInBounds_toArray, List.set_cons_zero, List.set_cons_succ]
      refine takeL 3 (_) rfl (by kernel_rfl) (by kernel_rfl) (by kernel_rfl) (fun _ _ _ h => h) (yieldsIf_load_mid rfl 209 _ rfl b1 (o1 + k * 2) rfl pc _ (fun _ h => h.1) Tryz.underlying209 rfl (unhide HS1)) hHeld ?_
      try simp only [Act.put, List.setIfInBounds_toArray, List.set_cons_zero, List.set_cons_succ]
      refine takeL 4 (.slice (some ⟨b2, o2, none⟩) bs.length cap2) rfl (by kernel_rfl) (by kernel_rfl) (by kernel_rfl) (fun _ _ _ h => h) (Or.inl ⟨rfl, fun _ _ => rfl⟩) hHeld ?_
      try simp only [Act.put, List.setIfInBounds_toArray, List.set_cons_zero, List.set_cons_succ]
      refine takeL 5 (.int .i64 k) rfl (by kernel_rfl) (by kernel_rfl) (by kernel_rfl) (fun _ _ _ h => h) (Or.inl ⟨rfl, fun _ _ => rfl⟩) hHeld ?_
      try simp only [Act.put, List.setIfInBounds_toArray, List.set_cons_zero, List.set_cons_succ]
      refine takeL 6 (.pointer (some ⟨b2, o2 + k * 2, none⟩)) rfl (by kernel_rfl) (by kernel_rfl) (by kernel_rfl) (fun _ _ _ h => h) (Or.inl ⟨rfl, fun w9 hSw => by go_simp⟩) hHeld ?_
      try simp only [Act.put, List.setIfInBounds_toArray, List.set_cons_zero, List.set_cons_succ]
      refine takeL 7 (_) rfl (by kernel_rfl) (by kernel_rfl) (by kernel_rfl) (fun _ _ _ h => h) (yieldsIf_load_mid rfl 209 _ rfl b2 (o2 + k * 2) rfl qc _ (fun _ h => h.2) Tryz.underlying209 rfl (unhide HS2)) hHeld ?_
      try simp only [Act.put, List.setIfInBounds_toArray, List.set_cons_zero, List.set_cons_succ]
      refine oneL 8 rfl (by kernel_rfl) rfl (fun K hK => ?_)
      go_simp
      refine (unhide HC _ (PsAt.drew q1) (PsAt.drew q2)).mono ?_
      rintro e wz ⟨rfl, bz⟩
      go_wp2_with fail
      refine hK.out _ _ ⟨rangeAt_below hHeld.1 bz (by simpa using l1), rangeAt_below hHeld.2 bz (by simpa using l2)⟩ (fun hHeld => ?_)
      clear hK K
      try simp only [Act.put, List.setIfInBounds_toArray, List.set_cons_zero, List.set_cons_succ]
      refine takeL 9 (.bool false) rfl (by kernel_rfl) (by kernel_rfl) (by kernel_rfl) (fun _ _ _ h => h) (Or.inl ⟨rfl, fun w9 hSw => by go_simp⟩) hHeld ?_
      try simp only [Act.put, List.setIfInBounds_toArray, List.set_cons_zero, List.set_cons_succ]
      refine wpAnyH_done (by kernel_rfl) ?_ _
      refine NoPanic.normal ?_
      have B2 := bw.drew.trans (bz.mono bw.size)
      clear bz bw x1 x2
      go_wp2
      go_roundw
      case rel => exact ⟨k + 1, by omega, by first | rfl | go_num, B2⟩
      case measure => simp [intOf]; omega
end Go.Proofs.YtogfelpdgeionaaGreat.LawsE

/-
  A law's argument that is a list of blocks, opened: whatever it is, blocks and pages of ints lie there.
-/
namespace Go.Proofs.YtogfelpdgeionaaGreat.OpenF
open Go.ChangeShapes Go.WideShapes Go.ChangeAt Go.RowKit Go.Joins Go.Deep OkA Big Fl ImplS LawsA
set_option linter.unusedVariables false
set_option linter.unusedSimpArgs false

theorem range_flat {α : Type} (f : α → List Value) (n : Nat) {w : World} {b : Nat} : ∀ (l : List α) (o : Nat), (∀ x ∈ l, (f x).length = n) → (∀ i (hi : i < l.length), w.rangeAt b (o + i * n) (f l[i])) → w.rangeAt b o (l.flatMap f)
  | [], o, _, _ => fun j v hv => by simp at hv
  | x :: r, o, h1, h2 => by
    rw [List.flatMap_cons, range_app, h1 x (by simp)]
    refine ⟨by have := h2 0 (by simp); rw [Nat.zero_mul, Nat.add_zero] at this; exact this, range_flat f n r (o + n) (fun y hy => h1 y (by simp [hy])) fun i hi => ?_⟩
    have := h2 (i + 1) (by simpa using hi)
    rw [show o + n + i * n = o + (i + 1) * n by rw [Nat.add_mul]; omega]
    simpa using this
theorem spot_none {w : World} {b o : Nat} {s : Option Nat} {v : Value} (h : w.cell? ⟨b, o, s⟩ = some v) : s = none := by simpa using World.cell?_spot h

theorem list2 {cs : List Value} (h : cs.length = 2) : ∃ a b, cs = [a, b] := by
  match cs, h with
  | [a, b], _ => exact ⟨a, b, rfl⟩
theorem list4 {cs : List Value} (h : cs.length = 4) : ∃ a b c d, cs = [a, b, c, d] := by
  match cs, h with
  | [a, b, c, d], _ => exact ⟨a, b, c, d, rfl⟩
theorem list5 {cs : List Value} (h : cs.length = 5) : ∃ a b c d e, cs = [a, b, c, d, e] := by
  match cs, h with
  | [a, b, c, d, e], _ => exact ⟨a, b, c, d, e, rfl⟩
variable {H : Type} {enc : TypeId × Value → H} {w : World}

theorem open_rec {fuel : Nat} {cs : List Value} {x : DataW H × List MemPlace} (h : DataW.trod enc Tryz.prog w 0 (fun _ => true) true fuel 305 cs = some x) :
    ∃ k s a v : Int, cs = [.int .i64 k, .int .i64 s, .int .i64 a, .int .i64 v] := by
  obtain ⟨y0, y1, y2, y3, n, _, hl, h0, h1, h2, h3⟩ := trod_struct4 Tryz.underlying305 h
  rw [show Tryz.prog.cellsOf 305 = 4 by kernel_rfl] at hl
  obtain ⟨c0, c1, c2, c3, rfl⟩ := list4 hl
  rw [show Tryz.prog.cellsOf 3 = 1 by kernel_rfl] at h0 h1 h2 h3
  obtain ⟨x0, e0, _, _⟩ := DataW.trod_int Tryz.underlying3 h0
  obtain ⟨x1, e1, _, _⟩ := DataW.trod_int Tryz.underlying3 h1
  obtain ⟨x2, e2, _, _⟩ := DataW.trod_int Tryz.underlying3 h2
  obtain ⟨x3, e3, _, _⟩ := DataW.trod_int Tryz.underlying3 h3
  simp at e0 e1 e2 e3
  subst e0 e1 e2 e3
  exact ⟨_, _, _, _, rfl⟩
theorem open_page {fuel : Nat} {cs : List Value} {x : DataW H × List MemPlace} (h : DataW.trod enc Tryz.prog w 0 (fun _ => true) true fuel 307 cs = some x) : ∃ p : Pg, cs = pgC p := by
  obtain ⟨y0, y1, n, _, hl, h0, h1⟩ := trod_struct2 Tryz.underlying307 h
  rw [show Tryz.prog.cellsOf 307 = 5 by kernel_rfl] at hl
  obtain ⟨c0, c1, c2, c3, c4, rfl⟩ := list5 hl
  rw [show Tryz.prog.cellsOf 3 = 1 by kernel_rfl] at h0
  rw [show Tryz.prog.cellsOf 305 = 4 by kernel_rfl] at h1
  obtain ⟨x0, e0, _, _⟩ := DataW.trod_int Tryz.underlying3 h0
  obtain ⟨k, s, a, v, e1⟩ := open_rec h1
  simp at e0 e1
  obtain ⟨rfl, rfl, rfl, rfl⟩ := e1
  subst e0
  exact ⟨⟨x0, k, s, a, v⟩, rfl⟩
theorem open_pages {fuel : Nat} {V : Value} {x : DataW H × List MemPlace} (h : DataW.trod enc Tryz.prog w 0 (fun _ => true) true fuel 224 [V] = some x) :
    ∃ a ps cap, V = .slice a (ps : List Pg).length cap ∧ PsAt w a ps ∧ ps.length ≤ 9223372036854775807 := by
  rcases open_slice Tryz.underlying224 h with ⟨h0, _⟩ | ⟨a, len, cap, m, n, D, Pl, hc, _, hl, hm, hmm, _, hx⟩
  · simp at h0; subst h0; exact ⟨none, [], 0, rfl, .inl rfl, by simp⟩
  · simp at hc
    subst hc
    have hlm : len ≤ m := by rw [hmm]; simp; exact hl
    rw [show Tryz.prog.cellsOf 307 = 5 by kernel_rfl] at hx
    have hp : ∀ i, i < len → ∃ p : Pg, ∀ j, j < 5 → w.cell? ((a.add (i * 5)).add j) = (pgC p)[j]? := fun i hi => by
      obtain ⟨cs', h1, h2⟩ := hx i (by omega)
      obtain ⟨p, rfl⟩ := open_page h2
      obtain ⟨_, _, h3⟩ := World.cells?_some h1
      exact ⟨p, h3⟩
    have : Inhabited Pg := ⟨⟨0, 0, 0, 0, 0⟩⟩
    obtain ⟨P, hP⟩ := choose_lt hp
    refine ⟨some a, (List.range len).map P, cap, by simp, ?_, ?_⟩
    · by_cases h0 : len = 0
      · subst h0; exact .inl rfl
      · obtain ⟨b, o, s⟩ := a
        have c0 := hP 0 (by omega) 0 (by omega)
        rw [Nat.zero_mul] at c0
        have hs : s = none := by
          have : w.cell? ⟨b, o, s⟩ = some (.int .i64 (P 0).st) := by simpa [Addr.add, pgC] using c0
          exact spot_none this
        subst hs
        refine .inr ⟨b, o, rfl, range_flat pgC 5 _ o (fun _ _ => rfl) fun i hi j v hv => ?_⟩
        simp only [List.length_map, List.length_range] at hi
        simp only [List.getElem_map, List.getElem_range] at hv
        have hj : j < 5 := by have := (List.getElem?_eq_some_iff.1 hv).1; simpa [len_pgC] using this
        have := hP i hi j hj
        rw [Addr.add_mid, Addr.add_mid] at this
        rw [this]; exact hv
    · simp
      have h1 := hm
      unfold maxLen at h1
      omega
theorem open_block {fuel : Nat} {cs : List Value} {x : DataW H × List MemPlace} (h : DataW.trod enc Tryz.prog w 0 (fun _ => true) true fuel 226 cs = some x) :
    ∃ (b : Bk) (a : Option Addr) (cap : Nat), cs = [.slice a b.ps.length cap, .int .i64 b.wn] ∧ PsAt w a b.ps ∧ b.ps.length ≤ 9223372036854775807 := by
  obtain ⟨y0, y1, n, _, hl, h0, h1⟩ := trod_struct2 Tryz.underlying226 h
  rw [show Tryz.prog.cellsOf 226 = 2 by kernel_rfl] at hl
  obtain ⟨c0, c1, rfl⟩ := list2 hl
  rw [show Tryz.prog.cellsOf 3 = 1 by kernel_rfl] at h1
  rw [show Tryz.prog.cellsOf 224 = 1 by kernel_rfl] at h0
  obtain ⟨x0, e0, _, _⟩ := DataW.trod_int Tryz.underlying3 h1
  obtain ⟨a, ps, cap, e1, hps, hle⟩ := open_pages h0
  simp at e0
  subst e0 e1
  exact ⟨⟨ps, x0⟩, a, cap, rfl, hps, hle⟩
theorem open_flash {fuel : Nat} {V : Value} {x : DataW H × List MemPlace} (h : DataW.trod enc Tryz.prog w 0 (fun _ => true) true fuel 54 [V] = some x) :
    ∃ a bs cap, V = .slice a (bs : List Bk).length cap ∧ FsAt w a bs ∧ Fit bs := by
  rcases open_slice Tryz.underlying54 h with ⟨h0, _⟩ | ⟨a, len, cap, m, n, D, Pl, hc, _, hl, hm, hmm, _, hx⟩
  · simp at h0; subst h0; exact ⟨none, [], 0, rfl, .inl rfl, by simp, fun b hb => by simp at hb⟩
  · simp at hc
    subst hc
    have hlm : len ≤ m := by rw [hmm]; simp; exact hl
    rw [show Tryz.prog.cellsOf 226 = 2 by kernel_rfl] at hx
    have hp : ∀ i, i < len → ∃ b : Bk, b.ps.length ≤ 9223372036854775807 ∧ ∃ pa pc, w.cell? ((a.add (i * 2)).add 0) = some (.slice pa b.ps.length pc) ∧ w.cell? ((a.add (i * 2)).add 1) = some (.int .i64 b.wn) ∧ PsAt w pa b.ps := fun i hi => by
      obtain ⟨cs', h1, h2⟩ := hx i (by omega)
      obtain ⟨b, pa, pc, rfl, hps, hle⟩ := open_block h2
      obtain ⟨_, _, h3⟩ := World.cells?_some h1
      exact ⟨b, hle, pa, pc, h3 0 (by omega), h3 1 (by omega), hps⟩
    have : Inhabited Bk := ⟨⟨[], 0⟩⟩
    obtain ⟨B, hB⟩ := choose_lt hp
    refine ⟨some a, (List.range len).map B, cap, by simp, ?_, ?_, ?_⟩
    · by_cases h0 : len = 0
      · subst h0; exact .inl rfl
      · obtain ⟨b, o, s⟩ := a
        obtain ⟨_, pa, pc, c0, _⟩ := hB 0 (by omega)
        rw [Nat.zero_mul] at c0
        have hs : s = none := by
          have : w.cell? ⟨b, o, s⟩ = some (.slice pa (B 0).ps.length pc) := by simpa [Addr.add] using c0
          exact spot_none this
        subst hs
        refine .inr ⟨b, o, rfl, fun i hi => ?_⟩
        simp only [List.length_map, List.length_range] at hi
        obtain ⟨_, pa, pc, d0, d1, d2⟩ := hB i hi
        simp only [List.getElem_map, List.getElem_range]
        rw [Addr.add_mid, Addr.add_mid] at d0 d1
        exact ⟨pa, pc, d0, d1, d2⟩
    · simp
      have h1 := hm
      unfold maxLen at h1
      omega
    · intro b hb
      simp at hb
      obtain ⟨i, hi, rfl⟩ := hb
      have := (hB i hi).1
      omega
end Go.Proofs.YtogfelpdgeionaaGreat.OpenF

/-
  Plain lists: blocks that are ok stay ok when a record is written, or a block is wiped. Nothing here walks the program.
-/
namespace Go.Proofs.YtogfelpdgeionaaGreat.Ok2
open Go.ChangeShapes Go.WideShapes Go.ChangeAt Go.RowKit OkA Big Fl ImplB ImplF ImplS _root_.Go.Proofs.YtogfelpdgeionaaGreat.Own ImplT ImplU SpecA SpecB SpecC SpecD SpecW
set_option linter.unusedVariables false
set_option linter.unusedSimpArgs false

theorem okB_iff (bs : List Bk) : okB bs = true ↔ bs.length = 4 ∧ (∀ b ∈ bs, bkB b = true) ∧ (seqs bs).Nodup := by
  simp [okB, nodB_iff, and_assoc]
theorem bkB_iff (b : Bk) : bkB b = true ↔ b.ps.length = 4 ∧ (0 ≤ b.wn ∧ b.wn ≤ 200) ∧ (∀ p ∈ b.ps, pgB p = true) ∧ tailB b.ps = true := by
  simp [bkB, inB, and_assoc]
theorem mem_set {α : Type} {l : List α} {k : Nat} {y x : α} (h : x ∈ l.set k y) : x ∈ l ∨ x = y := List.mem_or_eq_of_mem_set h
theorem seqsP_set (ps : List Pg) (u : Nat) (p : Pg) (hu : u < ps.length) (h : seqP ps[u] = none) : (seqsP (ps.set u p)).Perm ((seqP p).toList ++ seqsP ps) := by
  induction ps generalizing u with
  | nil => simp at hu
  | cons q r ih =>
    cases u with
    | zero =>
      simp only [List.getElem_cons_zero] at h
      simp only [List.set_cons_zero, seqsP, List.filterMap_cons, h]
      cases seqP p <;> simp
    | succ u =>
      simp only [List.getElem_cons_succ] at h
      have := ih u (by simpa using hu) h
      simp only [List.set_cons_succ]
      unfold seqsP at this ⊢
      simp only [List.filterMap_cons]
      cases seqP q with
      | none => exact this
      | some x => exact (List.Perm.cons x this).trans List.perm_middle.symm
theorem seqs_set (bs : List Bk) (k : Nat) (b : Bk) (l : List Int) (hk : k < bs.length) (h : (seqsP b.ps).Perm (l ++ seqsP bs[k].ps)) : (seqs (bs.set k b)).Perm (l ++ seqs bs) := by
  induction bs generalizing k with
  | nil => simp at hk
  | cons q r ih =>
    cases k with
    | zero =>
      simp only [List.getElem_cons_zero] at h
      simp only [List.set_cons_zero, seqs, List.flatMap_cons]
      rw [← List.append_assoc]
      exact h.append_right _
    | succ k =>
      simp only [List.getElem_cons_succ] at h
      have := ih k (by simpa using hk) h
      simp only [List.set_cons_succ]
      unfold seqs at this ⊢
      simp only [List.flatMap_cons]
      refine (this.append_left _).trans ?_
      rw [← List.append_assoc, ← List.append_assoc]
      exact List.perm_append_comm.append_right _
theorem seqs_drop (bs : List Bk) (k : Nat) (b : Bk) (hk : k < bs.length) (h : seqsP b.ps = []) : (seqs (bs.set k b)).Sublist (seqs bs) := by
  induction bs generalizing k with
  | nil => simp at hk
  | cons q r ih =>
    cases k with
    | zero => simp only [List.set_cons_zero, seqs, List.flatMap_cons, h, List.nil_append]; exact List.sublist_append_right _ _
    | succ k =>
      have := ih k (by simpa using hk)
      simp only [List.set_cons_succ]
      unfold seqs at this ⊢
      simp only [List.flatMap_cons]
      exact this.append_left _
theorem getD_in (bs : List Bk) (k : Nat) (hk : k < bs.length) : bs.getD k zBk = bs[k] := by rw [List.getD_eq_getElem?_getD, List.getElem?_eq_getElem hk]; rfl
theorem list_four {α : Type} {l : List α} (h : l.length = 4) : ∃ a b c d, l = [a, b, c, d] := by
  match l, h with
  | [a, b, c, d], _ => exact ⟨a, b, c, d, rfl⟩
/-- The first clean page is clean. -/
theorem used_clean (ps : List Pg) (h : usedN ps < ps.length) : clB ps[usedN ps] = true := by
  induction ps with
  | nil => simp at h
  | cons p r ih =>
    by_cases h0 : usedN r = 0
    · cases hc : clB p
      · have e : usedN (p :: r) = 1 := by simp [usedN, h0, hc]
        simp only [e] at h ⊢
        have hr := (usedN_zero r).1 h0
        rw [List.all_eq_true] at hr
        simp only [List.getElem_cons_succ]
        exact hr _ (List.getElem_mem _)
      · have e : usedN (p :: r) = 0 := by simp [usedN, h0, hc]
        simp only [e, List.getElem_cons_zero, hc]
    · have e : usedN (p :: r) = usedN r + 1 := by simp [usedN, h0]
      simp only [e] at h ⊢
      simp only [List.getElem_cons_succ]
      exact ih (by simpa using h)
theorem used_set (ps : List Pg) (h4 : ps.length = 4) (p : Pg) (hp : clB p = false) (h : usedN ps < 4) (ht : tailB ps = true) : tailB (ps.set (usedN ps) p) = true ∧ usedN (ps.set (usedN ps) p) = usedN ps + 1 := by
  obtain ⟨a, b, c, d, rfl⟩ := list_four h4
  revert h ht
  cases ha : clB a <;> cases hb : clB b <;> cases hc : clB c <;> cases hd : clB d <;> simp [usedN, tailB, ha, hb, hc, hd, hp]
theorem pgW_st (torn : Bool) (rk rs ra rv : Int) : clB (pgW torn rk rs ra rv) = false := by cases torn <;> rfl
theorem pgW_ok (torn : Bool) (rk rs ra rv : Int) (h : recB rk rs ra rv = true) : pgB (pgW torn rk rs ra rv) = true := by
  cases torn
  · simpa [pgW, pgB] using h
  · rfl
theorem wrL_len (bs : List Bk) (k : Nat) (p : Pg) : (wrL bs k p).length = bs.length := by simp [wrL]
theorem wrN_no {bs : List Bk} {k : Nat} {rs : Int} (h : wrN bs k rs = false) : usedN (bs.getD k zBk).ps ≠ 4 ∧ hasB bs rs = false := by
  simpa [wrN] using h
theorem okB_wr (bs : List Bk) (k : Nat) (hk : k < 4) (hok : okB bs = true) (torn : Bool) (rk rs ra rv : Int) (hr : recB rk rs ra rv = true) (hn : wrN bs k rs = false) : okB (wrL bs k (pgW torn rk rs ra rv)) = true := by
  obtain ⟨h4, hb, hd⟩ := (okB_iff bs).1 hok
  have hkb : k < bs.length := by omega
  obtain ⟨hu, hh⟩ := wrN_no hn
  have hg := getD_in bs k hkb
  rw [hg] at hu
  obtain ⟨g4, gw, gp, gt⟩ := (bkB_iff _).1 (hb bs[k] (List.getElem_mem hkb))
  have hul : usedN bs[k].ps < bs[k].ps.length := by have := usedN_le bs[k].ps; omega
  have hcl := used_clean _ hul
  obtain ⟨t1, t2⟩ := used_set bs[k].ps g4 (pgW torn rk rs ra rv) (pgW_st _ _ _ _ _) (by omega) gt
  refine (okB_iff _).2 ⟨by rw [wrL_len]; exact h4, fun b hm => ?_, ?_⟩
  · unfold wrL at hm
    rcases mem_set hm with hm | rfl
    · exact hb b hm
    · rw [hg]
      refine (bkB_iff _).2 ⟨by simpa using g4, gw, fun p hp => ?_, t1⟩
      rcases mem_set hp with hp | rfl
      · exact gp p hp
      · exact pgW_ok _ _ _ _ _ hr
  · have hs : seqP bs[k].ps[usedN bs[k].ps] = none := by
      unfold seqP; rw [if_neg]
      simp [clB] at hcl; omega
    have p1 := seqsP_set bs[k].ps (usedN bs[k].ps) (pgW torn rk rs ra rv) hul hs
    have p2 := seqs_set bs k ⟨bs[k].ps.set (usedN bs[k].ps) (pgW torn rk rs ra rv), bs[k].wn⟩ _ hkb p1
    unfold wrL; rw [hg]
    rw [p2.nodup_iff]
    cases torn
    · have : (seqP (pgW false rk rs ra rv)).toList = [rs] := rfl
      rw [this]
      simp only [List.singleton_append, List.nodup_cons]
      exact ⟨by simpa [hasB] using hh, hd⟩
    · exact hd
theorem wiL_len (bs : List Bk) (k : Nat) (torn : Bool) : (wiL bs k torn).length = bs.length := by simp [wiL]
theorem pgS_ok (torn : Bool) : pgB (pgS torn) = true := by cases torn <;> rfl
theorem seqs_wi (torn : Bool) : seqsP (List.replicate 4 (pgS torn)) = [] := by cases torn <;> rfl
theorem tail_wi (torn : Bool) : tailB (List.replicate 4 (pgS torn)) = true := by cases torn <;> rfl
theorem okB_wi (bs : List Bk) (k : Nat) (hk : k < 4) (hok : okB bs = true) (torn : Bool) (hn : wiN bs k = false) : okB (wiL bs k torn) = true := by
  obtain ⟨h4, hb, hd⟩ := (okB_iff bs).1 hok
  have hkb : k < bs.length := by omega
  have hg := getD_in bs k hkb
  obtain ⟨g4, gw, gp, gt⟩ := (bkB_iff _).1 (hb bs[k] (List.getElem_mem hkb))
  unfold wiN at hn; rw [hg] at hn
  simp at hn
  refine (okB_iff _).2 ⟨by rw [wiL_len]; exact h4, fun b hm => ?_, ?_⟩
  · unfold wiL wiB at hm
    rcases mem_set hm with hm | rfl
    · exact hb b hm
    · rw [hg]
      exact (bkB_iff _).2 ⟨by simp, by simp only; omega, fun p hp => by rw [List.eq_of_mem_replicate hp]; exact pgS_ok _, tail_wi _⟩
  · unfold wiL wiB; rw [hg]
    exact hd.sublist (seqs_drop bs k _ hkb (seqs_wi torn))
end Go.Proofs.YtogfelpdgeionaaGreat.Ok2

/-
  The specification's finding: the greatest number of a block's records.
-/
namespace Go.Proofs.YtogfelpdgeionaaGreat.SpecF
open Go.ChangeShapes Go.WideShapes Go.ChangeAt Go.RowKit OkA Big Fl ImplB ImplF ImplS _root_.Go.Proofs.YtogfelpdgeionaaGreat.Own ImplT ImplU SpecA SpecB
set_option linter.unusedVariables false
set_option linter.unusedSimpArgs false

def mx (m s : Int) : Int := if m < s then s else m
def mostN (ps : List Pg) : Int := ps.foldl (fun m p => mx m p.s) 0
theorem mostN_take (ps : List Pg) (j : Nat) (hj : j < ps.length) : mostN (ps.take (j + 1)) = mx (mostN (ps.take j)) ps[j].s := by
  unfold mostN
  rw [List.take_succ_eq_append_getElem hj, List.foldl_append]
  rfl

set_option maxHeartbeats 1000000 in
theorem most_any (a : Option Addr) (cap : Nat) (ps : List Pg) (wn : Int) (w : World) (h : PsAt w a ps) (hl : ps.length ≤ 1048576) :
    Calls Tryz.prog 179 #[.agg #[.slice a ps.length cap, .int .i64 wn]] w fun e w' => e = .returned (.int .i64 (mostN ps)) ∧ Below w.heap.size w w' := by
  have B0 : Below w.heap.size w (w.alloc (.cells #[.slice a ps.length cap, .int .i64 wn] 209)) := (Below.refl _ _).alloc (Nat.le_refl _) _
  have H := hide (h.below B0)
  have c0 : (w.alloc (.cells #[.slice a ps.length cap, .int .i64 wn] 209)).cell? ⟨w.heap.size, 0, none⟩ = some (.slice a ps.length cap) := by
    rw [World.cell?_alloc_at _ _ _ _ rfl]; rfl
  have HN : Hid (mostN (ps.take ps.length) = mostN ps) := by show _ = _; rw [List.take_of_length_le (Nat.le_refl _)]
  clear h
  generalize hn : ps.length = n at *
  have HL := hide hn
  clear hn
  have hli : (n : Int) ≤ 1048576 := by omega
  go_enter Tryz.func179, Tryz.ntmps179
  go_wp2
  generalize w.alloc (.cells #[.slice a n cap, .int .i64 wn] 209) = w1 at *
  go_loop [3, 4] (fun m i => ∃ k : Nat, k ≤ n ∧ i = .int .i64 k ∧ m = .int .i64 (mostN (ps.take k))) (fun _ i => n - (intOf i).toNat)
  case atStart => exact ⟨0, by omega, rfl, rfl⟩
  case round =>
    obtain ⟨k, hk, rfl, rfl⟩ := hrel
    by_cases h0 : k = n
    · subst h0
      go_wp2
      go_ret
      exact ⟨by rw [← unhide HN]; rfl, B0⟩
    · have hlt : (k : Int) < (n : Int) := by omega
      have hkb : k < ps.length := by have := unhide HL; omega
      have hlo : (0 : Int) ≤ (k : Int) := by omega
      obtain ⟨b1, o1, rfl, g1⟩ : ∃ b o, a = some ⟨b, o, none⟩ ∧ w1.rangeAt b o (psC ps) := by
        rcases unhide H with rfl | h
        · simp at hkb
        · exact h
      have d2 := (PsAt.cells g1 k hkb).2.2.1
      have HT := hide (mostN_take ps k hkb)
      clear g1
      generalize ps[k].s = s at *
      generalize hm : mostN (ps.take k) = m at *
      go_wp2
      go_round
      case rel => exact ⟨k + 1, by omega, by first | rfl | go_num, by rw [unhide HT]; rfl⟩
      case measure => simp [intOf]; omega

def mostB (bs : List Bk) : Int := bs.foldl (fun m b => mx m (mostN b.ps)) 0
theorem mostB_take (bs : List Bk) (j : Nat) (hj : j < bs.length) : mostB (bs.take (j + 1)) = mx (mostB (bs.take j)) (mostN bs[j].ps) := by
  unfold mostB
  rw [List.take_succ_eq_append_getElem hj, List.foldl_append]
  rfl
set_option maxHeartbeats 1000000 in
theorem next_any (a : Option Addr) (cap : Nat) (bs : List Bk) (w : World) (hf : FsAt w a bs) (hl : bs.length ≤ 1048576) (hp : ∀ b ∈ bs, b.ps.length ≤ 1048576) :
    Calls Tryz.prog 167 #[.slice a bs.length cap] w fun e w' => e = .returned (.int .i64 (wrap64 (mostB bs + 1))) ∧ Below w.heap.size w w' := by
  have H := hide hf
  have HP := hide hp
  have HN : Hid (mostB (bs.take bs.length) = mostB bs) := by show _ = _; rw [List.take_of_length_le (Nat.le_refl _)]
  clear hf hp
  generalize hn : bs.length = n at *
  have HL := hide hn
  clear hn
  have hli : (n : Int) ≤ 1048576 := by omega
  go_enter Tryz.func167, Tryz.ntmps167
  go_wp2
  go_loopw [3, 4] (fun m i w' => ∃ k : Nat, k ≤ n ∧ i = .int .i64 k ∧ m = .int .i64 (mostB (bs.take k)) ∧ Below w.heap.size w w') (fun _ i _ => n - (intOf i).toNat)
  case atStart => exact ⟨0, by omega, rfl, rfl, Below.refl _ _⟩
  case round =>
    obtain ⟨k, hk, rfl, rfl, bw⟩ := hrel
    by_cases h0 : k = n
    · subst h0
      rw [unhide HN]
      go_wp2
      go_ret
      exact ⟨rfl, bw⟩
    · have hlt : (k : Int) < (n : Int) := by omega
      have hkb : k < bs.length := by have := unhide HL; omega
      have hlo : (0 : Int) ≤ (k : Int) := by omega
      obtain ⟨b1, o1, rfl, g1⟩ : ∃ b o, a = some ⟨b, o, none⟩ ∧ ∀ i (hi : i < bs.length), BkAt wr b (o + i * 2) bs[i] := by
        rcases (unhide H).below bw with rfl | h
        · simp at hkb
        · exact h
      obtain ⟨p1, c1, d0, d1, q1⟩ := g1 k hkb
      have HC := hide (most_any p1 c1 bs[k].ps bs[k].wn wr q1 (unhide HP _ (List.getElem_mem hkb)))
      have HT := hide (mostB_take bs k hkb)
      clear g1 q1
      generalize bs[k].ps.length = q at *
      generalize mostN bs[k].ps = s at *
      generalize bs[k].wn = wn at *
      generalize hm : mostB (bs.take k) = m at *
      go_wp2_with fail
      refine (unhide HC).mono ?_
      rintro e w2 ⟨rfl, b2⟩
      have B2 := bw.trans (b2.mono bw.size)
      clear b2 bw d0 d1 HC
      go_wp2
      go_roundw
      case rel => exact ⟨k + 1, by omega, by first | rfl | go_num, by rw [unhide HT]; rfl, B2⟩
      case measure => simp [intOf]; omega
end Go.Proofs.YtogfelpdgeionaaGreat.SpecF
