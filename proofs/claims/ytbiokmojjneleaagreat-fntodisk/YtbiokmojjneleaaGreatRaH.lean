/-
  Texts that belong together, one behind the other: LawsA, LawsB, LawsE, OpenF, Ok2, SpecF, SpecG, SpecH, Pl.
-/
import Derived.Test.YtbiokmojjneleaaGreatHaE
import Derived.Deep.RegionHeld3
import Derived.Deep.DrawnRows
import Derived.ShutString
import Derived.ChangeOld
import Derived.Deep.Slices
import Derived.ChangeSame
import Derived.Lib.SmallJoins
import Derived.Test.YtbiokmojjneleaaGreatHaF

/-
  The laws' helpers, for every list of blocks: how much there is of it; the same as the program's own blocks, in memory of its own.
-/
namespace Go.Proofs.YtbiokmojjneleaaGreat.LawsA
open Go.ChangeShapes Go.WideShapes Go.ChangeAt Go.RowKit OkA Big Fl ImplB ImplF ImplS _root_.Go.Proofs.YtbiokmojjneleaaGreat.Own ImplT ImplU SpecA SpecB
set_option linter.unusedVariables false
set_option linter.unusedSimpArgs false

/-! How much. -/
def szR (l : Int) (n : Nat) : Int := if l - n < 0 then -1 else l - n
/-- Where it is not below 0 there is not much. -/
def SzPost (w : World) (bs : List Bk) (e : Ending) (w' : World) : Prop := ∃ r : Int, e = .returned (.int .i64 r) ∧ -1 ≤ r ∧ r ≤ 1048576 ∧ (0 ≤ r → bs.length ≤ 1048576 ∧ ∀ b ∈ bs, b.ps.length ≤ 1048576) ∧ Below w.heap.size w w'
/-- No list is longer than memory. -/
def Fit (bs : List Bk) : Prop := (bs.length : Int) ≤ 9223372036854775807 ∧ ∀ b ∈ bs, (b.ps.length : Int) ≤ 9223372036854775807

theorem cell_top (w : World) (cs : Array Value) (T : TypeId) (n j : Nat) (v : Value) (h : n = w.heap.size) (hv : cs[j]? = some v) : (w.alloc (.cells cs T)).cell? ⟨n, j, none⟩ = some v := by
  rw [World.cell?_alloc_at cs T n j h, hv]
/-! The same as the program's blocks. -/
theorem zpg : (Tryz.prog.info? 66).bind (·.zero) = some (.agg (pgC zPg).toArray) := by kernel_rfl
theorem size_pg (p : Pg) : (Tryz.prog.info? 66).map (·.size) = some (pgC p).length := by rw [len_pgC]; kernel_rfl
theorem size_pga (p : Pg) : (Tryz.prog.info? 66).map (·.size) = some (pgC p).toArray.size := by rw [List.size_toArray, len_pgC]; kernel_rfl
theorem one_pg (p : Pg) : (pgC p).toArray.all (·.oneCell') = true := all_oneCell_toArray (one_pgC p)
theorem one_rec (k s a v : Int) : #[Value.int .i64 k, .int .i64 s, .int .i64 a, .int .i64 v].all (·.oneCell') = true := all_oneCell_toArray (cs := [.int .i64 k, .int .i64 s, .int .i64 a, .int .i64 v]) (by intro x hx; simp at hx; rcases hx with rfl | rfl | rfl | rfl <;> rfl)

def recC (p : Pg) : Array Value := #[.int .i64 p.k, .int .i64 p.s, .int .i64 p.a, .int .i64 p.v]
theorem one_recC (p : Pg) : (recC p).all (·.oneCell') = true := one_rec _ _ _ _
theorem size_recC (p : Pg) : (Tryz.prog.info? 36).map (·.size) = some (recC p).size := by show _ = some 4; kernel_rfl
theorem psC_take (ps : List Pg) (k : Nat) (hk : k < ps.length) : psC (ps.take (k + 1)) = psC (ps.take k) ++ pgC ps[k] := by
  rw [List.take_succ_eq_append_getElem hk]; simp only [psC, List.flatMap_append, List.flatMap_cons, List.flatMap_nil, List.append_nil]
theorem there_made (w : World) (z : Array Value) (n : Nat) (T : TypeId) : (w.alloc (.cells (madeCells z n) T)).there w.heap.size 0 n := by
  have := there_new w (madeCells z n).toList T
  rw [Array.length_toList, size_madeCells] at this
  exact this

/-- A row of pages in new memory. -/
def RowPost (w : World) (ps : List Pg) (e : Ending) (w' : World) : Prop := e = .returned (.slice (some ⟨w.heap.size, 0, none⟩) ps.length ps.length) ∧ w'.rangeAt w.heap.size 0 (psC ps) ∧ w'.there w.heap.size 0 (ps.length * 5) ∧ w.heap.size < w'.heap.size ∧ Below w.heap.size w w'

theorem here : True := trivial
end Go.Proofs.YtbiokmojjneleaaGreat.LawsA

/-
  The laws' helpers, for every list of blocks: a list of the program's own blocks out of the law's argument, in rows of its own; whether two lists of blocks are the same.
-/
namespace Go.Proofs.YtbiokmojjneleaaGreat.LawsB
open Go.ChangeShapes Go.WideShapes Go.ChangeAt Go.RowKit OkA Big Fl ImplB ImplF ImplS _root_.Go.Proofs.YtbiokmojjneleaaGreat.Own ImplT ImplU SpecA SpecB LawsA
set_option linter.unusedVariables false
set_option linter.unusedSimpArgs false
attribute [local go_sem ↓] Go.wp_at_zero Go.wp_at_succ

theorem three_new (w : World) (A B C : Array Value) (T1 T2 T3 : TypeId) : (∀ j v, A[j]? = some v → (((w.alloc (.cells A T1)).alloc (.cells B T2)).alloc (.cells C T3)).cell? ⟨w.heap.size, j, none⟩ = some v) ∧ (∀ j v, B[j]? = some v → (((w.alloc (.cells A T1)).alloc (.cells B T2)).alloc (.cells C T3)).cell? ⟨w.heap.size + 1, j, none⟩ = some v) ∧ (∀ j v, C[j]? = some v → (((w.alloc (.cells A T1)).alloc (.cells B T2)).alloc (.cells C T3)).cell? ⟨w.heap.size + 1 + 1, j, none⟩ = some v) ∧
    (∀ j, (((w.alloc (.cells A T1)).alloc (.cells B T2)).alloc (.cells C T3)).frozen? ⟨w.heap.size + 1, j, none⟩ = false) ∧ (∀ j, (((w.alloc (.cells A T1)).alloc (.cells B T2)).alloc (.cells C T3)).frozen? ⟨w.heap.size + 1 + 1, j, none⟩ = false) := by
  refine ⟨fun j v h => ?_, fun j v h => ?_, fun j v h => cell_top _ _ _ _ _ _ (by simp) h, fun j => ?_, fun j => ?_⟩
  · rw [World.cell?_alloc_lt _ _ _ (by simp; omega), World.cell?_alloc_lt _ _ _ (by simp)]; exact cell_top _ _ _ _ _ _ rfl h
  · rw [World.cell?_alloc_lt _ _ _ (by simp)]; exact cell_top _ _ _ _ _ _ (by simp) h
  · rw [World.frozen?_alloc_past _ _ _ (by simp)]; exact frozen_of_row _ _ _ B T2 (by have := heap_alloc_new (w.alloc (.cells A T1)) (.cells B T2); rwa [World.size_alloc] at this)
  · exact frozen_of_row _ _ _ C T3 (by have := heap_alloc_new ((w.alloc (.cells A T1)).alloc (.cells B T2)) (.cells C T3); rwa [World.size_alloc, World.size_alloc] at this)
def blkL (p n : Nat) (wn : Int) : List Value := [.slice (some ⟨p, 0, none⟩) n n, .int .i64 wn]
def BlkPost (w : World) (b : Bk) (e : Ending) (w' : World) : Prop := ∃ p, e = .returned (.agg (blkL p b.ps.length b.wn).toArray) ∧ w.heap.size ≤ p ∧ p < w'.heap.size ∧ w'.rangeAt p 0 (psC b.ps) ∧ w'.there p 0 (b.ps.length * 5) ∧ Below w.heap.size w w'
theorem size_blk (p n : Nat) (wn : Int) : (Tryz.prog.info? 125).map (·.size) = some (blkL p n wn).length := by show _ = some 2; kernel_rfl
theorem size_blka (p n : Nat) (wn : Int) : (Tryz.prog.info? 125).map (·.size) = some (blkL p n wn).toArray.size := by show _ = some 2; kernel_rfl
theorem one_blk (p n : Nat) (wn : Int) : (blkL p n wn).toArray.all (·.oneCell') = true := one_two rfl rfl

theorem here : True := trivial
end Go.Proofs.YtbiokmojjneleaaGreat.LawsB

/-
  The laws' helpers: whether two lists of blocks are the same: true of two that hold the same, wherever they lie.
-/
namespace Go.Proofs.YtbiokmojjneleaaGreat.LawsE
open Go.ChangeShapes Go.WideShapes Go.ChangeAt Go.RowKit OkA Big Fl ImplB ImplF ImplS _root_.Go.Proofs.YtbiokmojjneleaaGreat.Own ImplT ImplU SpecA SpecB LawsA LawsB
set_option linter.unusedVariables false
set_option linter.unusedSimpArgs false
attribute [local go_sem ↓] Go.wp_at_zero Go.wp_at_succ

theorem PsAt.drew {w : World} {a : Option Addr} {ps : List Pg} (h : PsAt w a ps) : PsAt w.drew a ps := h.below ((Below.refl _ _).drew)
theorem range_pg {w : World} {b o : Nat} {ps : List Pg} (h : w.rangeAt b o (psC ps)) (k : Nat) (hk : k < ps.length) : w.rangeAt b (o + k * 5) (pgC ps[k]) := by
  have := rangeAt_sub h (k * 5) 5
  rwa [part_ps ps k hk] at this

theorem blk_range {w : World} {b o : Nat} {x y : Value} (h0 : w.cell? ⟨b, o, none⟩ = some x) (h1 : w.cell? ⟨b, o + 1, none⟩ = some y) : w.rangeAt b o [x, y] := fun j v hv => by
  match j, hv with
  | 0, hv => (obtain rfl : v = x := by simpa using hv.symm); exact h0
  | 1, hv => (obtain rfl : v = y := by simpa using hv.symm); exact h1
  | n + 2, hv => simp at hv

theorem here : True := trivial
end Go.Proofs.YtbiokmojjneleaaGreat.LawsE

/-
  A law's argument that is a list of blocks, opened: whatever it is, blocks and pages of ints lie there.
-/
namespace Go.Proofs.YtbiokmojjneleaaGreat.OpenF
open Go.ChangeShapes Go.WideShapes Go.ChangeAt Go.RowKit Go.Joins Go.Deep OkA Big Fl ImplS LawsA
set_option linter.unusedVariables false
set_option linter.unusedSimpArgs false

theorem range_flat {α : Type} (f : α → List Value) (n : Nat) {w : World} {b : Nat} : ∀ (l : List α) (o : Nat), (∀ x ∈ l, (f x).length = n) → (∀ i (hi : i < l.length), w.rangeAt b (o + i * n) (f l[i])) → w.rangeAt b o (l.flatMap f)
  | [], o, _, _ => fun j v hv => by simp at hv
  | x :: r, o, h1, h2 => by
    rw [List.flatMap_cons, range_app, h1 x (by simp)]
    refine ⟨by have := h2 0 (by simp); rw [Nat.zero_mul, Nat.add_zero] at this; exact this, range_flat f n r (o + n) (fun y hy => h1 y (by simp [hy])) fun i hi => ?_⟩
    have := h2 (i + 1) (by simpa using hi)
    rw [show o + n + i * n = o + (i + 1) * n by rw [Nat.add_mul]; omega]
    simpa using this
theorem spot_none {w : World} {b o : Nat} {s : Option Nat} {v : Value} (h : w.cell? ⟨b, o, s⟩ = some v) : s = none := by simpa using World.cell?_spot h

theorem list2 {cs : List Value} (h : cs.length = 2) : ∃ a b, cs = [a, b] := by
  match cs, h with
  | [a, b], _ => exact ⟨a, b, rfl⟩
theorem list4 {cs : List Value} (h : cs.length = 4) : ∃ a b c d, cs = [a, b, c, d] := by
  match cs, h with
  | [a, b, c, d], _ => exact ⟨a, b, c, d, rfl⟩
theorem list5 {cs : List Value} (h : cs.length = 5) : ∃ a b c d e, cs = [a, b, c, d, e] := by
  match cs, h with
  | [a, b, c, d, e], _ => exact ⟨a, b, c, d, e, rfl⟩
variable {H : Type} {enc : TypeId × Value → H} {w : World}

theorem here : True := trivial
end Go.Proofs.YtbiokmojjneleaaGreat.OpenF

/-
  Plain lists: blocks that are ok stay ok when a record is written, or a block is wiped. Nothing here walks the program.
-/
namespace Go.Proofs.YtbiokmojjneleaaGreat.Ok2
open Go.ChangeShapes Go.WideShapes Go.ChangeAt Go.RowKit OkA Big Fl ImplB ImplF ImplS _root_.Go.Proofs.YtbiokmojjneleaaGreat.Own ImplT ImplU SpecA SpecB SpecC SpecD SpecW
set_option linter.unusedVariables false
set_option linter.unusedSimpArgs false

theorem okB_iff (bs : List Bk) : okB bs = true ↔ bs.length = 4 ∧ (∀ b ∈ bs, bkB b = true) ∧ (seqs bs).Nodup := by
  simp [okB, nodB_iff, and_assoc]
theorem bkB_iff (b : Bk) : bkB b = true ↔ b.ps.length = 4 ∧ (0 ≤ b.wn ∧ b.wn ≤ 200) ∧ (∀ p ∈ b.ps, pgB p = true) ∧ tailB b.ps = true := by
  simp [bkB, inB, and_assoc]
theorem mem_set {α : Type} {l : List α} {k : Nat} {y x : α} (h : x ∈ l.set k y) : x ∈ l ∨ x = y := List.mem_or_eq_of_mem_set h
theorem seqsP_set (ps : List Pg) (u : Nat) (p : Pg) (hu : u < ps.length) (h : seqP ps[u] = none) : (seqsP (ps.set u p)).Perm ((seqP p).toList ++ seqsP ps) := by
  induction ps generalizing u with
  | nil => simp at hu
  | cons q r ih =>
    cases u with
    | zero =>
      simp only [List.getElem_cons_zero] at h
      simp only [List.set_cons_zero, seqsP, List.filterMap_cons, h]
      cases seqP p <;> simp
    | succ u =>
      simp only [List.getElem_cons_succ] at h
      have := ih u (by simpa using hu) h
      simp only [List.set_cons_succ]
      unfold seqsP at this ⊢
      simp only [List.filterMap_cons]
      cases seqP q with
      | none => exact this
      | some x => exact (List.Perm.cons x this).trans List.perm_middle.symm
theorem seqs_set (bs : List Bk) (k : Nat) (b : Bk) (l : List Int) (hk : k < bs.length) (h : (seqsP b.ps).Perm (l ++ seqsP bs[k].ps)) : (seqs (bs.set k b)).Perm (l ++ seqs bs) := by
  induction bs generalizing k with
  | nil => simp at hk
  | cons q r ih =>
    cases k with
    | zero =>
      simp only [List.getElem_cons_zero] at h
      simp only [List.set_cons_zero, seqs, List.flatMap_cons]
      rw [← List.append_assoc]
      exact h.append_right _
    | succ k =>
      simp only [List.getElem_cons_succ] at h
      have := ih k (by simpa using hk) h
      simp only [List.set_cons_succ]
      unfold seqs at this ⊢
      simp only [List.flatMap_cons]
      refine (this.append_left _).trans ?_
      rw [← List.append_assoc, ← List.append_assoc]
      exact List.perm_append_comm.append_right _
theorem seqs_drop (bs : List Bk) (k : Nat) (b : Bk) (hk : k < bs.length) (h : seqsP b.ps = []) : (seqs (bs.set k b)).Sublist (seqs bs) := by
  induction bs generalizing k with
  | nil => simp at hk
  | cons q r ih =>
    cases k with
    | zero => simp only [List.set_cons_zero, seqs, List.flatMap_cons, h, List.nil_append]; exact List.sublist_append_right _ _
    | succ k =>
      have := ih k (by simpa using hk)
      simp only [List.set_cons_succ]
      unfold seqs at this ⊢
      simp only [List.flatMap_cons]
      exact this.append_left _
theorem getD_in (bs : List Bk) (k : Nat) (hk : k < bs.length) : bs.getD k zBk = bs[k] := by rw [List.getD_eq_getElem?_getD, List.getElem?_eq_getElem hk]; rfl
theorem list_four {α : Type} {l : List α} (h : l.length = 4) : ∃ a b c d, l = [a, b, c, d] := by
  match l, h with
  | [a, b, c, d], _ => exact ⟨a, b, c, d, rfl⟩
/-- The first clean page is clean. -/
theorem used_clean (ps : List Pg) (h : usedN ps < ps.length) : clB ps[usedN ps] = true := by
  induction ps with
  | nil => simp at h
  | cons p r ih =>
    by_cases h0 : usedN r = 0
    · cases hc : clB p
      · have e : usedN (p :: r) = 1 := by simp [usedN, h0, hc]
        simp only [e] at h ⊢
        have hr := (usedN_zero r).1 h0
        rw [List.all_eq_true] at hr
        simp only [List.getElem_cons_succ]
        exact hr _ (List.getElem_mem _)
      · have e : usedN (p :: r) = 0 := by simp [usedN, h0, hc]
        simp only [e, List.getElem_cons_zero, hc]
    · have e : usedN (p :: r) = usedN r + 1 := by simp [usedN, h0]
      simp only [e] at h ⊢
      simp only [List.getElem_cons_succ]
      exact ih (by simpa using h)
theorem used_set (ps : List Pg) (h4 : ps.length = 4) (p : Pg) (hp : clB p = false) (h : usedN ps < 4) (ht : tailB ps = true) : tailB (ps.set (usedN ps) p) = true ∧ usedN (ps.set (usedN ps) p) = usedN ps + 1 := by
  obtain ⟨a, b, c, d, rfl⟩ := list_four h4
  revert h ht
  cases ha : clB a <;> cases hb : clB b <;> cases hc : clB c <;> cases hd : clB d <;> simp [usedN, tailB, ha, hb, hc, hd, hp]
theorem pgW_st (torn : Bool) (rk rs ra rv : Int) : clB (pgW torn rk rs ra rv) = false := by cases torn <;> rfl
theorem pgW_ok (torn : Bool) (rk rs ra rv : Int) (h : recB rk rs ra rv = true) : pgB (pgW torn rk rs ra rv) = true := by
  cases torn
  · simpa [pgW, pgB] using h
  · rfl
theorem wrL_len (bs : List Bk) (k : Nat) (p : Pg) : (wrL bs k p).length = bs.length := by simp [wrL]
theorem wrN_no {bs : List Bk} {k : Nat} {rs : Int} (h : wrN bs k rs = false) : usedN (bs.getD k zBk).ps ≠ 4 ∧ hasB bs rs = false := by
  simpa [wrN] using h
theorem okB_wr (bs : List Bk) (k : Nat) (hk : k < 4) (hok : okB bs = true) (torn : Bool) (rk rs ra rv : Int) (hr : recB rk rs ra rv = true) (hn : wrN bs k rs = false) : okB (wrL bs k (pgW torn rk rs ra rv)) = true := by
  obtain ⟨h4, hb, hd⟩ := (okB_iff bs).1 hok
  have hkb : k < bs.length := by omega
  obtain ⟨hu, hh⟩ := wrN_no hn
  have hg := getD_in bs k hkb
  rw [hg] at hu
  obtain ⟨g4, gw, gp, gt⟩ := (bkB_iff _).1 (hb bs[k] (List.getElem_mem hkb))
  have hul : usedN bs[k].ps < bs[k].ps.length := by have := usedN_le bs[k].ps; omega
  have hcl := used_clean _ hul
  obtain ⟨t1, t2⟩ := used_set bs[k].ps g4 (pgW torn rk rs ra rv) (pgW_st _ _ _ _ _) (by omega) gt
  refine (okB_iff _).2 ⟨by rw [wrL_len]; exact h4, fun b hm => ?_, ?_⟩
  · unfold wrL at hm
    rcases mem_set hm with hm | rfl
    · exact hb b hm
    · rw [hg]
      refine (bkB_iff _).2 ⟨by simpa using g4, gw, fun p hp => ?_, t1⟩
      rcases mem_set hp with hp | rfl
      · exact gp p hp
      · exact pgW_ok _ _ _ _ _ hr
  · have hs : seqP bs[k].ps[usedN bs[k].ps] = none := by
      unfold seqP; rw [if_neg]
      simp [clB] at hcl; omega
    have p1 := seqsP_set bs[k].ps (usedN bs[k].ps) (pgW torn rk rs ra rv) hul hs
    have p2 := seqs_set bs k ⟨bs[k].ps.set (usedN bs[k].ps) (pgW torn rk rs ra rv), bs[k].wn⟩ _ hkb p1
    unfold wrL; rw [hg]
    rw [p2.nodup_iff]
    cases torn
    · have : (seqP (pgW false rk rs ra rv)).toList = [rs] := rfl
      rw [this]
      simp only [List.singleton_append, List.nodup_cons]
      exact ⟨by simpa [hasB] using hh, hd⟩
    · exact hd
theorem wiL_len (bs : List Bk) (k : Nat) (torn : Bool) : (wiL bs k torn).length = bs.length := by simp [wiL]
theorem pgS_ok (torn : Bool) : pgB (pgS torn) = true := by cases torn <;> rfl
theorem seqs_wi (torn : Bool) : seqsP (List.replicate 4 (pgS torn)) = [] := by cases torn <;> rfl
theorem tail_wi (torn : Bool) : tailB (List.replicate 4 (pgS torn)) = true := by cases torn <;> rfl
theorem okB_wi (bs : List Bk) (k : Nat) (hk : k < 4) (hok : okB bs = true) (torn : Bool) (hn : wiN bs k = false) : okB (wiL bs k torn) = true := by
  obtain ⟨h4, hb, hd⟩ := (okB_iff bs).1 hok
  have hkb : k < bs.length := by omega
  have hg := getD_in bs k hkb
  obtain ⟨g4, gw, gp, gt⟩ := (bkB_iff _).1 (hb bs[k] (List.getElem_mem hkb))
  unfold wiN at hn; rw [hg] at hn
  simp at hn
  refine (okB_iff _).2 ⟨by rw [wiL_len]; exact h4, fun b hm => ?_, ?_⟩
  · unfold wiL wiB at hm
    rcases mem_set hm with hm | rfl
    · exact hb b hm
    · rw [hg]
      exact (bkB_iff _).2 ⟨by simp, by simp only; omega, fun p hp => by rw [List.eq_of_mem_replicate hp]; exact pgS_ok _, tail_wi _⟩
  · unfold wiL wiB; rw [hg]
    exact hd.sublist (seqs_drop bs k _ hkb (seqs_wi torn))
end Go.Proofs.YtbiokmojjneleaaGreat.Ok2

/-
  The specification's finding: the greatest number of a block's records.
-/
namespace Go.Proofs.YtbiokmojjneleaaGreat.SpecF
open Go.ChangeShapes Go.WideShapes Go.ChangeAt Go.RowKit OkA Big Fl ImplB ImplF ImplS _root_.Go.Proofs.YtbiokmojjneleaaGreat.Own ImplT ImplU SpecA SpecB
set_option linter.unusedVariables false
set_option linter.unusedSimpArgs false

def mx (m s : Int) : Int := if m < s then s else m
def mostN (ps : List Pg) : Int := ps.foldl (fun m p => mx m p.s) 0
theorem mostN_take (ps : List Pg) (j : Nat) (hj : j < ps.length) : mostN (ps.take (j + 1)) = mx (mostN (ps.take j)) ps[j].s := by
  unfold mostN
  rw [List.take_succ_eq_append_getElem hj, List.foldl_append]
  rfl

set_option maxHeartbeats 1000000 in
theorem most_any (a : Option Addr) (cap : Nat) (ps : List Pg) (wn : Int) (w : World) (h : PsAt w a ps) (hl : ps.length ≤ 1048576) :
    Calls Tryz.prog 91 #[.agg #[.slice a ps.length cap, .int .i64 wn]] w fun e w' => e = .returned (.int .i64 (mostN ps)) ∧ Below w.heap.size w w' := by
  have B0 : Below w.heap.size w (w.alloc (.cells #[.slice a ps.length cap, .int .i64 wn] 125)) := (Below.refl _ _).alloc (Nat.le_refl _) _
  have H := hide (h.below B0)
  have c0 : (w.alloc (.cells #[.slice a ps.length cap, .int .i64 wn] 125)).cell? ⟨w.heap.size, 0, none⟩ = some (.slice a ps.length cap) := by
    rw [World.cell?_alloc_at _ _ _ _ rfl]; rfl
  have HN : Hid (mostN (ps.take ps.length) = mostN ps) := by show _ = _; rw [List.take_of_length_le (Nat.le_refl _)]
  clear h
  generalize hn : ps.length = n at *
  have HL := hide hn
  clear hn
  have hli : (n : Int) ≤ 1048576 := by omega
  go_enter Tryz.func91, Tryz.ntmps91
  go_wp2
  generalize w.alloc (.cells #[.slice a n cap, .int .i64 wn] 125) = w1 at *
  go_loop [3, 4] (fun m i => ∃ k : Nat, k ≤ n ∧ i = .int .i64 k ∧ m = .int .i64 (mostN (ps.take k))) (fun _ i => n - (intOf i).toNat)
  case atStart => exact ⟨0, by omega, rfl, rfl⟩
  case round =>
    obtain ⟨k, hk, rfl, rfl⟩ := hrel
    by_cases h0 : k = n
    · subst h0
      go_wp2
      go_ret
      exact ⟨by rw [← unhide HN]; rfl, B0⟩
    · have hlt : (k : Int) < (n : Int) := by omega
      have hkb : k < ps.length := by have := unhide HL; omega
      have hlo : (0 : Int) ≤ (k : Int) := by omega
      obtain ⟨b1, o1, rfl, g1⟩ : ∃ b o, a = some ⟨b, o, none⟩ ∧ w1.rangeAt b o (psC ps) := by
        rcases unhide H with rfl | h
        · simp at hkb
        · exact h
      have d2 := (PsAt.cells g1 k hkb).2.2.1
      have HT := hide (mostN_take ps k hkb)
      clear g1
      generalize ps[k].s = s at *
      generalize hm : mostN (ps.take k) = m at *
      go_wp2
      go_round
      case rel => exact ⟨k + 1, by omega, by first | rfl | go_num, by rw [unhide HT]; rfl⟩
      case measure => simp [intOf]; omega

def mostB (bs : List Bk) : Int := bs.foldl (fun m b => mx m (mostN b.ps)) 0
theorem mostB_take (bs : List Bk) (j : Nat) (hj : j < bs.length) : mostB (bs.take (j + 1)) = mx (mostB (bs.take j)) (mostN bs[j].ps) := by
  unfold mostB
  rw [List.take_succ_eq_append_getElem hj, List.foldl_append]
  rfl
set_option maxHeartbeats 1000000 in
theorem next_any (a : Option Addr) (cap : Nat) (bs : List Bk) (w : World) (hf : FsAt w a bs) (hl : bs.length ≤ 1048576) (hp : ∀ b ∈ bs, b.ps.length ≤ 1048576) :
    Calls Tryz.prog 125 #[.slice a bs.length cap] w fun e w' => e = .returned (.int .i64 (wrap64 (mostB bs + 1))) ∧ Below w.heap.size w w' := by
  have H := hide hf
  have HP := hide hp
  have HN : Hid (mostB (bs.take bs.length) = mostB bs) := by show _ = _; rw [List.take_of_length_le (Nat.le_refl _)]
  clear hf hp
  generalize hn : bs.length = n at *
  have HL := hide hn
  clear hn
  have hli : (n : Int) ≤ 1048576 := by omega
  go_enter Tryz.func125, Tryz.ntmps125
  go_wp2
  go_loopw [3, 4] (fun m i w' => ∃ k : Nat, k ≤ n ∧ i = .int .i64 k ∧ m = .int .i64 (mostB (bs.take k)) ∧ Below w.heap.size w w') (fun _ i _ => n - (intOf i).toNat)
  case atStart => exact ⟨0, by omega, rfl, rfl, Below.refl _ _⟩
  case round =>
    obtain ⟨k, hk, rfl, rfl, bw⟩ := hrel
    by_cases h0 : k = n
    · subst h0
      rw [unhide HN]
      go_wp2
      go_ret
      exact ⟨rfl, bw⟩
    · have hlt : (k : Int) < (n : Int) := by omega
      have hkb : k < bs.length := by have := unhide HL; omega
      have hlo : (0 : Int) ≤ (k : Int) := by omega
      obtain ⟨b1, o1, rfl, g1⟩ : ∃ b o, a = some ⟨b, o, none⟩ ∧ ∀ i (hi : i < bs.length), BkAt wr b (o + i * 2) bs[i] := by
        rcases (unhide H).below bw with rfl | h
        · simp at hkb
        · exact h
      obtain ⟨p1, c1, d0, d1, q1⟩ := g1 k hkb
      have HC := hide (most_any p1 c1 bs[k].ps bs[k].wn wr q1 (unhide HP _ (List.getElem_mem hkb)))
      have HT := hide (mostB_take bs k hkb)
      clear g1 q1
      generalize bs[k].ps.length = q at *
      generalize mostN bs[k].ps = s at *
      generalize bs[k].wn = wn at *
      generalize hm : mostB (bs.take k) = m at *
      go_wp2_with fail
      refine (unhide HC).mono ?_
      rintro e w2 ⟨rfl, b2⟩
      have B2 := bw.trans (b2.mono bw.size)
      clear b2 bw d0 d1 HC
      go_wp2
      go_roundw
      case rel => exact ⟨k + 1, by omega, by first | rfl | go_num, by rw [unhide HT]; rfl, B2⟩
      case measure => simp [intOf]; omega
end Go.Proofs.YtbiokmojjneleaaGreat.SpecF

/-
  The specification's finding: the eldest block.
-/
namespace Go.Proofs.YtbiokmojjneleaaGreat.SpecG
open Go.ChangeShapes Go.WideShapes Go.ChangeAt Go.RowKit OkA Big Fl ImplB ImplF ImplS _root_.Go.Proofs.YtbiokmojjneleaaGreat.Own ImplT ImplU SpecA SpecB SpecF
set_option linter.unusedVariables false
set_option linter.unusedSimpArgs false
attribute [local go_sem ↓] Go.wp_at_zero Go.wp_at_succ

/-- The first of the first k + 1 blocks whose greatest number is least. -/
def oldN (bs : List Bk) : Nat → Nat
  | 0 => 0
  | k + 1 => if mostN (bs.getD (k + 1) zBk).ps < mostN (bs.getD (oldN bs k) zBk).ps then k + 1 else oldN bs k
theorem oldN_le (bs : List Bk) (k : Nat) : oldN bs k ≤ k := by
  induction k with
  | zero => exact Nat.le_refl _
  | succ k ih => unfold oldN; split <;> omega
theorem getD_at (bs : List Bk) (k : Nat) (h : k < bs.length) : bs.getD k zBk = bs[k] := by rw [List.getD_eq_getElem?_getD, List.getElem?_eq_getElem h]; rfl
theorem blk_two {w : World} {b o : Nat} {x y : Value} (h0 : w.cell? ⟨b, o, none⟩ = some x) (h1 : w.cell? ⟨b, o + 1, none⟩ = some y) : w.rangeAt b o [x, y] := fun j v hv => by
  match j, hv with
  | 0, hv => (obtain rfl : v = x := by simpa using hv.symm); exact h0
  | 1, hv => (obtain rfl : v = y := by simpa using hv.symm); exact h1
  | n + 2, hv => simp at hv

set_option maxHeartbeats 1000000 in
theorem old_any (a : Option Addr) (cap : Nat) (bs : List Bk) (w : World) (hf : FsAt w a bs) (hl : bs.length ≤ 1048576) (hp : ∀ b ∈ bs, b.ps.length ≤ 1048576) (hz : 0 < bs.length) :
    Calls Tryz.prog 147 #[.slice a bs.length cap] w fun e w' => e = .returned (.int .i64 (oldN bs (bs.length - 1))) ∧ Below w.heap.size w w' := by
  have H := hide hf
  have HP := hide hp
  clear hf hp
  generalize hn : bs.length = n at *
  have HL := hide hn
  clear hn
  have hli : (n : Int) ≤ 1048576 := by omega
  go_enter Tryz.func147, Tryz.ntmps147
  go_wp2
  go_loopw [3, 4] (fun m i w' => ∃ k : Nat, k < n ∧ i = .int .i64 (k + 1 : Nat) ∧ m = .int .i64 (oldN bs k : Nat) ∧ Below w.heap.size w w') (fun _ i _ => n - (intOf i).toNat)
  case atStart => exact ⟨0, by omega, rfl, rfl, Below.refl _ _⟩
  case round =>
    obtain ⟨k, hk, rfl, rfl, bw⟩ := hrel
    have hle := oldN_le bs k
    have HO : Hid (oldN bs (k + 1) = if mostN (bs.getD (k + 1) zBk).ps < mostN (bs.getD (oldN bs k) zBk).ps then k + 1 else oldN bs k) := rfl
    generalize hu : oldN bs k = u at *
    by_cases h0 : k + 1 = n
    · obtain rfl := h0
      have HU := hide hu
      go_wp2
      go_ret
      exact ⟨by rw [Nat.add_sub_cancel, unhide HU]; rfl, bw⟩
    · generalize hi : k + 1 = i at *
      have hlt : (i : Int) < (n : Int) := by omega
      have hkb : i < bs.length := by have := unhide HL; omega
      have hub : u < bs.length := by have := unhide HL; omega
      have hult : (u : Int) < (n : Int) := by omega
      have hlo : (0 : Int) ≤ (i : Int) := by omega
      have hulo : (0 : Int) ≤ (u : Int) := by omega
      rw [getD_at bs i hkb, getD_at bs u hub] at HO
      obtain ⟨b1, o1, rfl, g1⟩ : ∃ b o, a = some ⟨b, o, none⟩ ∧ ∀ i (hi : i < bs.length), BkAt wr b (o + i * 2) bs[i] := by
        rcases (unhide H).below bw with rfl | h
        · simp at hkb
        · exact h
      obtain ⟨p1, c1, d0, d1, q1⟩ := g1 i hkb
      obtain ⟨p2, c2, e0, e1, q2⟩ := g1 u hub
      have l1 := cell_lt d0
      have x1 := blk_two d0 d1
      have x2 := blk_two e0 e1
      have Q2 := q2.below ((Below.refl wr.heap.size wr).drew)
      have Q1 := q1.below ((Below.refl wr.heap.size wr).drew)
      have HC1 := hide (fun w' (h : PsAt w' p1 bs[i].ps) => most_any p1 c1 bs[i].ps bs[i].wn w' h (unhide HP _ (List.getElem_mem hkb)))
      have HC2 := hide (fun w' (h : PsAt w' p2 bs[u].ps) => most_any p2 c2 bs[u].ps bs[u].wn w' h (unhide HP _ (List.getElem_mem hub)))
      have HZ1 : Hid ((Tryz.prog.info? 125).map (·.size) = some [Value.slice p1 bs[i].ps.length c1, Value.int .i64 bs[i].wn].length) := by show _ = some 2; kernel_rfl
      have HZ2 : Hid ((Tryz.prog.info? 125).map (·.size) = some [Value.slice p2 bs[u].ps.length c2, Value.int .i64 bs[u].wn].length) := by show _ = some 2; kernel_rfl
      clear g1 d0 d1 e0 e1 q1 q2
      generalize bs[i] = b at *
      generalize bs[u] = c at *
      have hls : w.heap.size ≤ wr.heap.size := bw.size
      go_wp2_with fail
      refine wp_region_noPanic ?_
      refine wp_region_held_drew (S := fun w' => w'.rangeAt b1 (o1 + i * 2) [.slice p1 b.ps.length c1, .int .i64 b.wn] ∧ w'.rangeAt b1 (o1 + u * 2) [.slice p2 c.ps.length c2, .int .i64 c.wn]) (by kernel_rfl) (⟨by simpa using x1, by simpa using x2⟩) (fun hHeld => ?_)
      refine takeL 0 (.slice (some ⟨b1, o1, none⟩) n cap) rfl (by kernel_rfl) (by kernel_rfl) (by kernel_rfl) (fun _ _ _ h => h) (Or.inl ⟨rfl, fun _ _ => rfl⟩) hHeld ?_
      try simp only [Act.put, List.setIfInBounds_toArray, List.set_cons_zero, List.set_cons_succ]
      refine takeL 1 (.int .i64 i) rfl (by kernel_rfl) (by kernel_rfl) (by kernel_rfl) (fun _ _ _ h => h) (Or.inl ⟨rfl, fun _ _ => rfl⟩) hHeld ?_
      try simp only [Act.put, List.setIfInBounds_toArray, List.set_cons_zero, List.set_cons_succ]
      refine takeL 2 (.pointer (some ⟨b1, o1 + i * 2, none⟩)) rfl (by kernel_rfl) (by kernel_rfl) (by kernel_rfl) (fun _ _ _ h => h) (Or.inl ⟨rfl, fun w9 hSw => by go_simp⟩) hHeld ?_
      try simp only [Act.put, List.setIfInBounds_toArray, List.set_cons_zero, List.set_cons_succ]
      refine takeL 3 (.agg #[.slice p1 b.ps.length c1, .int .i64 b.wn]) rfl (by kernel_rfl) (by kernel_rfl) (by kernel_rfl) (fun _ _ _ h => h) (yieldsIf_load_mid rfl 125 _ rfl b1 (o1 + i * 2) rfl [.slice p1 b.ps.length c1, .int .i64 b.wn] _ (fun _ h => h.1) Tryz.underlying125 rfl (unhide HZ1)) hHeld ?_
      try simp only [Act.put, List.setIfInBounds_toArray, List.set_cons_zero, List.set_cons_succ]
      refine takeL 5 (.slice (some ⟨b1, o1, none⟩) n cap) rfl (by kernel_rfl) (by kernel_rfl) (by kernel_rfl) (fun _ _ _ h => h) (Or.inl ⟨rfl, fun _ _ => rfl⟩) hHeld ?_
      try simp only [Act.put, List.setIfInBounds_toArray, List.set_cons_zero, List.set_cons_succ]
      refine takeL 6 (.int .i64 u) rfl (by kernel_rfl) (by kernel_rfl) (by kernel_rfl) (fun _ _ _ h => h) (Or.inl ⟨rfl, fun _ _ => rfl⟩) hHeld ?_
      try simp only [Act.put, List.setIfInBounds_toArray, List.set_cons_zero, List.set_cons_succ]
      refine takeL 7 (.pointer (some ⟨b1, o1 + u * 2, none⟩)) rfl (by kernel_rfl) (by kernel_rfl) (by kernel_rfl) (fun _ _ _ h => h) (Or.inl ⟨rfl, fun w9 hSw => by go_simp⟩) hHeld ?_
      try simp only [Act.put, List.setIfInBounds_toArray, List.set_cons_zero, List.set_cons_succ]
      refine takeL 8 (.agg #[.slice p2 c.ps.length c2, .int .i64 c.wn]) rfl (by kernel_rfl) (by kernel_rfl) (by kernel_rfl) (fun _ _ _ h => h) (yieldsIf_load_mid rfl 125 _ rfl b1 (o1 + u * 2) rfl [.slice p2 c.ps.length c2, .int .i64 c.wn] _ (fun _ h => h.2) Tryz.underlying125 rfl (unhide HZ2)) hHeld ?_
      try simp only [Act.put, List.setIfInBounds_toArray, List.set_cons_zero, List.set_cons_succ]
      refine oneL 4 rfl (by kernel_rfl) rfl (fun K hK => ?_)
      go_simp
      refine (unhide HC1 _ Q1).mono ?_
      rintro e w2 ⟨rfl, b2⟩
      go_wp2_with fail
      refine hK.out _ _ ⟨rangeAt_below hHeld.1 b2 (by simpa using l1), rangeAt_below hHeld.2 b2 (by simpa using l1)⟩ (fun hHeld => ?_)
      clear hK K
      try simp only [Act.put, List.setIfInBounds_toArray, List.set_cons_zero, List.set_cons_succ]
      refine oneL 9 rfl (by kernel_rfl) rfl (fun K hK => ?_)
      go_simp
      refine (unhide HC2 _ (Q2.below b2)).mono ?_
      rintro e w3 ⟨rfl, b3⟩
      go_wp2_with fail
      refine hK.out _ _ ⟨rangeAt_below hHeld.1 b3 (Nat.lt_of_lt_of_le (by simpa using l1) b2.size), rangeAt_below hHeld.2 b3 (Nat.lt_of_lt_of_le (by simpa using l1) b2.size)⟩ (fun hHeld => ?_)
      clear hK K
      try simp only [Act.put, List.setIfInBounds_toArray, List.set_cons_zero, List.set_cons_succ]
      refine takeL 10 (.bool (decide (mostN b.ps < mostN c.ps))) rfl (by kernel_rfl) (by kernel_rfl) (by kernel_rfl) (fun _ _ _ h => h) (Or.inl ⟨rfl, fun w9 hSw => by go_simp⟩) hHeld ?_
      try simp only [Act.put, List.setIfInBounds_toArray, List.set_cons_zero, List.set_cons_succ]
      refine wpAnyH_done (by kernel_rfl) ?_ _
      refine NoPanic.normal ?_
      have B3 := (bw.drew.trans (b2.mono bw.drew.size)).trans (b3.mono (bw.drew.trans (b2.mono bw.drew.size)).size)
      clear hHeld b2 b3 bw x1 x2 Q1 Q2
      by_cases hm : mostN b.ps < mostN c.ps
      · have hd : decide (mostN b.ps < mostN c.ps) = true := by simpa using hm
        have HM := hide (by have := unhide HO; rw [if_pos hm] at this; exact this : oldN bs i = i)
        rw [hd]
        clear hm hd HO
        go_wp2
        go_roundw
        case rel => exact ⟨i, by omega, by first | rfl | go_num, by rw [unhide HM], B3⟩
        case measure => simp [intOf]; omega
      · have hd : decide (mostN b.ps < mostN c.ps) = false := by simpa using hm
        have HM := hide (by have := unhide HO; rw [if_neg hm] at this; exact this : oldN bs i = u)
        rw [hd]
        clear hm hd HO
        go_wp2
        go_roundw
        case rel => exact ⟨i, by omega, by first | rfl | go_num, by rw [unhide HM], B3⟩
        case measure => simp [intOf]; omega
end Go.Proofs.YtbiokmojjneleaaGreat.SpecG

/-
  The specification's finding: the block on which the next record is to be written.
-/
namespace Go.Proofs.YtbiokmojjneleaaGreat.SpecH
open Go.ChangeShapes Go.WideShapes Go.ChangeAt Go.RowKit OkA Big Fl ImplB ImplF ImplS _root_.Go.Proofs.YtbiokmojjneleaaGreat.Own ImplT ImplU SpecA SpecB SpecF SpecG
set_option linter.unusedVariables false
set_option linter.unusedSimpArgs false
attribute [local go_sem ↓] Go.wp_at_zero Go.wp_at_succ

/-- What is told of the blocks from the i-th on, if out is the best that was met so far (-1: none). -/
def openF (bs : List Bk) : List Bk → Nat → Int → Int × Bool
  | [], _, out => (if out < 0 then 0 else out, decide (0 ≤ out))
  | b :: r, i, out => if 0 < cleanN b.ps ∧ cleanN b.ps < 4 then ((i : Int), true) else openF bs r (i + 1) (if 0 < cleanN b.ps ∧ (out < 0 ∨ b.wn < (bs.getD out.toNat zBk).wn) then (i : Int) else out)
def openR (bs : List Bk) : Int × Bool := openF bs bs 0 (-1)
theorem cleanN_le (ps : List Pg) : cleanN ps ≤ ps.length := List.length_filter_le _ _
def OpPost (w : World) (R : Int × Bool) (e : Ending) (w' : World) : Prop := e = .returned (.tuple #[.int .i64 R.1, .bool R.2]) ∧ Below w.heap.size w w'

set_option maxHeartbeats 1000000 in
theorem open_any (b1 o1 cap : Nat) (bs : List Bk) (w : World) (hF : Fours bs) (h4 : bs.length = 4) (hf : ∀ i (hi : i < bs.length), BkAt w b1 (o1 + i * 2) bs[i]) :
    Calls Tryz.prog 75 #[.slice (some ⟨b1, o1, none⟩) 4 cap] w fun e w' => OpPost w (openR bs) e w' := by
  have H := hide hf
  have HF := hide hF
  clear hf hF
  have HR0 : Hid (openF bs bs 0 (-1) = openR bs) := rfl
  generalize openR bs = R at *
  go_enter Tryz.func75, Tryz.ntmps75
  go_wp2
  go_loopw [4, 5] (fun m i w' => ∃ (k : Nat) (out : Int), k ≤ 4 ∧ i = .int .i64 k ∧ m = .int .i64 out ∧ -1 ≤ out ∧ out < k ∧ Hid (openF bs (bs.drop k) k out = R) ∧ Below w.heap.size w w') (fun _ i _ => 4 - (intOf i).toNat)
  case atStart => exact ⟨0, -1, by omega, rfl, rfl, by omega, by omega, HR0, Below.refl _ _⟩
  case round =>
    obtain ⟨k, out, hk, rfl, rfl, ho1, ho2, HR, bw⟩ := hrel
    by_cases h0 : k = 4
    · subst h0
      have HE : Hid (R = (if out < 0 then 0 else out, decide (0 ≤ out))) := by
        show _ = _
        have := unhide HR
        rw [List.drop_eq_nil_of_le (by omega)] at this
        exact this.symm
      clear HR
      by_cases hneg : out < 0
      · obtain rfl : out = -1 := by omega
        go_wp2
        go_ret2
        exact ⟨by rw [unhide HE]; rfl, bw⟩
      · have HE2 : Hid (R = (out, true)) := by show _ = _; rw [unhide HE, if_neg hneg]; simp; omega
        have hnn : 0 ≤ out := by omega
        clear HE
        go_wp2
        go_ret2
        exact ⟨by rw [unhide HE2]; rfl, bw⟩
    · have hlt : (k : Int) < 4 := by omega
      have hkb : k < bs.length := by omega
      have hlo : (0 : Int) ≤ (k : Int) := by omega
      have hb4 := (unhide HF).at k hkb
      obtain ⟨p1, c1, d0, d1, q1⟩ := unhide H k hkb
      have hlw := cell_lt d0
      have hcl := cleanN_le bs[k].ps
      rw [hb4] at d0 hcl
      have D0 := (bw.cell (p := ⟨b1, o1 + k * 2, none⟩) hlw).trans d0
      have D1 := (bw.cell (p := ⟨b1, o1 + k * 2 + 1, none⟩) hlw).trans d1
      obtain ⟨pb, po, rfl, hr⟩ : ∃ pb po, p1 = some ⟨pb, po, none⟩ ∧ w.rangeAt pb po (psC bs[k].ps) := by
        rcases q1 with h | h
        · rw [h] at hb4; simp at hb4
        · exact h
      have hr1 := rangeAt_below hr bw (cell_lt (PsAt.cells hr 0 (by omega)).1)
      have HC := hide (l2Clean_any pb po c1 bs[k].ps bs[k].wn wr hb4 hr1)
      rw [List.drop_eq_getElem_cons hkb] at HR
      have HGO : Hid (∀ u : Nat, out = (u : Int) → u < bs.length → (bs.getD out.toNat zBk).wn = (bs.getD u zBk).wn) := fun u hu _ => by rw [hu]; rfl
      clear q1 hr hr1 d0 d1
      generalize bs[k] = b at *
      have hcn : Hid (openF bs (b :: bs.drop (k + 1)) k out = if 0 < cleanN b.ps ∧ cleanN b.ps < 4 then ((k : Int), true) else openF bs (bs.drop (k + 1)) (k + 1) (if 0 < cleanN b.ps ∧ (out < 0 ∨ b.wn < (bs.getD out.toNat zBk).wn) then (k : Int) else out)) := rfl
      rw [unhide hcn] at HR
      clear hcn
      generalize cleanN b.ps = cl at *
      go_wp2_with fail
      refine (unhide HC).mono ?_
      rintro e w2 ⟨rfl, b2⟩
      have B2 := bw.trans (b2.mono bw.size)
      have hlw2 := Nat.lt_of_lt_of_le hlw bw.size
      have E0 := (b2.cell (p := ⟨b1, o1 + k * 2, none⟩) hlw2).trans D0
      have E1 := (b2.cell (p := ⟨b1, o1 + k * 2 + 1, none⟩) hlw2).trans D1
      clear b2 bw D0 D1 HC
      by_cases hbeg : 0 < cl ∧ cl < 4
      · have HE : Hid (R = ((k : Int), true)) := by show _ = _; have := unhide HR; rw [if_pos hbeg] at this; exact this.symm
        obtain ⟨hg1, hg2⟩ := hbeg
        have hg1' : (0 : Int) < (cl : Int) := by omega
        have hg2' : (cl : Int) < 4 := by omega
        clear HR hg1 hg2
        go_wp2
        go_ret2
        exact ⟨by rw [unhide HE]; rfl, B2⟩
      · have HRN := hide (by have := unhide HR; rw [if_neg hbeg] at this; exact this : openF bs (bs.drop (k + 1)) (k + 1) (if 0 < cl ∧ (out < 0 ∨ b.wn < (bs.getD out.toNat zBk).wn) then (k : Int) else out) = R)
        clear HR
        by_cases hz : cl = 0
        · subst hz
          rw [if_neg (by omega)] at HRN
          clear hbeg
          go_wp2_with fail
          refine wp_region_noPanic ?_
          refine wp_region_held_drew (S := fun w' => True) (by kernel_rfl) (trivial) (fun hHeld => ?_)
          refine takeL 0 (.int .i64 (0 : Nat)) rfl (by kernel_rfl) (by kernel_rfl) (by kernel_rfl) (fun _ _ _ h => h) (Or.inl ⟨rfl, fun _ _ => rfl⟩) hHeld ?_
          try simp only [Act.put, List.setIfInBounds_toArray, List.set_cons_zero, List.set_cons_succ]
          refine takeL 1 (.bool false) rfl (by kernel_rfl) (by kernel_rfl) (by kernel_rfl) (fun _ _ _ h => h) (Or.inl ⟨rfl, fun w9 hSw => by go_simp⟩) hHeld ?_
          try simp only [Act.put, List.setIfInBounds_toArray, List.set_cons_zero, List.set_cons_succ]
          refine takeL 2 (.bool false) rfl (by kernel_rfl) (by kernel_rfl) (by kernel_rfl) (fun _ _ _ h => h) (Or.inl ⟨rfl, fun _ _ => rfl⟩) hHeld ?_
          try simp only [Act.put, List.setIfInBounds_toArray, List.set_cons_zero, List.set_cons_succ]
          refine takeL 3 (undef) rfl (by kernel_rfl) (by kernel_rfl) (by kernel_rfl) (fun _ _ _ h => h) (Or.inr ⟨rfl, rfl⟩) hHeld ?_
          try simp only [Act.put, List.setIfInBounds_toArray, List.set_cons_zero, List.set_cons_succ]
          refine takeL 4 (undef) rfl (by kernel_rfl) (by kernel_rfl) (by kernel_rfl) (fun _ _ _ h => h) (Or.inr ⟨rfl, rfl⟩) hHeld ?_
          try simp only [Act.put, List.setIfInBounds_toArray, List.set_cons_zero, List.set_cons_succ]
          refine takeL 5 (undef) rfl (by kernel_rfl) (by kernel_rfl) (by kernel_rfl) (fun _ _ _ h => h) (Or.inr ⟨rfl, rfl⟩) hHeld ?_
          try simp only [Act.put, List.setIfInBounds_toArray, List.set_cons_zero, List.set_cons_succ]
          refine takeL 6 (undef) rfl (by kernel_rfl) (by kernel_rfl) (by kernel_rfl) (fun _ _ _ h => h) (Or.inr ⟨rfl, rfl⟩) hHeld ?_
          try simp only [Act.put, List.setIfInBounds_toArray, List.set_cons_zero, List.set_cons_succ]
          refine takeL 7 (undef) rfl (by kernel_rfl) (by kernel_rfl) (by kernel_rfl) (fun _ _ _ h => h) (Or.inr ⟨rfl, rfl⟩) hHeld ?_
          try simp only [Act.put, List.setIfInBounds_toArray, List.set_cons_zero, List.set_cons_succ]
          refine takeL 8 (undef) rfl (by kernel_rfl) (by kernel_rfl) (by kernel_rfl) (fun _ _ _ h => h) (Or.inr ⟨rfl, rfl⟩) hHeld ?_
          try simp only [Act.put, List.setIfInBounds_toArray, List.set_cons_zero, List.set_cons_succ]
          refine takeL 9 (undef) rfl (by kernel_rfl) (by kernel_rfl) (by kernel_rfl) (fun _ _ _ h => h) (Or.inr ⟨rfl, rfl⟩) hHeld ?_
          try simp only [Act.put, List.setIfInBounds_toArray, List.set_cons_zero, List.set_cons_succ]
          refine takeL 10 (undef) rfl (by kernel_rfl) (by kernel_rfl) (by kernel_rfl) (fun _ _ _ h => h) (Or.inr ⟨rfl, rfl⟩) hHeld ?_
          try simp only [Act.put, List.setIfInBounds_toArray, List.set_cons_zero, List.set_cons_succ]
          refine takeL 11 (undef) rfl (by kernel_rfl) (by kernel_rfl) (by kernel_rfl) (fun _ _ _ h => h) (Or.inr ⟨rfl, rfl⟩) hHeld ?_
          try simp only [Act.put, List.setIfInBounds_toArray, List.set_cons_zero, List.set_cons_succ]
          refine takeL 12 (undef) rfl (by kernel_rfl) (by kernel_rfl) (by kernel_rfl) (fun _ _ _ h => h) (Or.inr ⟨rfl, rfl⟩) hHeld ?_
          try simp only [Act.put, List.setIfInBounds_toArray, List.set_cons_zero, List.set_cons_succ]
          refine takeL 13 (undef) rfl (by kernel_rfl) (by kernel_rfl) (by kernel_rfl) (fun _ _ _ h => h) (Or.inr ⟨rfl, rfl⟩) hHeld ?_
          try simp only [Act.put, List.setIfInBounds_toArray, List.set_cons_zero, List.set_cons_succ]
          refine takeL 14 (undef) rfl (by kernel_rfl) (by kernel_rfl) (by kernel_rfl) (fun _ _ _ h => h) (Or.inr ⟨rfl, rfl⟩) hHeld ?_
          try simp only [Act.put, List.setIfInBounds_toArray, List.set_cons_zero, List.set_cons_succ]
          refine takeL 15 (undef) rfl (by kernel_rfl) (by kernel_rfl) (by kernel_rfl) (fun _ _ _ h => h) (Or.inr ⟨rfl, rfl⟩) hHeld ?_
          try simp only [Act.put, List.setIfInBounds_toArray, List.set_cons_zero, List.set_cons_succ]
          refine takeL 16 (undef) rfl (by kernel_rfl) (by kernel_rfl) (by kernel_rfl) (fun _ _ _ h => h) (Or.inr ⟨rfl, rfl⟩) hHeld ?_
          try simp only [Act.put, List.setIfInBounds_toArray, List.set_cons_zero, List.set_cons_succ]
          refine takeL 17 (undef) rfl (by kernel_rfl) (by kernel_rfl) (by kernel_rfl) (fun _ _ _ h => h) (Or.inr ⟨rfl, rfl⟩) hHeld ?_
          try simp only [Act.put, List.setIfInBounds_toArray, List.set_cons_zero, List.set_cons_succ]
          refine takeL 18 (.bool false) rfl (by kernel_rfl) (by kernel_rfl) (by kernel_rfl) (fun _ _ _ h => h) (Or.inl ⟨rfl, fun w9 hSw => by go_simp⟩) hHeld ?_
          try simp only [Act.put, List.setIfInBounds_toArray, List.set_cons_zero, List.set_cons_succ]
          refine wpAnyH_done (by kernel_rfl) ?_ _
          refine NoPanic.normal ?_
          go_wp2
          go_roundw
          case rel => exact ⟨k + 1, out, by omega, by first | rfl | go_num, rfl, ho1, by omega, HRN, B2.drew⟩
          case measure => simp [intOf]; omega
        · obtain rfl : cl = 4 := by omega
          clear hbeg hz
          by_cases hneg : out < 0
          · obtain rfl : out = -1 := by omega
            rw [if_pos ⟨by omega, .inl (by omega)⟩] at HRN
            go_wp2_with fail
            refine wp_region_noPanic ?_
            refine wp_region_held_drew (S := fun w' => True) (by kernel_rfl) (trivial) (fun hHeld => ?_)
            refine takeL 0 (.int .i64 (4 : Nat)) rfl (by kernel_rfl) (by kernel_rfl) (by kernel_rfl) (fun _ _ _ h => h) (Or.inl ⟨rfl, fun _ _ => rfl⟩) hHeld ?_
            try simp only [Act.put, List.setIfInBounds_toArray, List.set_cons_zero, List.set_cons_succ]
            refine takeL 1 (.bool true) rfl (by kernel_rfl) (by kernel_rfl) (by kernel_rfl) (fun _ _ _ h => h) (Or.inl ⟨rfl, fun w9 hSw => by go_simp⟩) hHeld ?_
            try simp only [Act.put, List.setIfInBounds_toArray, List.set_cons_zero, List.set_cons_succ]
            refine takeL 2 (.bool true) rfl (by kernel_rfl) (by kernel_rfl) (by kernel_rfl) (fun _ _ _ h => h) (Or.inl ⟨rfl, fun _ _ => rfl⟩) hHeld ?_
            try simp only [Act.put, List.setIfInBounds_toArray, List.set_cons_zero, List.set_cons_succ]
            refine takeL 3 (.int .i64 (-1)) rfl (by kernel_rfl) (by kernel_rfl) (by kernel_rfl) (fun _ _ _ h => h) (Or.inl ⟨rfl, fun _ _ => rfl⟩) hHeld ?_
            try simp only [Act.put, List.setIfInBounds_toArray, List.set_cons_zero, List.set_cons_succ]
            refine takeL 4 (.bool true) rfl (by kernel_rfl) (by kernel_rfl) (by kernel_rfl) (fun _ _ _ h => h) (Or.inl ⟨rfl, fun w9 hSw => by go_simp⟩) hHeld ?_
            try simp only [Act.put, List.setIfInBounds_toArray, List.set_cons_zero, List.set_cons_succ]
            refine takeL 5 (.bool true) rfl (by kernel_rfl) (by kernel_rfl) (by kernel_rfl) (fun _ _ _ h => h) (Or.inl ⟨rfl, fun _ _ => rfl⟩) hHeld ?_
            try simp only [Act.put, List.setIfInBounds_toArray, List.set_cons_zero, List.set_cons_succ]
            refine takeL 6 (undef) rfl (by kernel_rfl) (by kernel_rfl) (by kernel_rfl) (fun _ _ _ h => h) (Or.inr ⟨rfl, rfl⟩) hHeld ?_
            try simp only [Act.put, List.setIfInBounds_toArray, List.set_cons_zero, List.set_cons_succ]
            refine takeL 7 (undef) rfl (by kernel_rfl) (by kernel_rfl) (by kernel_rfl) (fun _ _ _ h => h) (Or.inr ⟨rfl, rfl⟩) hHeld ?_
            try simp only [Act.put, List.setIfInBounds_toArray, List.set_cons_zero, List.set_cons_succ]
            refine takeL 8 (undef) rfl (by kernel_rfl) (by kernel_rfl) (by kernel_rfl) (fun _ _ _ h => h) (Or.inr ⟨rfl, rfl⟩) hHeld ?_
            try simp only [Act.put, List.setIfInBounds_toArray, List.set_cons_zero, List.set_cons_succ]
            refine takeL 9 (undef) rfl (by kernel_rfl) (by kernel_rfl) (by kernel_rfl) (fun _ _ _ h => h) (Or.inr ⟨rfl, rfl⟩) hHeld ?_
            try simp only [Act.put, List.setIfInBounds_toArray, List.set_cons_zero, List.set_cons_succ]
            refine takeL 10 (undef) rfl (by kernel_rfl) (by kernel_rfl) (by kernel_rfl) (fun _ _ _ h => h) (Or.inr ⟨rfl, rfl⟩) hHeld ?_
            try simp only [Act.put, List.setIfInBounds_toArray, List.set_cons_zero, List.set_cons_succ]
            refine takeL 11 (undef) rfl (by kernel_rfl) (by kernel_rfl) (by kernel_rfl) (fun _ _ _ h => h) (Or.inr ⟨rfl, rfl⟩) hHeld ?_
            try simp only [Act.put, List.setIfInBounds_toArray, List.set_cons_zero, List.set_cons_succ]
            refine takeL 12 (undef) rfl (by kernel_rfl) (by kernel_rfl) (by kernel_rfl) (fun _ _ _ h => h) (Or.inr ⟨rfl, rfl⟩) hHeld ?_
            try simp only [Act.put, List.setIfInBounds_toArray, List.set_cons_zero, List.set_cons_succ]
            refine takeL 13 (undef) rfl (by kernel_rfl) (by kernel_rfl) (by kernel_rfl) (fun _ _ _ h => h) (Or.inr ⟨rfl, rfl⟩) hHeld ?_
            try simp only [Act.put, List.setIfInBounds_toArray, List.set_cons_zero, List.set_cons_succ]
            refine takeL 14 (undef) rfl (by kernel_rfl) (by kernel_rfl) (by kernel_rfl) (fun _ _ _ h => h) (Or.inr ⟨rfl, rfl⟩) hHeld ?_
            try simp only [Act.put, List.setIfInBounds_toArray, List.set_cons_zero, List.set_cons_succ]
            refine takeL 15 (undef) rfl (by kernel_rfl) (by kernel_rfl) (by kernel_rfl) (fun _ _ _ h => h) (Or.inr ⟨rfl, rfl⟩) hHeld ?_
            try simp only [Act.put, List.setIfInBounds_toArray, List.set_cons_zero, List.set_cons_succ]
            refine takeL 16 (undef) rfl (by kernel_rfl) (by kernel_rfl) (by kernel_rfl) (fun _ _ _ h => h) (Or.inr ⟨rfl, rfl⟩) hHeld ?_
            try simp only [Act.put, List.setIfInBounds_toArray, List.set_cons_zero, List.set_cons_succ]
            refine takeL 17 (.bool true) rfl (by kernel_rfl) (by kernel_rfl) (by kernel_rfl) (fun _ _ _ h => h) (Or.inl ⟨rfl, fun w9 hSw => by go_simp⟩) hHeld ?_
            try simp only [Act.put, List.setIfInBounds_toArray, List.set_cons_zero, List.set_cons_succ]
            refine takeL 18 (.bool true) rfl (by kernel_rfl) (by kernel_rfl) (by kernel_rfl) (fun _ _ _ h => h) (Or.inl ⟨rfl, fun w9 hSw => by go_simp⟩) hHeld ?_
            try simp only [Act.put, List.setIfInBounds_toArray, List.set_cons_zero, List.set_cons_succ]
            refine wpAnyH_done (by kernel_rfl) ?_ _
            refine NoPanic.normal ?_
            go_wp2
            go_roundw
            case rel => exact ⟨k + 1, k, by omega, by first | rfl | go_num, rfl, by omega, by omega, HRN, B2.drew⟩
            case measure => simp [intOf]; omega
          · obtain ⟨u, rfl⟩ : ∃ u : Nat, out = (u : Int) := ⟨out.toNat, by omega⟩
            have hub : u < bs.length := by omega
            obtain ⟨p2, c2, f0, f1, _⟩ := unhide H u hub
            have hlu : (u : Int) < 4 := by omega
            have huo : (0 : Int) ≤ (u : Int) := by omega
            have F1 : w2.cell? ⟨b1, o1 + u * 2 + 1, none⟩ = some (.int .i64 bs[u].wn) := (B2.cell (p := ⟨b1, o1 + u * 2 + 1, none⟩) hlw).trans f1
            rw [Int.toNat_natCast, getD_at bs u hub] at HRN
            clear f0 f1 HGO
            generalize bs[u].wn = wu at *
            go_wp2_with fail
            refine wp_region_noPanic ?_
            refine wp_region_held_drew (S := fun w' => w'.cell? ⟨b1, o1 + k * 2 + 1, none⟩ = some (.int .i64 b.wn) ∧ w'.cell? ⟨b1, o1 + u * 2 + 1, none⟩ = some (.int .i64 wu)) (by kernel_rfl) (⟨by simpa using E1, by simpa using F1⟩) (fun hHeld => ?_)
            refine takeL 0 (.int .i64 (4 : Nat)) rfl (by kernel_rfl) (by kernel_rfl) (by kernel_rfl) (fun _ _ _ h => h) (Or.inl ⟨rfl, fun _ _ => rfl⟩) hHeld ?_
            try simp only [Act.put, List.setIfInBounds_toArray, List.set_cons_zero, List.set_cons_succ]
            refine takeL 1 (.bool true) rfl (by kernel_rfl) (by kernel_rfl) (by kernel_rfl) (fun _ _ _ h => h) (Or.inl ⟨rfl, fun w9 hSw => by go_simp⟩) hHeld ?_
            try simp only [Act.put, List.setIfInBounds_toArray, List.set_cons_zero, List.set_cons_succ]
            refine takeL 2 (.bool true) rfl (by kernel_rfl) (by kernel_rfl) (by kernel_rfl) (fun _ _ _ h => h) (Or.inl ⟨rfl, fun _ _ => rfl⟩) hHeld ?_
            try simp only [Act.put, List.setIfInBounds_toArray, List.set_cons_zero, List.set_cons_succ]
            refine takeL 3 (.int .i64 (u : Int)) rfl (by kernel_rfl) (by kernel_rfl) (by kernel_rfl) (fun _ _ _ h => h) (Or.inl ⟨rfl, fun _ _ => rfl⟩) hHeld ?_
            try simp only [Act.put, List.setIfInBounds_toArray, List.set_cons_zero, List.set_cons_succ]
            refine takeL 4 (.bool false) rfl (by kernel_rfl) (by kernel_rfl) (by kernel_rfl) (fun _ _ _ h => h) (Or.inl ⟨rfl, fun w9 hSw => by go_simp⟩) hHeld ?_
            try simp only [Act.put, List.setIfInBounds_toArray, List.set_cons_zero, List.set_cons_succ]
            refine takeL 5 (.bool false) rfl (by kernel_rfl) (by kernel_rfl) (by kernel_rfl) (fun _ _ _ h => h) (Or.inl ⟨rfl, fun _ _ => rfl⟩) hHeld ?_
            try simp only [Act.put, List.setIfInBounds_toArray, List.set_cons_zero, List.set_cons_succ]
            refine takeL 6 (.slice (some ⟨b1, o1, none⟩) 4 cap) rfl (by kernel_rfl) (by kernel_rfl) (by kernel_rfl) (fun _ _ _ h => h) (Or.inl ⟨rfl, fun _ _ => rfl⟩) hHeld ?_
            try simp only [Act.put, List.setIfInBounds_toArray, List.set_cons_zero, List.set_cons_succ]
            refine takeL 7 (.int .i64 k) rfl (by kernel_rfl) (by kernel_rfl) (by kernel_rfl) (fun _ _ _ h => h) (Or.inl ⟨rfl, fun _ _ => rfl⟩) hHeld ?_
            try simp only [Act.put, List.setIfInBounds_toArray, List.set_cons_zero, List.set_cons_succ]
            refine takeL 8 (.pointer (some ⟨b1, o1 + k * 2, none⟩)) rfl (by kernel_rfl) (by kernel_rfl) (by kernel_rfl) (fun _ _ _ h => h) (Or.inl ⟨rfl, fun w9 hSw => by go_simp⟩) hHeld ?_
            try simp only [Act.put, List.setIfInBounds_toArray, List.set_cons_zero, List.set_cons_succ]
            refine takeL 9 (.pointer (some ⟨b1, o1 + k * 2 + 1, none⟩)) rfl (by kernel_rfl) (by kernel_rfl) (by kernel_rfl) (fun _ _ _ h => h) (Or.inl ⟨rfl, fun w9 hSw => by go_simp⟩) hHeld ?_
            try simp only [Act.put, List.setIfInBounds_toArray, List.set_cons_zero, List.set_cons_succ]
            refine takeL 10 (.int .i64 b.wn) rfl (by kernel_rfl) (by kernel_rfl) (by kernel_rfl) (fun _ _ _ h => h) (Or.inl ⟨rfl, fun w9 hSw => by have hc := hSw.1; go_simp⟩) hHeld ?_
            try simp only [Act.put, List.setIfInBounds_toArray, List.set_cons_zero, List.set_cons_succ]
            refine takeL 11 (.slice (some ⟨b1, o1, none⟩) 4 cap) rfl (by kernel_rfl) (by kernel_rfl) (by kernel_rfl) (fun _ _ _ h => h) (Or.inl ⟨rfl, fun _ _ => rfl⟩) hHeld ?_
            try simp only [Act.put, List.setIfInBounds_toArray, List.set_cons_zero, List.set_cons_succ]
            refine takeL 12 (.int .i64 u) rfl (by kernel_rfl) (by kernel_rfl) (by kernel_rfl) (fun _ _ _ h => h) (Or.inl ⟨rfl, fun _ _ => rfl⟩) hHeld ?_
            try simp only [Act.put, List.setIfInBounds_toArray, List.set_cons_zero, List.set_cons_succ]
            refine takeL 13 (.pointer (some ⟨b1, o1 + u * 2, none⟩)) rfl (by kernel_rfl) (by kernel_rfl) (by kernel_rfl) (fun _ _ _ h => h) (Or.inl ⟨rfl, fun w9 hSw => by go_simp⟩) hHeld ?_
            try simp only [Act.put, List.setIfInBounds_toArray, List.set_cons_zero, List.set_cons_succ]
            refine takeL 14 (.pointer (some ⟨b1, o1 + u * 2 + 1, none⟩)) rfl (by kernel_rfl) (by kernel_rfl) (by kernel_rfl) (fun _ _ _ h => h) (Or.inl ⟨rfl, fun w9 hSw => by go_simp⟩) hHeld ?_
            try simp only [Act.put, List.setIfInBounds_toArray, List.set_cons_zero, List.set_cons_succ]
            refine takeL 15 (.int .i64 wu) rfl (by kernel_rfl) (by kernel_rfl) (by kernel_rfl) (fun _ _ _ h => h) (Or.inl ⟨rfl, fun w9 hSw => by have hc := hSw.2; go_simp⟩) hHeld ?_
            try simp only [Act.put, List.setIfInBounds_toArray, List.set_cons_zero, List.set_cons_succ]
            refine takeL 16 (.bool (decide (b.wn < wu))) rfl (by kernel_rfl) (by kernel_rfl) (by kernel_rfl) (fun _ _ _ h => h) (Or.inl ⟨rfl, fun w9 hSw => by go_simp⟩) hHeld ?_
            try simp only [Act.put, List.setIfInBounds_toArray, List.set_cons_zero, List.set_cons_succ]
            refine takeL 17 (.bool (decide (b.wn < wu))) rfl (by kernel_rfl) (by kernel_rfl) (by kernel_rfl) (fun _ _ _ h => h) (Or.inl ⟨rfl, fun w9 hSw => by go_simp⟩) hHeld ?_
            try simp only [Act.put, List.setIfInBounds_toArray, List.set_cons_zero, List.set_cons_succ]
            refine takeL 18 (.bool (decide (b.wn < wu))) rfl (by kernel_rfl) (by kernel_rfl) (by kernel_rfl) (fun _ _ _ h => h) (Or.inl ⟨rfl, fun w9 hSw => by go_simp⟩) hHeld ?_
            try simp only [Act.put, List.setIfInBounds_toArray, List.set_cons_zero, List.set_cons_succ]
            refine wpAnyH_done (by kernel_rfl) ?_ _
            refine NoPanic.normal ?_
            clear hHeld
            by_cases hm : b.wn < wu
            · have hd : decide (b.wn < wu) = true := by simpa using hm
              rw [if_pos ⟨by omega, .inr hm⟩] at HRN
              rw [hd]
              clear hm hd
              go_wp2
              go_roundw
              case rel => exact ⟨k + 1, k, by omega, by first | rfl | go_num, rfl, by omega, by omega, HRN, B2.drew⟩
              case measure => simp [intOf]; omega
            · have hd : decide (b.wn < wu) = false := by simpa using hm
              rw [if_neg (fun h => h.2.elim (fun h => by omega) hm)] at HRN
              rw [hd]
              clear hm hd
              go_wp2
              go_roundw
              case rel => exact ⟨k + 1, u, by omega, by first | rfl | go_num, rfl, by omega, by omega, HRN, B2.drew⟩
              case measure => simp [intOf]; omega
end Go.Proofs.YtbiokmojjneleaaGreat.SpecH

/-
  Plain lists: the last record of an address, what lives, steps, what they do, what happens. Nothing here walks the program.
-/
namespace Go.Proofs.YtbiokmojjneleaaGreat.Pl
open Go.ChangeShapes Go.WideShapes Go.ChangeAt Go.RowKit OkA Big Fl ImplB ImplF ImplS _root_.Go.Proofs.YtbiokmojjneleaaGreat.Own ImplT ImplU SpecA SpecB SpecC SpecD SpecW SpecF SpecG SpecH Ok2
set_option linter.unusedVariables false
set_option linter.unusedSimpArgs false

/-- A record. -/
structure Rc where
  k : Int
  s : Int
  a : Int
  v : Int
def zRc : Rc := ⟨0, 0, 0, 0⟩
def rcC (r : Rc) : List Value := [.int .i64 r.k, .int .i64 r.s, .int .i64 r.a, .int .i64 r.v]
def pgRc (p : Pg) : Rc := ⟨p.k, p.s, p.a, p.v⟩
def eqRc (r q : Rc) : Bool := r.k == q.k && r.s == q.s && r.a == q.a && r.v == q.v
theorem eqRc_iff (r q : Rc) : eqRc r q = true ↔ r = q := by
  cases r; cases q; simp [eqRc, and_assoc]
/-- The page is a later record of the address. -/
def laterB (addr : Int) (o : Rc) (p : Pg) : Bool := p.st == 1 && p.a == addr && decide (o.s < p.s)
def lastS (addr : Int) (o : Rc) (p : Pg) : Rc := if laterB addr o p then pgRc p else o
def lastP (addr : Int) (o : Rc) (ps : List Pg) : Rc := ps.foldl (lastS addr) o
def lastF (addr : Int) (o : Rc) (bs : List Bk) : Rc := bs.foldl (fun o b => lastP addr o b.ps) o
def lastR (bs : List Bk) (addr : Int) : Rc := lastF addr zRc bs
def lastO (bs : List Bk) (addr : Int) : Bool := decide (0 < (lastR bs addr).s)
theorem lastP_take (addr : Int) (o : Rc) (ps : List Pg) (j : Nat) (hj : j < ps.length) : lastP addr o (ps.take (j + 1)) = lastS addr (lastP addr o (ps.take j)) ps[j] := by
  unfold lastP
  rw [List.take_succ_eq_append_getElem hj, List.foldl_append]; rfl
theorem lastF_take (addr : Int) (o : Rc) (bs : List Bk) (j : Nat) (hj : j < bs.length) : lastF addr o (bs.take (j + 1)) = lastP addr (lastF addr o (bs.take j)) bs[j].ps := by
  unfold lastF
  rw [List.take_succ_eq_append_getElem hj, List.foldl_append]; rfl
/-- The page has the last record of its address. -/
def liveB (bs : List Bk) (p : Pg) : Bool := p.st == 1 && eqRc (lastR bs p.a) (pgRc p)

/-- A step. -/
structure Stp where
  kind : Int
  addr : Int
  val : Int
  blk : Int
  r : Rc
def stC (x : Stp) : List Value := [.int .i64 x.kind, .int .i64 x.addr, .int .i64 x.val, .int .i64 x.blk, .int .i64 x.r.k, .int .i64 x.r.s, .int .i64 x.r.a, .int .i64 x.r.v]
def stsC (l : List Stp) : List Value := l.flatMap stC
theorem len_stsC (l : List Stp) : (stsC l).length = l.length * 8 := by
  unfold stsC; induction l with
  | nil => rfl
  | cons x r ih => simp only [List.flatMap_cons, List.length_append, ih, List.length_cons, stC, List.length_nil]; omega
def zSt : Stp := ⟨0, 0, 0, 0, zRc⟩
def diskS (addr val : Int) : Stp := ⟨1, addr, val, 0, zRc⟩
def wipeS (b : Int) : Stp := ⟨2, 0, 0, b, zRc⟩
def writeS (b : Int) (r : Rc) : Stp := ⟨3, 0, 0, b, r⟩
/-- The slow disk is told what is dirty and lives on these pages. -/
def tellP (bs : List Bk) (ps : List Pg) : List Stp := ps.filterMap fun p => if liveB bs p && p.k == 1 then some (diskS p.a p.v) else none
def oldB (bs : List Bk) : Nat := oldN bs 3
def roomL (bs : List Bk) : List Stp := if (openR bs).2 then [] else tellP bs (bs.getD (oldB bs) zBk).ps ++ [wipeS (oldB bs)]
def roomB (bs : List Bk) : Int := if (openR bs).2 then (openR bs).1 else oldB bs
def roomO (bs : List Bk) : Bool := (openR bs).2 || decide ((bs.getD (oldB bs) zBk).wn < 200)
def writeP (bs : List Bk) (kind addr val : Int) : List Stp :=
  if roomO bs && recB kind (mostB bs + 1) addr val then roomL bs ++ [writeS (roomB bs) ⟨kind, mostB bs + 1, addr, val⟩] else []
def dirtyB (bs : List Bk) (addr : Int) : Bool := lastO bs addr && (lastR bs addr).k == 1
def readI (bs : List Bk) (dk : List Int) (addr : Int) : Int := if lastO bs addr then (lastR bs addr).v else dk.getD (addr - 1).toNat 0
def flushP (bs : List Bk) (dk : List Int) (addr : Int) : List Stp :=
  if inB addr 1 6 && dirtyB bs addr then (if (writeP bs 2 addr (readI bs dk addr)).isEmpty then [] else diskS addr (readI bs dk addr) :: writeP bs 2 addr (readI bs dk addr)) else []
def fillP (bs : List Bk) (dk : List Int) (addr : Int) : List Stp :=
  if inB addr 1 6 && !lastO bs addr then writeP bs 2 addr (dk.getD (addr - 1).toNat 0) else []

/-- A step that can be done without harm. -/
def stpB (x : Stp) : Bool := if x.kind = 1 then inB x.addr 1 6 else if x.kind = 2 then inB x.blk 0 3 else if x.kind = 3 then inB x.blk 0 3 && recB x.r.k x.r.s x.r.a x.r.v else true
def wrF (bs : List Bk) (k : Nat) (r : Rc) (torn : Bool) : List Bk := if wrN bs k r.s then bs else wrL bs k (pgW torn r.k r.s r.a r.v)
def wiF (bs : List Bk) (k : Nat) (torn : Bool) : List Bk := if wiN bs k then bs else wiL bs k torn
def doF (bs : List Bk) (x : Stp) (torn : Bool) : List Bk := if x.kind = 2 then wiF bs x.blk.toNat torn else if x.kind = 3 then wrF bs x.blk.toNat x.r torn else bs
def doD (dk : List Int) (x : Stp) (torn : Bool) : List Int := if x.kind = 1 then (if torn then dk else dk.set (x.addr - 1).toNat x.val) else dk
theorem okB_wrF (bs : List Bk) (k : Nat) (hk : k < 4) (hok : okB bs = true) (torn : Bool) (r : Rc) (hr : recB r.k r.s r.a r.v = true) : okB (wrF bs k r torn) = true := by
  unfold wrF
  cases h : wrN bs k r.s
  · exact okB_wr bs k hk hok torn _ _ _ _ hr h
  · exact hok
theorem okB_wiF (bs : List Bk) (k : Nat) (hk : k < 4) (hok : okB bs = true) (torn : Bool) : okB (wiF bs k torn) = true := by
  unfold wiF
  cases h : wiN bs k
  · exact okB_wi bs k hk hok torn h
  · exact hok
theorem okB_doF (bs : List Bk) (x : Stp) (torn : Bool) (hok : okB bs = true) (hx : stpB x = true) : okB (doF bs x torn) = true := by
  unfold doF; unfold stpB at hx
  by_cases h2 : x.kind = 2
  · rw [if_pos h2]
    rw [if_neg (by omega), if_pos h2] at hx
    simp [inB] at hx
    exact okB_wiF bs _ (by omega) hok torn
  · rw [if_neg h2]
    by_cases h3 : x.kind = 3
    · rw [if_pos h3]
      rw [if_neg (by omega), if_neg h2, if_pos h3] at hx
      simp [inB] at hx
      exact okB_wrF bs _ (by omega) hok torn _ hx.2
    · rw [if_neg h3]; exact hok
theorem len_doD (dk : List Int) (x : Stp) (torn : Bool) : (doD dk x torn).length = dk.length := by
  unfold doD; split
  · split <;> simp
  · rfl
def toF (bs : List Bk) : List Stp → List Bk | [] => bs | x :: r => toF (doF bs x false) r
def toD (dk : List Int) : List Stp → List Int | [] => dk | x :: r => toD (doD dk x false) r
end Go.Proofs.YtbiokmojjneleaaGreat.Pl
