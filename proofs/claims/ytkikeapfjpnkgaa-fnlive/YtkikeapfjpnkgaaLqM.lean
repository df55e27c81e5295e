/-
  Texts that belong together, one behind the other: LawsA, LawsB, LawsE, Lq.
-/
import Derived.Test.YtkikeapfjpnkgaaBaG
import Derived.Deep.RegionHeld3
import Derived.Deep.DrawnRows

/-
  The laws' helpers, for every list of blocks: how much there is of it; the same as the program's own blocks, in memory of its own.
-/
namespace Go.Proofs.Ytkikeapfjpnkgaa.LawsA
open Go.ChangeShapes Go.WideShapes Go.ChangeAt Go.RowKit OkA Big Fl ImplB ImplF ImplS _root_.Go.Proofs.Ytkikeapfjpnkgaa.Own ImplT ImplU SpecA SpecB
set_option linter.unusedVariables false
set_option linter.unusedSimpArgs false

/-! How much. -/
def szR (l : Int) (n : Nat) : Int := if l - n < 0 then -1 else l - n
/-- Where it is not below 0 there is not much. -/
def SzPost (w : World) (bs : List Bk) (e : Ending) (w' : World) : Prop := ∃ r : Int, e = .returned (.int .i64 r) ∧ -1 ≤ r ∧ r ≤ 1048576 ∧ (0 ≤ r → bs.length ≤ 1048576 ∧ ∀ b ∈ bs, b.ps.length ≤ 1048576) ∧ Below w.heap.size w w'
/-- No list is longer than memory. -/
def Fit (bs : List Bk) : Prop := (bs.length : Int) ≤ 9223372036854775807 ∧ ∀ b ∈ bs, (b.ps.length : Int) ≤ 9223372036854775807

theorem cell_top (w : World) (cs : Array Value) (T : TypeId) (n j : Nat) (v : Value) (h : n = w.heap.size) (hv : cs[j]? = some v) : (w.alloc (.cells cs T)).cell? ⟨n, j, none⟩ = some v := by
  rw [World.cell?_alloc_at cs T n j h, hv]
/-! The same as the program's blocks. -/
theorem zpg : (Try.prog.info? 33).bind (·.zero) = some (.agg (pgC zPg).toArray) := by kernel_rfl
theorem size_pg (p : Pg) : (Try.prog.info? 33).map (·.size) = some (pgC p).length := by rw [len_pgC]; kernel_rfl
theorem size_pga (p : Pg) : (Try.prog.info? 33).map (·.size) = some (pgC p).toArray.size := by rw [List.size_toArray, len_pgC]; kernel_rfl
theorem one_pg (p : Pg) : (pgC p).toArray.all (·.oneCell') = true := all_oneCell_toArray (one_pgC p)
theorem one_rec (k s a v : Int) : #[Value.int .i64 k, .int .i64 s, .int .i64 a, .int .i64 v].all (·.oneCell') = true := all_oneCell_toArray (cs := [.int .i64 k, .int .i64 s, .int .i64 a, .int .i64 v]) (by intro x hx; simp at hx; rcases hx with rfl | rfl | rfl | rfl <;> rfl)

def recC (p : Pg) : Array Value := #[.int .i64 p.k, .int .i64 p.s, .int .i64 p.a, .int .i64 p.v]
theorem one_recC (p : Pg) : (recC p).all (·.oneCell') = true := one_rec _ _ _ _
theorem size_recC (p : Pg) : (Try.prog.info? 25).map (·.size) = some (recC p).size := by show _ = some 4; kernel_rfl
theorem psC_take (ps : List Pg) (k : Nat) (hk : k < ps.length) : psC (ps.take (k + 1)) = psC (ps.take k) ++ pgC ps[k] := by
  rw [List.take_succ_eq_append_getElem hk]; simp only [psC, List.flatMap_append, List.flatMap_cons, List.flatMap_nil, List.append_nil]
theorem there_made (w : World) (z : Array Value) (n : Nat) (T : TypeId) : (w.alloc (.cells (madeCells z n) T)).there w.heap.size 0 n := by
  have := there_new w (madeCells z n).toList T
  rw [Array.length_toList, size_madeCells] at this
  exact this

/-- A row of pages in new memory. -/
def RowPost (w : World) (ps : List Pg) (e : Ending) (w' : World) : Prop := e = .returned (.slice (some ⟨w.heap.size, 0, none⟩) ps.length ps.length) ∧ w'.rangeAt w.heap.size 0 (psC ps) ∧ w'.there w.heap.size 0 (ps.length * 5) ∧ w.heap.size < w'.heap.size ∧ Below w.heap.size w w'

theorem here : True := trivial
end Go.Proofs.Ytkikeapfjpnkgaa.LawsA

/-
  The laws' helpers, for every list of blocks: a list of the program's own blocks out of the law's argument, in rows of its own; whether two lists of blocks are the same.
-/
namespace Go.Proofs.Ytkikeapfjpnkgaa.LawsB
open Go.ChangeShapes Go.WideShapes Go.ChangeAt Go.RowKit OkA Big Fl ImplB ImplF ImplS _root_.Go.Proofs.Ytkikeapfjpnkgaa.Own ImplT ImplU SpecA SpecB LawsA
set_option linter.unusedVariables false
set_option linter.unusedSimpArgs false
attribute [local go_sem ↓] Go.wp_at_zero Go.wp_at_succ

theorem three_new (w : World) (A B C : Array Value) (T1 T2 T3 : TypeId) : (∀ j v, A[j]? = some v → (((w.alloc (.cells A T1)).alloc (.cells B T2)).alloc (.cells C T3)).cell? ⟨w.heap.size, j, none⟩ = some v) ∧ (∀ j v, B[j]? = some v → (((w.alloc (.cells A T1)).alloc (.cells B T2)).alloc (.cells C T3)).cell? ⟨w.heap.size + 1, j, none⟩ = some v) ∧ (∀ j v, C[j]? = some v → (((w.alloc (.cells A T1)).alloc (.cells B T2)).alloc (.cells C T3)).cell? ⟨w.heap.size + 1 + 1, j, none⟩ = some v) ∧
    (∀ j, (((w.alloc (.cells A T1)).alloc (.cells B T2)).alloc (.cells C T3)).frozen? ⟨w.heap.size + 1, j, none⟩ = false) ∧ (∀ j, (((w.alloc (.cells A T1)).alloc (.cells B T2)).alloc (.cells C T3)).frozen? ⟨w.heap.size + 1 + 1, j, none⟩ = false) := by
  refine ⟨fun j v h => ?_, fun j v h => ?_, fun j v h => cell_top _ _ _ _ _ _ (by simp) h, fun j => ?_, fun j => ?_⟩
  · rw [World.cell?_alloc_lt _ _ _ (by simp; omega), World.cell?_alloc_lt _ _ _ (by simp)]; exact cell_top _ _ _ _ _ _ rfl h
  · rw [World.cell?_alloc_lt _ _ _ (by simp)]; exact cell_top _ _ _ _ _ _ (by simp) h
  · rw [World.frozen?_alloc_past _ _ _ (by simp)]; exact frozen_of_row _ _ _ B T2 (by have := heap_alloc_new (w.alloc (.cells A T1)) (.cells B T2); rwa [World.size_alloc] at this)
  · exact frozen_of_row _ _ _ C T3 (by have := heap_alloc_new ((w.alloc (.cells A T1)).alloc (.cells B T2)) (.cells C T3); rwa [World.size_alloc, World.size_alloc] at this)
def blkL (p n : Nat) (wn : Int) : List Value := [.slice (some ⟨p, 0, none⟩) n n, .int .i64 wn]
def BlkPost (w : World) (b : Bk) (e : Ending) (w' : World) : Prop := ∃ p, e = .returned (.agg (blkL p b.ps.length b.wn).toArray) ∧ w.heap.size ≤ p ∧ p < w'.heap.size ∧ w'.rangeAt p 0 (psC b.ps) ∧ w'.there p 0 (b.ps.length * 5) ∧ Below w.heap.size w w'
theorem size_blk (p n : Nat) (wn : Int) : (Try.prog.info? 36).map (·.size) = some (blkL p n wn).length := by show _ = some 2; kernel_rfl
theorem size_blka (p n : Nat) (wn : Int) : (Try.prog.info? 36).map (·.size) = some (blkL p n wn).toArray.size := by show _ = some 2; kernel_rfl
theorem one_blk (p n : Nat) (wn : Int) : (blkL p n wn).toArray.all (·.oneCell') = true := one_two rfl rfl

theorem here : True := trivial
end Go.Proofs.Ytkikeapfjpnkgaa.LawsB

/-
  The laws' helpers: whether two lists of blocks are the same: true of two that hold the same, wherever they lie.
-/
namespace Go.Proofs.Ytkikeapfjpnkgaa.LawsE
open Go.ChangeShapes Go.WideShapes Go.ChangeAt Go.RowKit OkA Big Fl ImplB ImplF ImplS _root_.Go.Proofs.Ytkikeapfjpnkgaa.Own ImplT ImplU SpecA SpecB LawsA LawsB
set_option linter.unusedVariables false
set_option linter.unusedSimpArgs false
attribute [local go_sem ↓] Go.wp_at_zero Go.wp_at_succ

theorem PsAt.drew {w : World} {a : Option Addr} {ps : List Pg} (h : PsAt w a ps) : PsAt w.drew a ps := h.below ((Below.refl _ _).drew)
theorem range_pg {w : World} {b o : Nat} {ps : List Pg} (h : w.rangeAt b o (psC ps)) (k : Nat) (hk : k < ps.length) : w.rangeAt b (o + k * 5) (pgC ps[k]) := by
  have := rangeAt_sub h (k * 5) 5
  rwa [part_ps ps k hk] at this

theorem blk_range {w : World} {b o : Nat} {x y : Value} (h0 : w.cell? ⟨b, o, none⟩ = some x) (h1 : w.cell? ⟨b, o + 1, none⟩ = some y) : w.rangeAt b o [x, y] := fun j v hv => by
  match j, hv with
  | 0, hv => (obtain rfl : v = x := by simpa using hv.symm); exact h0
  | 1, hv => (obtain rfl : v = y := by simpa using hv.symm); exact h1
  | n + 2, hv => simp at hv

theorem here : True := trivial
end Go.Proofs.Ytkikeapfjpnkgaa.LawsE

/-
  The laws' own comparing of pages and blocks: of the same content they say true.
-/
namespace Go.Proofs.Ytkikeapfjpnkgaa.Lq
open Go.ChangeShapes Go.WideShapes Go.ChangeAt Go.RowKit OkA Big Fl ImplB ImplF ImplS _root_.Go.Proofs.Ytkikeapfjpnkgaa.Own ImplT ImplU SpecA SpecB LawsA LawsB LawsE
set_option linter.unusedVariables false
set_option linter.unusedSimpArgs false
attribute [local go_sem ↓] Go.wp_at_zero Go.wp_at_succ

theorem size_pgq (p : Pg) : (Try.prog.info? 33).map (·.size) = some (pgC p).length := by rw [len_pgC]; kernel_rfl
set_option maxHeartbeats 1000000 in
theorem lqPages_same (a1 a2 : Option Addr) (cap1 cap2 : Nat) (ps : List Pg) (w : World) (h1 : PsAt w a1 ps) (h2 : PsAt w a2 ps) (hl : ps.length ≤ 1048576) :
    Calls Try.prog 19 #[.slice a1 ps.length cap1, .slice a2 ps.length cap2] w fun e w' => e = .returned (.bool true) ∧ Below w.heap.size w w' := by
  have H1 := hide h1
  have H2 := hide h2
  clear h1 h2
  generalize hn : ps.length = n at *
  have HN := hide hn
  clear hn
  have hli : (n : Int) ≤ 1048576 := by omega
  go_enter Try.func19, Try.ntmps19
  go_wp2
  go_loopw [5] (fun i w' => ∃ k : Nat, k ≤ n ∧ i = .int .i64 k ∧ Below w.heap.size w w') (fun i _ => n - (intOf i).toNat)
  case atStart => exact ⟨0, by omega, rfl, Below.refl _ _⟩
  case round =>
    obtain ⟨k, hk, rfl, bw⟩ := hrel
    by_cases h0 : k = n
    · subst h0
      go_wp2
      go_ret
      exact ⟨rfl, bw⟩
    · have hlt : (k : Int) < (n : Int) := by omega
      have hkb : k < ps.length := by have := unhide HN; omega
      have hlo : (0 : Int) ≤ (k : Int) := by omega
      obtain ⟨b1, o1, rfl, g1⟩ : ∃ b o, a1 = some ⟨b, o, none⟩ ∧ wr.rangeAt b o (psC ps) := by
        rcases (unhide H1).below bw with rfl | h
        · simp at hkb
        · exact h
      obtain ⟨b2, o2, rfl, g2⟩ : ∃ b o, a2 = some ⟨b, o, none⟩ ∧ wr.rangeAt b o (psC ps) := by
        rcases (unhide H2).below bw with rfl | h
        · simp at hkb
        · exact h
      have x1 := range_pg g1 k hkb
      have x2 := range_pg g2 k hkb
      clear g1 g2
      generalize ps[k] = p at *
      have HS1 := hide (size_pgq p)
      go_wp2_with fail
      refine wp_region_noPanic ?_
      refine wp_region_held_drew (S := fun w' => w'.rangeAt b1 (o1 + k * 5) (pgC p) ∧ w'.rangeAt b2 (o2 + k * 5) (pgC p)) (by kernel_rfl) (⟨by simpa using x1, by simpa using x2⟩) (fun hHeld => ?_)
      refine takeL 0 (.slice (some ⟨b1, o1, none⟩) n cap1) rfl (by kernel_rfl) (by kernel_rfl) (by kernel_rfl) (fun _ _ _ h => h) (Or.inl ⟨rfl, fun _ _ => rfl⟩) hHeld ?_
      try simp only [Act.put, List.setIfInBounds_toArray, List.set_cons_zero, List.set_cons_succ]
      refine takeL 1 (.int .i64 k) rfl (by kernel_rfl) (by kernel_rfl) (by kernel_rfl) (fun _ _ _ h => h) (Or.inl ⟨rfl, fun _ _ => rfl⟩) hHeld ?_
      try simp only [Act.put, List.setIfInBounds_toArray, List.set_cons_zero, List.set_cons_succ]
      refine takeL 2 (.pointer (some ⟨b1, o1 + k * 5, none⟩)) rfl (by kernel_rfl) (by kernel_rfl) (by kernel_rfl) (fun _ _ _ h => h) (Or.inl ⟨rfl, fun w9 hSw => by go_simp⟩) hHeld ?_
      try simp only [Act.put, List.setIfInBounds_toArray, List.set_cons_zero, List.set_cons_succ]
      refine takeL 3 (.agg #[.int .i64 p.st, .int .i64 p.k, .int .i64 p.s, .int .i64 p.a, .int .i64 p.v]) rfl (by kernel_rfl) (by kernel_rfl) (by kernel_rfl) (fun _ _ _ h => h) (yieldsIf_load_mid rfl 33 _ rfl b1 (o1 + k * 5) rfl (pgC p) _ (fun _ h => h.1) Try.underlying33 rfl (unhide HS1)) hHeld ?_
      try simp only [Act.put, List.setIfInBounds_toArray, List.set_cons_zero, List.set_cons_succ]
      refine takeL 4 (.slice (some ⟨b2, o2, none⟩) n cap2) rfl (by kernel_rfl) (by kernel_rfl) (by kernel_rfl) (fun _ _ _ h => h) (Or.inl ⟨rfl, fun _ _ => rfl⟩) hHeld ?_
      try simp only [Act.put, List.setIfInBounds_toArray, List.set_cons_zero, List.set_cons_succ]
      refine takeL 5 (.int .i64 k) rfl (by kernel_rfl) (by kernel_rfl) (by kernel_rfl) (fun _ _ _ h => h) (Or.inl ⟨rfl, fun _ _ => rfl⟩) hHeld ?_
      try simp only [Act.put, List.setIfInBounds_toArray, List.set_cons_zero, List.set_cons_succ]
      refine takeL 6 (.pointer (some ⟨b2, o2 + k * 5, none⟩)) rfl (by kernel_rfl) (by kernel_rfl) (by kernel_rfl) (fun _ _ _ h => h) (Or.inl ⟨rfl, fun w9 hSw => by go_simp⟩) hHeld ?_
      try simp only [Act.put, List.setIfInBounds_toArray, List.set_cons_zero, List.set_cons_succ]
      refine takeL 7 (.agg #[.int .i64 p.st, .int .i64 p.k, .int .i64 p.s, .int .i64 p.a, .int .i64 p.v]) rfl (by kernel_rfl) (by kernel_rfl) (by kernel_rfl) (fun _ _ _ h => h) (yieldsIf_load_mid rfl 33 _ rfl b2 (o2 + k * 5) rfl (pgC p) _ (fun _ h => h.2) Try.underlying33 rfl (unhide HS1)) hHeld ?_
      try simp only [Act.put, List.setIfInBounds_toArray, List.set_cons_zero, List.set_cons_succ]
      refine takeL 8 (.bool false) rfl (by kernel_rfl) (by kernel_rfl) (by kernel_rfl) (fun _ _ _ h => h) (Or.inl ⟨rfl, fun w9 hSw => by go_simp⟩) hHeld ?_
      try simp only [Act.put, List.setIfInBounds_toArray, List.set_cons_zero, List.set_cons_succ]
      refine wpAnyH_done (by kernel_rfl) ?_ _
      refine NoPanic.normal ?_
      clear hHeld x1 x2
      go_wp2
      go_roundw
      case rel => exact ⟨k + 1, by omega, by first | rfl | go_num, bw.drew⟩
      case measure => simp [intOf]; omega

set_option maxHeartbeats 1000000 in
theorem lqFlash_same (a1 a2 : Option Addr) (cap1 cap2 : Nat) (bs : List Bk) (w : World) (h1 : FsAt w a1 bs) (h2 : FsAt w a2 bs) (hl : bs.length ≤ 1048576) (hp : ∀ b ∈ bs, b.ps.length ≤ 1048576) :
    Calls Try.prog 16 #[.slice a1 bs.length cap1, .slice a2 bs.length cap2] w fun e w' => e = .returned (.bool true) ∧ Below w.heap.size w w' := by
  have H1 := hide h1
  have H2 := hide h2
  have HP := hide hp
  clear h1 h2 hp
  generalize hn : bs.length = n at *
  have HN := hide hn
  clear hn
  have hli : (n : Int) ≤ 1048576 := by omega
  go_enter Try.func16, Try.ntmps16
  go_wp2
  go_loopw [5] (fun i w' => ∃ k : Nat, k ≤ n ∧ i = .int .i64 k ∧ Below w.heap.size w w') (fun i _ => n - (intOf i).toNat)
  case atStart => exact ⟨0, by omega, rfl, Below.refl _ _⟩
  case round =>
    obtain ⟨k, hk, rfl, bw⟩ := hrel
    by_cases h0 : k = n
    · subst h0
      go_wp2
      go_ret
      exact ⟨rfl, bw⟩
    · have hlt : (k : Int) < (n : Int) := by omega
      have hkb : k < bs.length := by have := unhide HN; omega
      have hlo : (0 : Int) ≤ (k : Int) := by omega
      obtain ⟨b1, o1, rfl, g1⟩ : ∃ b o, a1 = some ⟨b, o, none⟩ ∧ ∀ i (hi : i < bs.length), BkAt wr b (o + i * 2) bs[i] := by
        rcases (unhide H1).below bw with rfl | h
        · simp at hkb
        · exact h
      obtain ⟨b2, o2, rfl, g2⟩ : ∃ b o, a2 = some ⟨b, o, none⟩ ∧ ∀ i (hi : i < bs.length), BkAt wr b (o + i * 2) bs[i] := by
        rcases (unhide H2).below bw with rfl | h
        · simp at hkb
        · exact h
      obtain ⟨p1, c1, d0, d1, q1⟩ := g1 k hkb
      obtain ⟨p2, c2, e0, e1, q2⟩ := g2 k hkb
      have l1 := cell_lt d0
      have l2 := cell_lt e0
      have HC := hide (fun (w : World) (h : PsAt w p1 bs[k].ps) (h' : PsAt w p2 bs[k].ps) => lqPages_same p1 p2 c1 c2 bs[k].ps w h h' (unhide HP _ (List.getElem_mem hkb)))
      clear g1 g2
      generalize bs[k] = b at *
      go_wp2_with fail
      refine wp_region_noPanic ?_
      refine wp_region_held_drew (S := fun w' => w'.cell? ⟨b1, o1 + k * 2, none⟩ = some (.slice p1 b.ps.length c1) ∧ w'.cell? ⟨b1, o1 + k * 2 + 1, none⟩ = some (.int .i64 b.wn) ∧ w'.cell? ⟨b2, o2 + k * 2, none⟩ = some (.slice p2 b.ps.length c2) ∧ w'.cell? ⟨b2, o2 + k * 2 + 1, none⟩ = some (.int .i64 b.wn)) (by kernel_rfl) (⟨by simpa using d0, by simpa using d1, by simpa using e0, by simpa using e1⟩) (fun hHeld => ?_)
      refine takeL 0 (.slice (some ⟨b1, o1, none⟩) n cap1) rfl (by kernel_rfl) (by kernel_rfl) (by kernel_rfl) (fun _ _ _ h => h) (Or.inl ⟨rfl, fun _ _ => rfl⟩) hHeld ?_
      try simp only [Act.put, List.setIfInBounds_toArray, List.set_cons_zero, List.set_cons_succ]
      refine takeL 1 (.int .i64 k) rfl (by kernel_rfl) (by kernel_rfl) (by kernel_rfl) (fun _ _ _ h => h) (Or.inl ⟨rfl, fun _ _ => rfl⟩) hHeld ?_
      try simp only [Act.put, List.setIfInBounds_toArray, List.set_cons_zero, List.set_cons_succ]
      refine takeL 2 (.pointer (some ⟨b1, o1 + k * 2, none⟩)) rfl (by kernel_rfl) (by kernel_rfl) (by kernel_rfl) (fun _ _ _ h => h) (Or.inl ⟨rfl, fun w9 hSw => by go_simp⟩) hHeld ?_
      try simp only [Act.put, List.setIfInBounds_toArray, List.set_cons_zero, List.set_cons_succ]
      refine takeL 3 (.pointer (some ⟨b1, o1 + k * 2 + 1, none⟩)) rfl (by kernel_rfl) (by kernel_rfl) (by kernel_rfl) (fun _ _ _ h => h) (Or.inl ⟨rfl, fun w9 hSw => by go_simp⟩) hHeld ?_
      try simp only [Act.put, List.setIfInBounds_toArray, List.set_cons_zero, List.set_cons_succ]
      refine takeL 4 (.int .i64 b.wn) rfl (by kernel_rfl) (by kernel_rfl) (by kernel_rfl) (fun _ _ _ h => h) (Or.inl ⟨rfl, fun w9 hSw => by have hc := hSw.2.1; go_simp⟩) hHeld ?_
      try simp only [Act.put, List.setIfInBounds_toArray, List.set_cons_zero, List.set_cons_succ]
      refine takeL 5 (.slice (some ⟨b2, o2, none⟩) n cap2) rfl (by kernel_rfl) (by kernel_rfl) (by kernel_rfl) (fun _ _ _ h => h) (Or.inl ⟨rfl, fun _ _ => rfl⟩) hHeld ?_
      try simp only [Act.put, List.setIfInBounds_toArray, List.set_cons_zero, List.set_cons_succ]
      refine takeL 6 (.int .i64 k) rfl (by kernel_rfl) (by kernel_rfl) (by kernel_rfl) (fun _ _ _ h => h) (Or.inl ⟨rfl, fun _ _ => rfl⟩) hHeld ?_
      try simp only [Act.put, List.setIfInBounds_toArray, List.set_cons_zero, List.set_cons_succ]
      refine takeL 7 (.pointer (some ⟨b2, o2 + k * 2, none⟩)) rfl (by kernel_rfl) (by kernel_rfl) (by kernel_rfl) (fun _ _ _ h => h) (Or.inl ⟨rfl, fun w9 hSw => by go_simp⟩) hHeld ?_
      try simp only [Act.put, List.setIfInBounds_toArray, List.set_cons_zero, List.set_cons_succ]
      refine takeL 8 (.pointer (some ⟨b2, o2 + k * 2 + 1, none⟩)) rfl (by kernel_rfl) (by kernel_rfl) (by kernel_rfl) (fun _ _ _ h => h) (Or.inl ⟨rfl, fun w9 hSw => by go_simp⟩) hHeld ?_
      try simp only [Act.put, List.setIfInBounds_toArray, List.set_cons_zero, List.set_cons_succ]
      refine takeL 9 (.int .i64 b.wn) rfl (by kernel_rfl) (by kernel_rfl) (by kernel_rfl) (fun _ _ _ h => h) (Or.inl ⟨rfl, fun w9 hSw => by have hc := hSw.2.2.2; go_simp⟩) hHeld ?_
      try simp only [Act.put, List.setIfInBounds_toArray, List.set_cons_zero, List.set_cons_succ]
      refine takeL 10 (.bool false) rfl (by kernel_rfl) (by kernel_rfl) (by kernel_rfl) (fun _ _ _ h => h) (Or.inl ⟨rfl, fun w9 hSw => by go_simp⟩) hHeld ?_
      try simp only [Act.put, List.setIfInBounds_toArray, List.set_cons_zero, List.set_cons_succ]
      refine takeL 11 (.bool false) rfl (by kernel_rfl) (by kernel_rfl) (by kernel_rfl) (fun _ _ _ h => h) (Or.inl ⟨rfl, fun _ _ => rfl⟩) hHeld ?_
      try simp only [Act.put, List.setIfInBounds_toArray, List.set_cons_zero, List.set_cons_succ]
      refine takeL 12 (.slice (some ⟨b1, o1, none⟩) n cap1) rfl (by kernel_rfl) (by kernel_rfl) (by kernel_rfl) (fun _ _ _ h => h) (Or.inl ⟨rfl, fun _ _ => rfl⟩) hHeld ?_
      try simp only [Act.put, List.setIfInBounds_toArray, List.set_cons_zero, List.set_cons_succ]
      refine takeL 13 (.int .i64 k) rfl (by kernel_rfl) (by kernel_rfl) (by kernel_rfl) (fun _ _ _ h => h) (Or.inl ⟨rfl, fun _ _ => rfl⟩) hHeld ?_
      try simp only [Act.put, List.setIfInBounds_toArray, List.set_cons_zero, List.set_cons_succ]
      refine takeL 14 (.pointer (some ⟨b1, o1 + k * 2, none⟩)) rfl (by kernel_rfl) (by kernel_rfl) (by kernel_rfl) (fun _ _ _ h => h) (Or.inl ⟨rfl, fun w9 hSw => by go_simp⟩) hHeld ?_
      try simp only [Act.put, List.setIfInBounds_toArray, List.set_cons_zero, List.set_cons_succ]
      refine takeL 15 (.pointer (some ⟨b1, o1 + k * 2, none⟩)) rfl (by kernel_rfl) (by kernel_rfl) (by kernel_rfl) (fun _ _ _ h => h) (Or.inl ⟨rfl, fun w9 hSw => by go_simp⟩) hHeld ?_
      try simp only [Act.put, List.setIfInBounds_toArray, List.set_cons_zero, List.set_cons_succ]
      refine takeL 16 (.slice p1 b.ps.length c1) rfl (by kernel_rfl) (by kernel_rfl) (by kernel_rfl) (fun _ _ _ h => h) (Or.inl ⟨rfl, fun w9 hSw => by have hc := hSw.1; go_simp⟩) hHeld ?_
      try simp only [Act.put, List.setIfInBounds_toArray, List.set_cons_zero, List.set_cons_succ]
      refine takeL 17 (.slice (some ⟨b2, o2, none⟩) n cap2) rfl (by kernel_rfl) (by kernel_rfl) (by kernel_rfl) (fun _ _ _ h => h) (Or.inl ⟨rfl, fun _ _ => rfl⟩) hHeld ?_
      try simp only [Act.put, List.setIfInBounds_toArray, List.set_cons_zero, List.set_cons_succ]
      refine takeL 18 (.int .i64 k) rfl (by kernel_rfl) (by kernel_rfl) (by kernel_rfl) (fun _ _ _ h => h) (Or.inl ⟨rfl, fun _ _ => rfl⟩) hHeld ?_
      try simp only [Act.put, List.setIfInBounds_toArray, List.set_cons_zero, List.set_cons_succ]
      refine takeL 19 (.pointer (some ⟨b2, o2 + k * 2, none⟩)) rfl (by kernel_rfl) (by kernel_rfl) (by kernel_rfl) (fun _ _ _ h => h) (Or.inl ⟨rfl, fun w9 hSw => by go_simp⟩) hHeld ?_
      try simp only [Act.put, List.setIfInBounds_toArray, List.set_cons_zero, List.set_cons_succ]
      refine takeL 20 (.pointer (some ⟨b2, o2 + k * 2, none⟩)) rfl (by kernel_rfl) (by kernel_rfl) (by kernel_rfl) (fun _ _ _ h => h) (Or.inl ⟨rfl, fun w9 hSw => by go_simp⟩) hHeld ?_
      try simp only [Act.put, List.setIfInBounds_toArray, List.set_cons_zero, List.set_cons_succ]
      refine takeL 21 (.slice p2 b.ps.length c2) rfl (by kernel_rfl) (by kernel_rfl) (by kernel_rfl) (fun _ _ _ h => h) (Or.inl ⟨rfl, fun w9 hSw => by have hc := hSw.2.2.1; go_simp⟩) hHeld ?_
      try simp only [Act.put, List.setIfInBounds_toArray, List.set_cons_zero, List.set_cons_succ]
      refine oneL 22 rfl (by kernel_rfl) rfl (fun K hK => ?_)
      go_simp
      refine (unhide HC _ (PsAt.drew q1) (PsAt.drew q2)).mono ?_
      rintro e wz ⟨rfl, bz⟩
      go_wp2_with fail
      refine hK.out _ _ ⟨by rw [bz.cell (p := ⟨b1, o1 + k * 2, none⟩) (by simpa using l1)]; exact hHeld.1, by rw [bz.cell (p := ⟨b1, o1 + k * 2 + 1, none⟩) (by simpa using l1)]; exact hHeld.2.1, by rw [bz.cell (p := ⟨b2, o2 + k * 2, none⟩) (by simpa using l2)]; exact hHeld.2.2.1, by rw [bz.cell (p := ⟨b2, o2 + k * 2 + 1, none⟩) (by simpa using l2)]; exact hHeld.2.2.2⟩ (fun hHeld => ?_)
      clear hK K
      try simp only [Act.put, List.setIfInBounds_toArray, List.set_cons_zero, List.set_cons_succ]
      refine takeL 23 (.bool false) rfl (by kernel_rfl) (by kernel_rfl) (by kernel_rfl) (fun _ _ _ h => h) (Or.inl ⟨rfl, fun w9 hSw => by go_simp⟩) hHeld ?_
      try simp only [Act.put, List.setIfInBounds_toArray, List.set_cons_zero, List.set_cons_succ]
      refine takeL 24 (.bool false) rfl (by kernel_rfl) (by kernel_rfl) (by kernel_rfl) (fun _ _ _ h => h) (Or.inl ⟨rfl, fun w9 hSw => by go_simp⟩) hHeld ?_
      try simp only [Act.put, List.setIfInBounds_toArray, List.set_cons_zero, List.set_cons_succ]
      refine wpAnyH_done (by kernel_rfl) ?_ _
      refine NoPanic.normal ?_
      have B2 := bw.drew.trans (bz.mono bw.size)
      clear bz bw d0 d1 e0 e1 hHeld q1 q2
      go_wp2
      go_roundw
      case rel => exact ⟨k + 1, by omega, by first | rfl | go_num, B2⟩
      case measure => simp [intOf]; omega
end Go.Proofs.Ytkikeapfjpnkgaa.Lq
