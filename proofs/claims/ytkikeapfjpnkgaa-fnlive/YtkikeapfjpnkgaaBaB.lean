/-
  Texts that belong together, one behind the other: Fl, ImplB.
-/
import Derived.Test.YtkikeapfjpnkgaaBaA

/-
  Pages and blocks as plain lists; what ok blocks are; where they lie in memory. Nothing here walks the program.
-/
namespace Go.Proofs.Ytkikeapfjpnkgaa.Fl
open Go.ChangeShapes Go.WideShapes Go.ChangeAt Go.RowKit OkA Big
set_option linter.unusedVariables false
set_option linter.unusedSimpArgs false

/-- A page: its state and its record. -/
structure Pg where
  st : Int
  k : Int
  s : Int
  a : Int
  v : Int
/-- A block: its pages, how often it was wiped. -/
structure Bk where
  ps : List Pg
  wn : Int

def pgC (p : Pg) : List Value := [.int .i64 p.st, .int .i64 p.k, .int .i64 p.s, .int .i64 p.a, .int .i64 p.v]
def psC (ps : List Pg) : List Value := ps.flatMap pgC
def bkC (b : Bk) : List Value := psC b.ps ++ [.int .i64 b.wn]
def fsC (bs : List Bk) : List Value := bs.flatMap bkC

theorem len_pgC (p : Pg) : (pgC p).length = 5 := rfl
theorem len_psC (ps : List Pg) : (psC ps).length = ps.length * 5 := by
  unfold psC; induction ps with
  | nil => rfl
  | cons p r ih => simp only [List.flatMap_cons, List.length_append, ih, len_pgC, List.length_cons]; omega
theorem len_bkC (b : Bk) (h : b.ps.length = 4) : (bkC b).length = 21 := by simp [bkC, len_psC, h]
/-- Four pages in each. -/
def Fours (bs : List Bk) : Prop := ∀ b ∈ bs, b.ps.length = 4
theorem Fours.tail {b : Bk} {bs : List Bk} (h : Fours (b :: bs)) : Fours bs := fun x hx => h x (by simp [hx])
theorem Fours.at {bs : List Bk} (h : Fours bs) (i : Nat) (hi : i < bs.length) : bs[i].ps.length = 4 := h _ (List.getElem_mem hi)
theorem len_fsC (bs : List Bk) (h : Fours bs) : (fsC bs).length = bs.length * 21 := by
  unfold fsC; induction bs with
  | nil => rfl
  | cons p r ih => simp only [List.flatMap_cons, List.length_append, ih h.tail, len_bkC p (h p (by simp)), List.length_cons]; omega

/-- A part out of parts of one length. -/
theorem part_of {α : Type} (f : α → List Value) (n : Nat) : ∀ (l : List α), (∀ x ∈ l, (f x).length = n) → ∀ (i : Nat) (hi : i < l.length), ((l.flatMap f).drop (i * n)).take n = f l[i]
  | [], _, i, hi => by simp at hi
  | x :: r, h, 0, _ => by
    have := h x (by simp)
    simp [this.symm]
  | x :: r, h, i + 1, hi => by
    have hx := h x (by simp)
    have ih := part_of f n r (fun y hy => h y (by simp [hy])) i (by simpa using hi)
    simp only [List.flatMap_cons, List.getElem_cons_succ]
    rw [← ih, Nat.add_mul, Nat.one_mul, Nat.add_comm (i * n) n, ← hx, List.drop_append, List.drop_eq_nil_of_le (by omega), Nat.add_sub_cancel_left, List.nil_append]
theorem part_ps (ps : List Pg) (i : Nat) (hi : i < ps.length) : ((psC ps).drop (i * 5)).take 5 = pgC ps[i] := part_of pgC 5 ps (fun _ _ => rfl) i hi
theorem part_fs (bs : List Bk) (h : Fours bs) (i : Nat) (hi : i < bs.length) : ((fsC bs).drop (i * 21)).take 21 = bkC bs[i] := part_of bkC 21 bs (fun b hb => len_bkC b (h b hb)) i hi
theorem extract_of (cs : List Value) (o n : Nat) (d : List Value) (h : (cs.drop o).take n = d) : cs.toArray.extract o (o + n) = d.toArray := by
  apply Array.ext'
  simp [← h]
theorem one_pgC (p : Pg) : ∀ v ∈ pgC p, v.oneCell' = true := by intro v hv; simp [pgC] at hv; rcases hv with rfl | rfl | rfl | rfl | rfl <;> rfl
theorem one_psC (ps : List Pg) : ∀ v ∈ psC ps, v.oneCell' = true := by
  intro v hv
  simp only [psC, List.mem_flatMap] at hv
  obtain ⟨p, _, h⟩ := hv
  exact one_pgC p v h
theorem one_bkC (b : Bk) : ∀ v ∈ bkC b, v.oneCell' = true := by
  intro v hv
  simp only [bkC, List.mem_append, List.mem_singleton] at hv
  rcases hv with h | rfl
  · exact one_psC _ v h
  · rfl
theorem one_fsC (bs : List Bk) : ∀ v ∈ fsC bs, v.oneCell' = true := by
  intro v hv
  simp only [fsC, List.mem_flatMap] at hv
  obtain ⟨p, _, h⟩ := hv
  exact one_bkC p v h

/-! What ok blocks are. -/
def clB (p : Pg) : Bool := p.st == 0
def wrB (p : Pg) : Bool := p.st == 1
def noB (p : Pg) : Bool := p.k == 0 && p.s == 0 && p.a == 0 && p.v == 0
def pgB (p : Pg) : Bool := if p.st = 1 then recB p.k p.s p.a p.v else if p.st = 0 then noB p else if p.st = 2 then noB p else false
/-- How many pages there are ahead of the clean ones at the end. -/
def usedN : List Pg → Nat
  | [] => 0
  | p :: r => if usedN r = 0 then (if clB p then 0 else 1) else usedN r + 1
/-- The clean ones stand behind all others. -/
def tailB : List Pg → Bool
  | [] => true
  | p :: r => (!clB p || r.all clB) && tailB r
def seqP (p : Pg) : Option Int := if p.st = 1 then some p.s else none
def seqsP (ps : List Pg) : List Int := ps.filterMap seqP
def seqs (bs : List Bk) : List Int := bs.flatMap fun b => seqsP b.ps
def nodB : List Int → Bool
  | [] => true
  | x :: r => !r.contains x && nodB r
def bkB (b : Bk) : Bool := b.ps.length == 4 && inB b.wn 0 200 && b.ps.all pgB && tailB b.ps
def okB (bs : List Bk) : Bool := bs.length == 4 && bs.all bkB && nodB (seqs bs)

theorem usedN_le (ps : List Pg) : usedN ps ≤ ps.length := by
  induction ps with
  | nil => simp [usedN]
  | cons p r ih =>
    simp only [usedN, List.length_cons]
    split
    · split <;> omega
    · omega
theorem usedN_zero (ps : List Pg) : usedN ps = 0 ↔ ps.all clB = true := by
  induction ps with
  | nil => simp [usedN]
  | cons p r ih =>
    simp only [usedN, List.all_cons, Bool.and_eq_true]
    by_cases h : usedN r = 0
    · rw [if_pos h]
      cases hc : clB p
      · simp
      · simp [ih.1 h]
    · rw [if_neg h]
      constructor
      · omega
      · rintro ⟨_, h2⟩; exact absurd (ih.2 h2) h
/-- What stands from the number on is clean; what stands just ahead is not. -/
theorem usedN_eq (ps : List Pg) (k : Nat) (hk : k ≤ ps.length) (h1 : ∀ j (hj : j < ps.length), k ≤ j → clB ps[j] = true) (h2 : 0 < k → ∀ hj : k - 1 < ps.length, clB ps[k - 1] = false) : usedN ps = k := by
  induction ps generalizing k with
  | nil => simp at hk; subst hk; rfl
  | cons p r ih =>
    cases k with
    | zero =>
      rw [usedN_zero]
      rw [List.all_eq_true]
      intro x hx
      obtain ⟨j, hj, rfl⟩ := List.getElem_of_mem hx
      exact h1 j hj (by omega)
    | succ k =>
      simp only [List.length_cons] at hk
      have ih' := ih k (by omega) (fun j hj hkj => by have := h1 (j + 1) (by simpa using hj) (by omega); simpa using this) (fun h0 hj => by
        have := h2 (by omega) (by simp; omega)
        obtain ⟨m, rfl⟩ : ∃ m, k = m + 1 := ⟨k - 1, by omega⟩
        simpa using this)
      simp only [usedN, ih']
      by_cases h : k = 0
      · subst h
        have := h2 (by omega) (by simp)
        simp at this
        simp [this]
      · rw [if_neg h]
theorem tailB_iff (ps : List Pg) : tailB ps = true ↔ ∀ i (hi : i < ps.length), i < usedN ps → clB ps[i] = false := by
  induction ps with
  | nil => simp [tailB]
  | cons p r ih =>
    simp only [tailB, Bool.and_eq_true, Bool.or_eq_true, Bool.not_eq_true']
    constructor
    · rintro ⟨h1, h2⟩ i hi hu
      cases i with
      | zero =>
        simp only [List.getElem_cons_zero]
        rcases h1 with h1 | h1
        · exact h1
        · have := (usedN_zero r).2 h1
          simp only [usedN, this, if_true] at hu
          cases hc : clB p
          · rfl
          · simp [hc] at hu
      | succ i =>
        simp only [List.getElem_cons_succ]
        refine ih.1 h2 i (by simpa using hi) ?_
        simp only [usedN] at hu
        split at hu
        · split at hu <;> omega
        · omega
    · intro h
      refine ⟨?_, ih.2 fun i hi hu => ?_⟩
      · by_cases h0 : usedN r = 0
        · exact .inr ((usedN_zero r).1 h0)
        · have := h 0 (by simp) (by simp only [usedN]; rw [if_neg h0]; omega)
          exact .inl (by simpa using this)
      · have := h (i + 1) (by simpa using hi) (by simp only [usedN]; rw [if_neg (by omega)]; omega)
        simpa using this
theorem nodB_iff (l : List Int) : nodB l = true ↔ l.Nodup := by
  induction l with
  | nil => simp [nodB]
  | cons x r ih => simp [nodB, ih]

/-! Where they lie. -/
/-- The cells of a list of pages, from a place on. -/
def PsAt (w : World) (a : Option Addr) (ps : List Pg) : Prop := ps = [] ∨ ∃ b o, a = some ⟨b, o, none⟩ ∧ w.rangeAt b o (psC ps)
def BkAt (w : World) (b o : Nat) (x : Bk) : Prop := ∃ a cap, w.cell? ⟨b, o, none⟩ = some (.slice a x.ps.length cap) ∧ w.cell? ⟨b, o + 1, none⟩ = some (.int .i64 x.wn) ∧ PsAt w a x.ps
def FsAt (w : World) (a : Option Addr) (bs : List Bk) : Prop := bs = [] ∨ ∃ b o, a = some ⟨b, o, none⟩ ∧ ∀ i (hi : i < bs.length), BkAt w b (o + i * 2) bs[i]

theorem cell_lt {w : World} {b o : Nat} {v : Value} (h : w.cell? ⟨b, o, none⟩ = some v) : b < w.heap.size := by
  by_cases hb : b < w.heap.size
  · exact hb
  · exfalso
    have : w.heap[b]? = none := by simp; omega
    simp [World.cell?, this] at h
theorem PsAt.below {w w' : World} {a : Option Addr} {ps : List Pg} (h : PsAt w a ps) (hb : Below w.heap.size w w') : PsAt w' a ps := by
  rcases h with h | ⟨b, o, rfl, h⟩
  · exact .inl h
  · cases ps with
    | nil => exact .inl rfl
    | cons p r =>
      have : b < w.heap.size := cell_lt (h 0 (.int .i64 p.st) rfl)
      exact .inr ⟨b, o, rfl, rangeAt_below h hb this⟩
theorem BkAt.below {w w' : World} {b o : Nat} {x : Bk} (h : BkAt w b o x) (hb : Below w.heap.size w w') : BkAt w' b o x := by
  obtain ⟨a, cap, h0, h1, h2⟩ := h
  have hlt := cell_lt h0
  exact ⟨a, cap, by rw [hb.cell (p := ⟨b, o, none⟩) hlt]; exact h0, by rw [hb.cell (p := ⟨b, o + 1, none⟩) hlt]; exact h1, h2.below hb⟩
theorem FsAt.below {w w' : World} {a : Option Addr} {bs : List Bk} (h : FsAt w a bs) (hb : Below w.heap.size w w') : FsAt w' a bs := by
  rcases h with h | ⟨b, o, rfl, h⟩
  · exact .inl h
  · exact .inr ⟨b, o, rfl, fun i hi => (h i hi).below hb⟩
/-- The five cells of a page, as the walk reckons their places. -/
theorem PsAt.cells {w : World} {b o : Nat} {ps : List Pg} (h : w.rangeAt b o (psC ps)) (i : Nat) (hi : i < ps.length) :
    w.cell? ⟨b, o + i * 5, none⟩ = some (.int .i64 ps[i].st) ∧ w.cell? ⟨b, o + i * 5 + 1, none⟩ = some (.int .i64 ps[i].k) ∧ w.cell? ⟨b, o + i * 5 + 2, none⟩ = some (.int .i64 ps[i].s) ∧ w.cell? ⟨b, o + i * 5 + 3, none⟩ = some (.int .i64 ps[i].a) ∧ w.cell? ⟨b, o + i * 5 + 4, none⟩ = some (.int .i64 ps[i].v) := by
  have := rangeAt_sub h (i * 5) 5
  rw [part_ps ps i hi] at this
  exact ⟨this 0 _ rfl, this 1 _ rfl, this 2 _ rfl, this 3 _ rfl, this 4 _ rfl⟩
end Go.Proofs.Ytkikeapfjpnkgaa.Fl

/-
  The program's functions on one block, for every block of four pages: how many pages are written or torn ahead of the clean ones; whether a page is ok; whether the block is.
-/
namespace Go.Proofs.Ytkikeapfjpnkgaa.ImplB
open Go.ChangeShapes Go.WideShapes Go.ChangeAt Go.RowKit OkA Big Fl
set_option linter.unusedVariables false
set_option linter.unusedSimpArgs false

theorem range_bk {w : World} {b d : Nat} {x : Bk} (h : w.rangeAt b d (bkC x)) : w.rangeAt b d (psC x.ps) := fun j v hv => h j v (by
  unfold bkC; rw [List.getElem?_append_left (by exact (List.getElem?_eq_some_iff.1 hv).1)]; exact hv)
theorem worn_bk {w : World} {b d : Nat} {x : Bk} (h4 : x.ps.length = 4) (h : w.rangeAt b d (bkC x)) : w.cell? ⟨b, d + 20, none⟩ = some (.int .i64 x.wn) := h 20 _ (by
  unfold bkC; rw [List.getElem?_append_right (by rw [len_psC, h4]; exact Nat.le_refl _)]; simp [len_psC, h4])

set_option maxHeartbeats 400000 in
theorem used_any (b : Bk) (h4 : b.ps.length = 4) (w : World) :
    Calls Try.prog 53 #[.agg (bkC b).toArray] w fun e w' => e = .returned (.int .i64 (usedN b.ps)) ∧ Below w.heap.size w w' := by
  have hc : ∀ i, (hi : i < 4) → (w.alloc (.cells (bkC b).toArray 73)).cell? ⟨w.heap.size, i * 5, none⟩ = some (.int .i64 (b.ps[i]'(by omega)).st) := fun i hi => by
    have h1 := (PsAt.cells (range_bk (rangeAt_new w (bkC b) 73)) i (by omega)).1
    simpa using h1
  have HC := hide hc
  clear hc
  go_enter Try.func53, Try.ntmps53
  go_wp2_with (first | (refine wpList_box_big rfl _ _ rfl (bkC b).toArray rfl ?_))
  go_loop [3] (fun u => ∃ k : Nat, k ≤ 4 ∧ u = .int .i64 k ∧ Hid (∀ j (hj : j < b.ps.length), k ≤ j → clB b.ps[j] = true)) (fun u => (intOf u).toNat)
  case atStart => exact ⟨4, by omega, rfl, fun j hj h => by omega⟩
  case round =>
    obtain ⟨k, hk, rfl, hcl⟩ := hrel
    by_cases h0 : k = 0
    · subst h0
      go_wp2
      go_ret
      rw [usedN_eq b.ps 0 (by omega) hcl.out (by omega)]
      exact ⟨rfl, (Below.refl _ _).alloc (Nat.le_refl _) _⟩
    · obtain ⟨m, rfl⟩ : ∃ m, k = m + 1 := ⟨k - 1, by omega⟩
      have hp : (0 : Int) < ((m + 1 : Nat) : Int) := by omega
      have hcm := unhide HC m (by omega)
      have e1 : ((m + 1 : Nat) : Int) - 1 = (m : Int) := by omega
      cases hq : clB (b.ps[m]'(by omega))
      · have hq' : ((b.ps[m]'(by omega)).st == 0) = false := hq
        have HQ := hide hq
        clear hq
        go_wp2
        go_ret
        rw [usedN_eq b.ps (m + 1) (by omega) hcl.out (fun _ _ => by simpa using unhide HQ)]
        exact ⟨rfl, (Below.refl _ _).alloc (Nat.le_refl _) _⟩
      · have hq' : ((b.ps[m]'(by omega)).st == 0) = true := hq
        have HQ := hide hq
        clear hq
        go_wp2
        go_round
        case rel =>
          refine ⟨m, by omega, rfl, fun j hj h => ?_⟩
          by_cases e : j = m
          · subst e; exact unhide HQ
          · exact hcl.out j hj (by omega)
        case measure => simp [intOf]

theorem noB_eq (p : Pg) : noB p = (p.k == 0 && p.s == 0 && p.a == 0 && p.v == 0) := rfl

set_option maxHeartbeats 400000 in
theorem pageOk_any (p : Pg) (w : World) :
    Calls Try.prog 119 #[.agg #[.int .i64 p.st, .int .i64 p.k, .int .i64 p.s, .int .i64 p.a, .int .i64 p.v]] w fun e w' => e = .returned (.bool (pgB p)) ∧ Below w.heap.size w w' := by
  obtain ⟨st, k, s, x, v⟩ := p
  by_cases h1 : st = 1
  · subst h1
    go_enter Try.func119, Try.ntmps119
    go_wp2_with fail
    refine (recOk_any _ _ _ _ _).mono ?_
    rintro e w1 ⟨rfl, b1⟩
    go_wp2
    go_ret
    exact ⟨rfl, ((Below.refl _ _).alloc (Nat.le_refl _) _).trans (b1.mono (by simp))⟩
  by_cases h0 : st = 0
  · subst h0
    go_enter Try.func119, Try.ntmps119
    go_wp2
    all_goals
      go_ret
      refine ⟨?_, (Below.refl _ _).alloc (Nat.le_refl _) _⟩
      simp [pgB, noB, *]
  by_cases h2 : st = 2
  · subst h2
    go_enter Try.func119, Try.ntmps119
    go_wp2
    all_goals
      go_ret
      refine ⟨?_, (Below.refl _ _).alloc (Nat.le_refl _) _⟩
      simp [pgB, noB, *]
  · have hb : pgB ⟨st, k, s, x, v⟩ = false := by simp [pgB, h0, h1, h2]
    rw [hb]
    clear hb
    have g1 : (st == 1) = false := by simpa using h1
    have g0 : (st == 0) = false := by simpa using h0
    have g2 : (st == 2) = false := by simpa using h2
    clear h0 h1 h2
    go_enter Try.func119, Try.ntmps119
    go_wp2
    go_ret
    exact ⟨rfl, (Below.refl _ _).alloc (Nat.le_refl _) _⟩
theorem bkB_good (b : Bk) (h4 : b.ps.length = 4) (h : ∀ j (hj : j < b.ps.length), pgB b.ps[j] = true ∧ (j < usedN b.ps → clB b.ps[j] = false)) : bkB b = inB b.wn 0 200 := by
  have h1 : b.ps.all pgB = true := List.all_eq_true.2 fun x hx => by
    obtain ⟨j, hj, rfl⟩ := List.getElem_of_mem hx
    exact (h j hj).1
  have h2 : tailB b.ps = true := (tailB_iff _).2 fun i hi => (h i hi).2
  simp [bkB, h4, h1, h2]
theorem bkB_bad (b : Bk) (j : Nat) (hj : j < b.ps.length) (h : pgB b.ps[j] = false ∨ (j < usedN b.ps ∧ clB b.ps[j] = true)) : bkB b = false := by
  cases hb : bkB b
  · rfl
  · simp only [bkB, Bool.and_eq_true, List.all_eq_true, tailB_iff] at hb
    rcases h with h | ⟨h, g⟩
    · rw [hb.1.2 _ (List.getElem_mem hj)] at h; cases h
    · rw [hb.2 j hj h] at g; cases g

set_option maxHeartbeats 1000000 in
theorem blockOk_any (b : Bk) (h4 : b.ps.length = 4) (w : World) :
    Calls Try.prog 104 #[.agg (bkC b).toArray] w fun e w' => e = .returned (.bool (bkB b)) ∧ Below w.heap.size w w' := by
  have r0 := rangeAt_new w (bkC b) 73
  have hu := usedN_le b.ps
  go_enter Try.func104, Try.ntmps104
  go_wp2_with (first | (refine wpList_box_big rfl _ _ rfl (bkC b).toArray rfl ?_) | (refine wpList_load_mid rfl 73 _ rfl w.heap.size 0 rfl (bkC b) _ r0 Try.underlying73 rfl (by rw [len_bkC b h4]; kernel_rfl) ?_))
  refine (used_any b h4 _).mono ?_
  rintro e w1 ⟨rfl, b1⟩
  have r1 := rangeAt_below r0 b1 (by simp)
  have r2 := range_bk r1
  have c20 := worn_bk h4 r1
  have B1 : Below w.heap.size w w1 := ((Below.refl _ _).alloc (Nat.le_refl _) _).trans (b1.mono (by simp))
  have s1 : w.heap.size < w1.heap.size := by have := b1.size; simp at this; omega
  simp only [Nat.zero_add] at c20
  clear r0 b1
  go_wp2_with (first | (refine wpList_load_mid rfl 69 _ rfl w.heap.size 0 rfl (psC b.ps) _ r2 Try.underlying69 rfl (by rw [len_psC, h4]; kernel_rfl) ?_))
  go_loopw [11] (fun i w' => ∃ k : Nat, k ≤ 4 ∧ i = .int .i64 k ∧ Hid (∀ j (hj : j < b.ps.length), j < k → pgB b.ps[j] = true ∧ (j < usedN b.ps → clB b.ps[j] = false)) ∧ Below w1.heap.size w1 w') (fun i _ => 4 - (intOf i).toNat)
  case atStart => exact ⟨0, by omega, rfl, fun j hj h => by omega, Below.refl _ _⟩
  case round =>
    obtain ⟨k, hk, rfl, hg, bw⟩ := hrel
    have hsz := bw.size
    by_cases h0 : k = 4
    · subst h0
      have c20' := c20
      rw [← bw.cell (p := ⟨w.heap.size, 20, none⟩) s1] at c20'
      clear r1 r2 c20
      have HG := hide (bkB_good b h4 (fun j hj => hg.out j hj (by omega)))
      go_wp2_with (go_at_call 57; refine (within_any _ _ _ _).mono ?_; rintro e w' ⟨rfl, rfl⟩)
      go_ret
      exact ⟨by rw [unhide HG]; rfl, B1.trans (bw.mono (by omega))⟩
    · have hlt : (k : Int) < 4 := by omega
      have hk5 : k < b.ps.length := by omega
      have hex : (psC b.ps).toArray.extract ((k : Int).toNat * 5) ((k : Int).toNat * 5 + 5) = #[.int .i64 (b.ps[k]).st, .int .i64 (b.ps[k]).k, .int .i64 (b.ps[k]).s, .int .i64 (b.ps[k]).a, .int .i64 (b.ps[k]).v] := by
        simp only [Int.toNat_natCast]
        exact extract_of _ _ _ _ (part_ps b.ps k hk5)
      have hp := pageOk_any b.ps[k]
      have hlo : (0 : Int) ≤ (k : Int) := by omega
      have HE := hide hex
      have HP := hide hp
      have HB := hide (bkB_bad b k hk5)
      have hst : clB b.ps[k] = (b.ps[k].st == 0) := rfl
      have HS := hide hst
      clear hex hp hst r1 r2 c20
      generalize hpk : b.ps[k] = p at *
      have HPK := hide hpk
      clear hpk
      go_wp2_with (first | (refine wpList_index_big rfl 69 _ _ rfl (psC b.ps).toArray _ (k : Int) rfl rfl 33 4 5 _ Try.underlying69 Try.underlying33 rfl (by kernel_rfl) hlo hlt (unhide HE) ?_))
      refine (unhide HP _).mono ?_
      rintro e w2 ⟨rfl, b2⟩
      have c0 : w2.cell? ⟨wr.heap.size, 0, none⟩ = some (.int .i64 p.st) := by rw [b2.cell (p := ⟨wr.heap.size, 0, none⟩) (by simp)]; simp
      have B2 : Below w1.heap.size w1 w2 := bw.trans (((Below.refl _ _).alloc hsz _).trans (b2.mono (by simp; omega)))
      cases hpg : pgB p
      · have HB' := hide ((unhide HB) (.inl hpg))
        clear b2
        go_wp2
        go_ret
        exact ⟨by rw [unhide HB']; rfl, B1.trans (B2.mono (by omega))⟩
      · by_cases hlu : k < usedN b.ps
        · have hlu' : (k : Int) < (usedN b.ps : Int) := by omega
          cases hcl : clB p
          · have hcl' : (p.st == 0) = false := (unhide HS).symm.trans hcl
            have HCL := hide hcl
            have HPG := hide hpg
            clear b2 hcl hpg
            go_wp2
            go_roundw
            case rel =>
              refine ⟨k + 1, by omega, by first | rfl | go_num, fun j hj h => ?_, B2⟩
              by_cases e : j = k
              · subst e; rw [unhide HPK]; exact ⟨unhide HPG, fun _ => unhide HCL⟩
              · exact hg.out j hj (by omega)
            case measure => simp [intOf]; omega
          · have hcl' : (p.st == 0) = true := (unhide HS).symm.trans hcl
            have HB' := hide ((unhide HB) (.inr ⟨hlu, hcl⟩))
            clear b2 hcl hpg
            go_wp2
            go_ret
            exact ⟨by rw [unhide HB']; rfl, B1.trans (B2.mono (by omega))⟩
        · have hlu' : ¬ (k : Int) < (usedN b.ps : Int) := by omega
          have HPG := hide hpg
          clear b2 hpg
          go_wp2
          go_roundw
          case rel =>
            refine ⟨k + 1, by omega, by first | rfl | go_num, fun j hj h => ?_, B2⟩
            by_cases e : j = k
            · subst e; rw [unhide HPK]; exact ⟨unhide HPG, fun h => absurd h hlu⟩
            · exact hg.out j hj (by omega)
          case measure => simp [intOf]; omega
end Go.Proofs.Ytkikeapfjpnkgaa.ImplB
