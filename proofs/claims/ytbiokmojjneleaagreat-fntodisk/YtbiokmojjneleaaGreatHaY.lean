/-
  Texts that belong together, one behind the other: Mark, LawV.
-/
import Derived.Test.YtbiokmojjneleaaGreatHaF
import Derived.Test.YtbiokmojjneleaaGreatRaH

/-
  The laws' marks: numbers laid into every cell of blocks that stand in rows of their own, and looked for again.
-/
namespace Go.Proofs.YtbiokmojjneleaaGreat.MarkB
open Go.ChangeShapes Go.WideShapes Go.ChangeAt Go.RowKit OkA Big Fl ImplB ImplF ImplS _root_.Go.Proofs.YtbiokmojjneleaaGreat.Own ImplT ImplU SpecA SpecB SpecC SpecD
set_option linter.unusedVariables false
set_option linter.unusedSimpArgs false

def mkP (m : Int) : Pg := ⟨m, m + 1, m + 2, m + 3, m + 4⟩
def mkPs (n : Nat) (k : Int) : List Pg := (List.range n).map fun i => mkP (k + 5 * (i : Nat))
def mkB (m : Int) : Bk := ⟨mkPs 4 m, m + 20⟩
def mkBs (n : Nat) (k : Int) : List Bk := (List.range n).map fun i => mkB (k + 21 * (i : Nat))
theorem mkPs_len (n : Nat) (k : Int) : (mkPs n k).length = n := by simp [mkPs]
theorem mkBs_len (n : Nat) (k : Int) : (mkBs n k).length = n := by simp [mkBs]
theorem mkPs_succ (n : Nat) (k : Int) : mkPs (n + 1) k = mkPs n k ++ [mkP (k + 5 * (n : Nat))] := by simp [mkPs, List.range_succ]
theorem mkBs_succ (n : Nat) (k : Int) : mkBs (n + 1) k = mkBs n k ++ [mkB (k + 21 * (n : Nat))] := by simp [mkBs, List.range_succ]
theorem mkPs_at (n : Nat) (k : Int) (i : Nat) (hi : i < (mkPs n k).length) : (mkPs n k)[i] = mkP (k + 5 * (i : Nat)) := by simp [mkPs]
theorem mkBs_at (n : Nat) (k : Int) (i : Nat) (hi : i < (mkBs n k).length) : (mkBs n k)[i] = mkB (k + 21 * (i : Nat)) := by simp [mkBs]
theorem setCells_append (b : Nat) : ∀ (x y : List Value) (d : Nat) (w : World), w.setCells b d (x ++ y) = (w.setCells b d x).setCells b (d + x.length) y
  | [], _, _, _ => rfl
  | v :: r, y, d, w => by
    simp only [List.cons_append, World.setCells, List.length_cons]
    rw [setCells_append b r y (d + 1), show d + 1 + r.length = d + (r.length + 1) by omega]
theorem mark_step (w : World) (pb j : Nat) (k : Int) : w.setCells pb 0 (psC (mkPs (j + 1) k)) =
    (((((w.setCells pb 0 (psC (mkPs j k))).setCell ⟨pb, j * 5, none⟩ (.int .i64 (k + 5 * (j : Nat)))).setCell ⟨pb, j * 5 + 1, none⟩ (.int .i64 (k + 5 * (j : Nat) + 1))).setCell ⟨pb, j * 5 + 2, none⟩ (.int .i64 (k + 5 * (j : Nat) + 2))).setCell ⟨pb, j * 5 + 3, none⟩ (.int .i64 (k + 5 * (j : Nat) + 3))).setCell ⟨pb, j * 5 + 4, none⟩ (.int .i64 (k + 5 * (j : Nat) + 4)) := by
  have e : psC (mkPs (j + 1) k) = psC (mkPs j k) ++ pgC (mkP (k + 5 * (j : Nat))) := by rw [mkPs_succ]; simp [psC]
  rw [e, setCells_append, len_psC, mkPs_len, Nat.zero_add]
  rfl
theorem there_some {w : World} {b o n : Nat} (h : w.there b o n) (j : Nat) (hj : j < n) : ∃ v, w.cell? ⟨b, o + j, none⟩ = some v := Option.isSome_iff_exists.1 (h j hj).1

/-- A block is laid over a block. -/
theorem _root_.Go.Proofs.YtbiokmojjneleaaGreat.Own.Own.block {w : World} {lo g n : Nat} {G : List Nat} {bs : List Bk} (h : Own w lo g G bs n) (k : Nat) (hk : k < bs.length) (ps : List Pg) (hl : ps.length = bs[k].ps.length) (wn : Int) :
    Own ((w.setCells (G[k]'(by have := h.len; omega)) 0 (psC ps)).setCells g (k * 2 + 1) [.int .i64 wn]) lo g G (bs.set k ⟨ps, wn⟩) n := by
  have hlen := h.len
  have hGg : ∀ i (hi : i < G.length), G[i] ≠ g := fun i hi e => (List.nodup_cons.1 h.nd).1 (e ▸ List.getElem_mem hi)
  have hGG : ∀ i (hi : i < G.length), i ≠ k → G[i] ≠ G[k]'(by omega) := fun i hi hne e => by
    have hp := List.pairwise_iff_getElem.1 (List.nodup_cons.1 h.nd).2
    rcases Nat.lt_or_gt_of_ne hne with q | q
    · exact hp i k hi (by omega) q e
    · exact hp k i (by omega) hi q e.symm
  have hfit := h.fit
  have tk : w.there (G[k]'(by omega)) 0 (psC ps).length := by rw [len_psC, hl]; exact h.free k hk
  have tg : (w.setCells (G[k]'(by omega)) 0 (psC ps)).there g (k * 2 + 1) 1 := by
    have := there_sub (World.there_setCells h.room (G[k]'(by omega)) 0 (psC ps)) (k * 2 + 1) 1 (by omega)
    simpa using this
  refine ⟨by simp [hlen], h.nd, h.lo, fun x hx => by rw [size_setCells, size_setCells]; exact h.hi x hx, by simpa using h.fit, World.there_setCells (World.there_setCells h.room _ _ _) _ _ _, fun i hi => ?_, fun i hi => ?_, fun i hi => ?_, fun i hi => ?_, fun i hi a m c hc => h.caps i (by simpa using hi) a m c (by simp only [List.length_set] at hi; rw [cell_setCells_ne (.inr (by simp; omega)), cell_setCells_ne (.inl (hGg k (by omega)).symm)] at hc; exact hc)⟩
  · simp only [List.length_set] at hi
    obtain ⟨c, hc⟩ := h.out i hi
    refine ⟨c, ?_⟩
    rw [cell_setCells_ne (.inr (by simp; omega)), cell_setCells_ne (.inl (hGg k (by omega)).symm), hc]
    by_cases e : i = k
    · subst e; simp [hl]
    · rw [List.getElem_set_ne (fun q => e q.symm)]
  · simp only [List.length_set] at hi
    by_cases e : i = k
    · subst e
      have := cell_setCells_eq (vs := [.int .i64 wn]) tg 0 (by simp)
      simpa using this
    · rw [cell_setCells_ne (.inr (by simp; omega)), cell_setCells_ne (.inl (hGg k (by omega)).symm), List.getElem_set_ne (fun q => e q.symm)]
      exact h.worn i hi
  · simp only [List.length_set] at hi
    refine World.rangeAt_setCells_apart ?_ _ _ _ (.inl (hGg i (by omega)))
    by_cases e : i = k
    · subst e
      simp only [List.getElem_set_self]
      intro j v hv
      obtain ⟨hj, rfl⟩ := List.getElem?_eq_some_iff.1 hv
      exact cell_setCells_eq tk j hj
    · rw [List.getElem_set_ne (fun q => e q.symm)]
      exact World.rangeAt_setCells_apart (h.pgs i hi) _ _ _ (.inl (hGG i (by omega) e))
  · simp only [List.length_set] at hi
    refine World.there_setCells (World.there_setCells ?_ _ _ _) _ _ _
    by_cases e : i = k
    · subst e
      simp only [List.getElem_set_self, hl]
      exact h.free i hk
    · rw [List.getElem_set_ne (fun q => e q.symm)]
      exact h.free i hi
theorem mix_len (j : Nat) (k : Int) (bs : List Bk) (hj : j ≤ bs.length) : (mkBs j k ++ bs.drop j).length = bs.length := by simp [mkBs_len]; omega
theorem mix_at (j : Nat) (k : Int) (bs : List Bk) (hj : j < bs.length) : (mkBs j k ++ bs.drop j)[j]'(by rw [mix_len j k bs (by omega)]; exact hj) = bs[j] := by
  rw [List.getElem_append_right (by rw [mkBs_len]; omega)]
  simp [mkBs_len]
theorem mix_set (j : Nat) (k : Int) (bs : List Bk) (hj : j < bs.length) : (mkBs j k ++ bs.drop j).set j (mkB (k + 21 * (j : Nat))) = mkBs (j + 1) k ++ bs.drop (j + 1) := by
  rw [List.set_append_right _ _ (by rw [mkBs_len]; omega), mkBs_len, Nat.sub_self, mkBs_succ, List.drop_eq_getElem_cons hj]
  simp only [List.set_cons_zero, List.append_assoc, List.singleton_append]

def MarkPost (w : World) (lo g N n : Nat) (G : List Nat) (k : Int) (e : Ending) (w' : World) : Prop := e = .returned (.int .i64 (k + 21 * (n : Nat))) ∧ Own w' lo g G (mkBs n k) N ∧ Below lo w w' ∧ w'.heap.size = w.heap.size
theorem here : True := trivial
end Go.Proofs.YtbiokmojjneleaaGreat.MarkB

/-
  The laws' marks on blocks of any shape; comparing, marking and looking at what a call has answered.
-/
namespace Go.Proofs.YtbiokmojjneleaaGreat.LawV
open Go.ChangeShapes Go.WideShapes Go.ChangeAt Go.RowKit OkA Big Fl ImplB ImplF ImplS _root_.Go.Proofs.YtbiokmojjneleaaGreat.Own ImplT ImplU SpecA SpecB SpecC SpecD MarkB LawsA LawsB LawsE OpenF
set_option linter.unusedVariables false
set_option linter.unusedSimpArgs false

/-- Only these blocks of memory were written. -/
structure Only (L : List Nat) (w w' : World) : Prop where
  size : w'.heap.size = w.heap.size
  cell : ∀ b o, b ∉ L → w'.cell? ⟨b, o, none⟩ = w.cell? ⟨b, o, none⟩
  frozen : ∀ b o, b ∉ L → w'.frozen? ⟨b, o, none⟩ = w.frozen? ⟨b, o, none⟩
theorem Only.refl (L : List Nat) (w : World) : Only L w w := ⟨rfl, fun _ _ _ => rfl, fun _ _ _ => rfl⟩
theorem Only.setCells {L : List Nat} {w w' : World} (h : Only L w w') {b : Nat} (hb : b ∈ L) (o : Nat) (vs : List Value) : Only L w (w'.setCells b o vs) :=
  ⟨by rw [size_setCells]; exact h.size, fun x p hx => by
    have hne : x ≠ b := fun e => hx (by rw [e]; exact hb)
    rw [cell_setCells_ne (.inl hne)]; exact h.cell x p hx, fun x p hx => by rw [World.frozen?_setCells]; exact h.frozen x p hx⟩
theorem Own.only {w w' : World} {lo g n : Nat} {G : List Nat} {bs : List Bk} (h : Own w lo g G bs n) {L : List Nat} (ho : Only L w w') (hL : ∀ x ∈ g :: G, x ∉ L) : Own w' lo g G bs n := by
  have hlen := h.len
  have hg := hL g (by simp)
  have hG : ∀ i (hi : i < bs.length), G[i]'(by omega) ∉ L := fun i hi => hL _ (List.mem_cons_of_mem _ (List.getElem_mem _))
  refine ⟨h.len, h.nd, h.lo, fun x hx => by rw [ho.size]; exact h.hi x hx, h.fit, fun j hj => ?_, fun i hi => ?_, fun i hi => ?_, fun i hi j v hv => ?_, fun i hi j hj => ?_, fun i hi a m c hc => h.caps i hi a m c (by rw [ho.cell _ _ hg] at hc; exact hc)⟩
  · rw [ho.cell _ _ hg, ho.frozen _ _ hg]; exact h.room j hj
  · obtain ⟨c, hc⟩ := h.out i hi
    exact ⟨c, by rw [ho.cell _ _ hg]; exact hc⟩
  · rw [ho.cell _ _ hg]; exact h.worn i hi
  · rw [ho.cell _ _ (hG i hi)]; exact h.pgs i hi j v hv
  · rw [ho.cell _ _ (hG i hi), ho.frozen _ _ (hG i hi)]; exact h.free i hi j hj
theorem NewFs.only {w w' : World} {lo : Nat} {v : Value} {bs : List Bk} (h : NewFs w lo v bs) {L : List Nat} (ho : Only L w w') (hL : ∀ x ∈ L, x < lo) : NewFs w' lo v bs := by
  rcases h with h | ⟨g, G, cap, rfl, h⟩
  · exact .inl h
  · exact .inr ⟨g, G, cap, rfl, Own.only h ho (fun x hx hm => by have := h.lo x hx; have := hL x hm; omega)⟩

def MkG (w : World) (lo g : Nat) (G : List Nat) (e : Ending) (w' : World) : Prop := ∃ m : Int, e = .returned (.int .i64 m) ∧ 0 ≤ m ∧ Only (g :: G) w w' ∧ Below lo w w'
def MkL (w : World) (lo g : Nat) (G : List Nat) (e : Ending) (w' : World) : Prop := ∃ m : Int, e = .returned (.int .i64 m) ∧ 0 ≤ m ∧ m ≤ 6000000000000 ∧ Only (g :: G) w w' ∧ Below lo w w'
def Sized (bs : List Bk) : Prop := ∀ b ∈ bs, b.ps.length ≤ 1048576
theorem Sized.set {bs : List Bk} (h : Sized bs) (j : Nat) {b : Bk} (hb : b.ps.length ≤ 1048576) : Sized (bs.set j b) := fun x hx => by
  rcases List.mem_or_eq_of_mem_set hx with h' | rfl
  · exact h x h'
  · exact hb
/-! What a call has answered. -/
def Small (R : List Bk) : Prop := R.length ≤ 4 ∧ Fours R
def MkV (w : World) (lo : Nat) (v : Value) (n : Nat) (e : Ending) (w' : World) : Prop := e = .returned (.int .i64 (1 + 21 * (n : Nat))) ∧ NewFs w' lo v (mkBs n 1) ∧ Below lo w w' ∧ w'.heap.size = w.heap.size
theorem here : True := trivial
end Go.Proofs.YtbiokmojjneleaaGreat.LawV
