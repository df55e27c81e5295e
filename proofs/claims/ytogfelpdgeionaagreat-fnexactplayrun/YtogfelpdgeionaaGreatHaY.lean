/-
  Texts that belong together, one behind the other: Mark, LawV.
-/
import Derived.Test.YtogfelpdgeionaaGreatHaF
import Derived.Test.YtogfelpdgeionaaGreatHaI

/-
  The laws' marks: numbers laid into every cell of blocks that stand in rows of their own, and looked for again.
-/
namespace Go.Proofs.YtogfelpdgeionaaGreat.MarkB
open Go.ChangeShapes Go.WideShapes Go.ChangeAt Go.RowKit OkA Big Fl ImplB ImplF ImplS _root_.Go.Proofs.YtogfelpdgeionaaGreat.Own ImplT ImplU SpecA SpecB SpecC SpecD
set_option linter.unusedVariables false
set_option linter.unusedSimpArgs false

def mkP (m : Int) : Pg := ⟨m, m + 1, m + 2, m + 3, m + 4⟩
def mkPs (n : Nat) (k : Int) : List Pg := (List.range n).map fun i => mkP (k + 5 * (i : Nat))
def mkB (m : Int) : Bk := ⟨mkPs 4 m, m + 20⟩
def mkBs (n : Nat) (k : Int) : List Bk := (List.range n).map fun i => mkB (k + 21 * (i : Nat))
theorem mkPs_len (n : Nat) (k : Int) : (mkPs n k).length = n := by simp [mkPs]
theorem mkBs_len (n : Nat) (k : Int) : (mkBs n k).length = n := by simp [mkBs]
theorem mkPs_succ (n : Nat) (k : Int) : mkPs (n + 1) k = mkPs n k ++ [mkP (k + 5 * (n : Nat))] := by simp [mkPs, List.range_succ]
theorem mkBs_succ (n : Nat) (k : Int) : mkBs (n + 1) k = mkBs n k ++ [mkB (k + 21 * (n : Nat))] := by simp [mkBs, List.range_succ]
theorem mkPs_at (n : Nat) (k : Int) (i : Nat) (hi : i < (mkPs n k).length) : (mkPs n k)[i] = mkP (k + 5 * (i : Nat)) := by simp [mkPs]
theorem mkBs_at (n : Nat) (k : Int) (i : Nat) (hi : i < (mkBs n k).length) : (mkBs n k)[i] = mkB (k + 21 * (i : Nat)) := by simp [mkBs]
theorem setCells_append (b : Nat) : ∀ (x y : List Value) (d : Nat) (w : World), w.setCells b d (x ++ y) = (w.setCells b d x).setCells b (d + x.length) y
  | [], _, _, _ => rfl
  | v :: r, y, d, w => by
    simp only [List.cons_append, World.setCells, List.length_cons]
    rw [setCells_append b r y (d + 1), show d + 1 + r.length = d + (r.length + 1) by omega]
theorem mark_step (w : World) (pb j : Nat) (k : Int) : w.setCells pb 0 (psC (mkPs (j + 1) k)) =
    (((((w.setCells pb 0 (psC (mkPs j k))).setCell ⟨pb, j * 5, none⟩ (.int .i64 (k + 5 * (j : Nat)))).setCell ⟨pb, j * 5 + 1, none⟩ (.int .i64 (k + 5 * (j : Nat) + 1))).setCell ⟨pb, j * 5 + 2, none⟩ (.int .i64 (k + 5 * (j : Nat) + 2))).setCell ⟨pb, j * 5 + 3, none⟩ (.int .i64 (k + 5 * (j : Nat) + 3))).setCell ⟨pb, j * 5 + 4, none⟩ (.int .i64 (k + 5 * (j : Nat) + 4)) := by
  have e : psC (mkPs (j + 1) k) = psC (mkPs j k) ++ pgC (mkP (k + 5 * (j : Nat))) := by rw [mkPs_succ]; simp [psC]
  rw [e, setCells_append, len_psC, mkPs_len, Nat.zero_add]
  rfl
theorem there_some {w : World} {b o n : Nat} (h : w.there b o n) (j : Nat) (hj : j < n) : ∃ v, w.cell? ⟨b, o + j, none⟩ = some v := Option.isSome_iff_exists.1 (h j hj).1

set_option maxHeartbeats 1000000 in
theorem markPageS_any (pb cap n : Nat) (k : Int) (w : World) (hk0 : 0 ≤ k) (hk1 : k ≤ 1000) (hn : n ≤ 4) (ht : w.there pb 0 (n * 5)) :
    Calls Tryz.prog 197 #[.slice (some ⟨pb, 0, none⟩) n cap, .int .i64 k] w fun e w' => e = .returned (.int .i64 (k + 5 * (n : Nat))) ∧ w' = w.setCells pb 0 (psC (mkPs n k)) := by
  have HT := hide ht
  clear ht
  go_enter Tryz.func197, Tryz.ntmps197
  go_wp2
  go_loopw [5, 1] (fun i m w' => ∃ (j : Nat) (M : Int), j ≤ n ∧ i = .int .i64 j ∧ m = .int .i64 M ∧ M = k + 5 * (j : Nat) ∧ Hid (w' = w.setCells pb 0 (psC (mkPs j k)))) (fun i _ _ => n - (intOf i).toNat)
  case atStart => exact ⟨0, k, by omega, rfl, rfl, by omega, rfl⟩
  case round =>
    obtain ⟨j, M, hj, rfl, rfl, hM, hw⟩ := hrel
    by_cases h0 : j = n
    · subst h0
      have HW := hw
      go_wp2
      go_ret
      exact ⟨by rw [hM]; rfl, unhide HW⟩
    · have hlt : (j : Int) < (n : Int) := by omega
      have hlo : (0 : Int) ≤ (j : Int) := by omega
      have tr : wr.there pb 0 (n * 5) := by rw [unhide hw]; exact World.there_setCells (unhide HT) _ _ _
      obtain ⟨v0, c0⟩ := there_some tr (j * 5) (by omega)
      obtain ⟨v1, c1⟩ := there_some tr (j * 5 + 1) (by omega)
      obtain ⟨v2, c2⟩ := there_some tr (j * 5 + 2) (by omega)
      obtain ⟨v3, c3⟩ := there_some tr (j * 5 + 3) (by omega)
      obtain ⟨v4, c4⟩ := there_some tr (j * 5 + 4) (by omega)
      have f0 := (tr (j * 5) (by omega)).2
      have f1 := (tr (j * 5 + 1) (by omega)).2
      have f2 := (tr (j * 5 + 2) (by omega)).2
      have f3 := (tr (j * 5 + 3) (by omega)).2
      have f4 := (tr (j * 5 + 4) (by omega)).2
      simp only [Nat.zero_add] at c0 c1 c2 c3 c4 f0 f1 f2 f3 f4
      have HM := hide (mark_step w pb j k)
      rw [← unhide hw, ← hM] at HM
      have hM0 : 0 ≤ M := by omega
      have hM1 : M ≤ 2000 := by omega
      clear tr hw
      go_wp2
      go_roundw
      case rel =>
        refine ⟨j + 1, M + 5, by omega, by first | rfl | go_num, by first | rfl | go_num, by omega, ?_⟩
        show _ = _
        rw [unhide HM, hM]
        simp only [Nat.add_assoc, Int.add_assoc, Int.reduceAdd, Nat.reduceAdd]
      case measure => simp [intOf]; omega

set_option maxHeartbeats 1000000 in
theorem heldPageS_any (pb po cap n : Nat) (k : Int) (w : World) (hk0 : 0 ≤ k) (hk1 : k ≤ 1000) (hn : n ≤ 4) (hr : w.rangeAt pb po (psC (mkPs n k))) :
    Calls Tryz.prog 201 #[.slice (some ⟨pb, po, none⟩) n cap, .int .i64 k] w fun e w' => e = .returned (.int .i64 (k + 5 * (n : Nat))) ∧ w' = w := by
  have HR := hide hr
  clear hr
  go_enter Tryz.func201, Tryz.ntmps201
  go_wp2
  go_loop [5, 1] (fun i m => ∃ (j : Nat) (M : Int), j ≤ n ∧ i = .int .i64 j ∧ m = .int .i64 M ∧ M = k + 5 * (j : Nat)) (fun i _ => n - (intOf i).toNat)
  case atStart => exact ⟨0, k, by omega, rfl, rfl, by omega⟩
  case round =>
    obtain ⟨j, M, hj, rfl, rfl, hM⟩ := hrel
    by_cases h0 : j = n
    · subst h0
      go_wp2
      go_ret
      exact ⟨by first | rfl | (rw [hM]; rfl), rfl⟩
    · have hlt : (j : Int) < (n : Int) := by omega
      have hlo : (0 : Int) ≤ (j : Int) := by omega
      obtain ⟨c0, c1, c2, c3, c4⟩ := PsAt.cells (unhide HR) j (by rw [mkPs_len]; omega)
      rw [mkPs_at, ← hM] at c0 c1 c2 c3 c4
      simp only [mkP] at c0 c1 c2 c3 c4
      have hM0 : 0 ≤ M := by omega
      have hM1 : M ≤ 2000 := by omega
      have HM := hide hM
      clear hM
      go_wp2
      go_round
      case rel => exact ⟨j + 1, M + 5, by omega, by first | rfl | go_num, by first | rfl | go_num, by have := unhide HM; omega⟩
      case measure => simp [intOf]; omega

set_option maxHeartbeats 1000000 in
theorem heldBlockS_any (a : Option Addr) (cap n : Nat) (k : Int) (w : World) (hk0 : 0 ≤ k) (hk1 : k ≤ 100) (hn : n ≤ 4) (hf : FsAt w a (mkBs n k)) :
    Calls Tryz.prog 135 #[.slice a n cap, .int .i64 k] w fun e w' => e = .returned (.int .i64 (k + 21 * (n : Nat))) ∧ w' = w := by
  have HF := hide hf
  clear hf
  go_enter Tryz.func135, Tryz.ntmps135
  go_wp2
  go_loop [5, 1] (fun i m => ∃ (j : Nat) (M : Int), j ≤ n ∧ i = .int .i64 j ∧ m = .int .i64 M ∧ M = k + 21 * (j : Nat)) (fun i _ => n - (intOf i).toNat)
  case atStart => exact ⟨0, k, by omega, rfl, rfl, by omega⟩
  case round =>
    obtain ⟨j, M, hj, rfl, rfl, hM⟩ := hrel
    by_cases h0 : j = n
    · subst h0
      go_wp2
      go_ret
      exact ⟨by first | rfl | (rw [hM]; rfl), rfl⟩
    · have hlt : (j : Int) < (n : Int) := by omega
      have hlo : (0 : Int) ≤ (j : Int) := by omega
      obtain ⟨b1, o1, rfl, g1⟩ : ∃ b o, a = some ⟨b, o, none⟩ ∧ ∀ i (hi : i < (mkBs n k).length), BkAt w b (o + i * 2) (mkBs n k)[i] := by
        rcases unhide HF with h | h
        · have := congrArg List.length h; rw [mkBs_len] at this; simp at this; omega
        · exact h
      obtain ⟨pa, pc, c0, c1, hps⟩ := g1 j (by rw [mkBs_len]; omega)
      rw [mkBs_at, ← hM] at c0 c1 hps
      simp only [mkB, mkPs_len] at c0 c1 hps
      obtain ⟨pb, po, rfl, hr⟩ : ∃ pb po, pa = some ⟨pb, po, none⟩ ∧ w.rangeAt pb po (psC (mkPs 4 M)) := by
        rcases hps with h | h
        · have := congrArg List.length h; rw [mkPs_len] at this; simp at this
        · exact h
      have hM0 : 0 ≤ M := by omega
      have hM1 : M ≤ 1000 := by omega
      have HC := hide (heldPageS_any pb po pc 4 M w hM0 hM1 (by omega) hr)
      have HM := hide hM
      clear hM g1 hps hr
      go_wp2_with (go_at_call 201; refine (unhide HC).mono ?_; rintro e w' ⟨rfl, hw'⟩; obtain rfl := hw'.symm; rw [show M + 5 * ((4 : Nat) : Int) = M + 20 by omega])
      go_round
      case rel => exact ⟨j + 1, M + 21, by omega, by first | rfl | go_num, by first | rfl | go_num, by have := unhide HM; omega⟩
      case measure => simp [intOf]; omega

/-- A block is laid over a block. -/
theorem _root_.Go.Proofs.YtogfelpdgeionaaGreat.Own.Own.block {w : World} {lo g n : Nat} {G : List Nat} {bs : List Bk} (h : Own w lo g G bs n) (k : Nat) (hk : k < bs.length) (ps : List Pg) (hl : ps.length = bs[k].ps.length) (wn : Int) :
    Own ((w.setCells (G[k]'(by have := h.len; omega)) 0 (psC ps)).setCells g (k * 2 + 1) [.int .i64 wn]) lo g G (bs.set k ⟨ps, wn⟩) n := by
  have hlen := h.len
  have hGg : ∀ i (hi : i < G.length), G[i] ≠ g := fun i hi e => (List.nodup_cons.1 h.nd).1 (e ▸ List.getElem_mem hi)
  have hGG : ∀ i (hi : i < G.length), i ≠ k → G[i] ≠ G[k]'(by omega) := fun i hi hne e => by
    have hp := List.pairwise_iff_getElem.1 (List.nodup_cons.1 h.nd).2
    rcases Nat.lt_or_gt_of_ne hne with q | q
    · exact hp i k hi (by omega) q e
    · exact hp k i (by omega) hi q e.symm
  have hfit := h.fit
  have tk : w.there (G[k]'(by omega)) 0 (psC ps).length := by rw [len_psC, hl]; exact h.free k hk
  have tg : (w.setCells (G[k]'(by omega)) 0 (psC ps)).there g (k * 2 + 1) 1 := by
    have := there_sub (World.there_setCells h.room (G[k]'(by omega)) 0 (psC ps)) (k * 2 + 1) 1 (by omega)
    simpa using this
  refine ⟨by simp [hlen], h.nd, h.lo, fun x hx => by rw [size_setCells, size_setCells]; exact h.hi x hx, by simpa using h.fit, World.there_setCells (World.there_setCells h.room _ _ _) _ _ _, fun i hi => ?_, fun i hi => ?_, fun i hi => ?_, fun i hi => ?_, fun i hi a m c hc => h.caps i (by simpa using hi) a m c (by simp only [List.length_set] at hi; rw [cell_setCells_ne (.inr (by simp; omega)), cell_setCells_ne (.inl (hGg k (by omega)).symm)] at hc; exact hc)⟩
  · simp only [List.length_set] at hi
    obtain ⟨c, hc⟩ := h.out i hi
    refine ⟨c, ?_⟩
    rw [cell_setCells_ne (.inr (by simp; omega)), cell_setCells_ne (.inl (hGg k (by omega)).symm), hc]
    by_cases e : i = k
    · subst e; simp [hl]
    · rw [List.getElem_set_ne (fun q => e q.symm)]
  · simp only [List.length_set] at hi
    by_cases e : i = k
    · subst e
      have := cell_setCells_eq (vs := [.int .i64 wn]) tg 0 (by simp)
      simpa using this
    · rw [cell_setCells_ne (.inr (by simp; omega)), cell_setCells_ne (.inl (hGg k (by omega)).symm), List.getElem_set_ne (fun q => e q.symm)]
      exact h.worn i hi
  · simp only [List.length_set] at hi
    refine World.rangeAt_setCells_apart ?_ _ _ _ (.inl (hGg i (by omega)))
    by_cases e : i = k
    · subst e
      simp only [List.getElem_set_self]
      intro j v hv
      obtain ⟨hj, rfl⟩ := List.getElem?_eq_some_iff.1 hv
      exact cell_setCells_eq tk j hj
    · rw [List.getElem_set_ne (fun q => e q.symm)]
      exact World.rangeAt_setCells_apart (h.pgs i hi) _ _ _ (.inl (hGG i (by omega) e))
  · simp only [List.length_set] at hi
    refine World.there_setCells (World.there_setCells ?_ _ _ _) _ _ _
    by_cases e : i = k
    · subst e
      simp only [List.getElem_set_self, hl]
      exact h.free i hk
    · rw [List.getElem_set_ne (fun q => e q.symm)]
      exact h.free i hi
theorem mix_len (j : Nat) (k : Int) (bs : List Bk) (hj : j ≤ bs.length) : (mkBs j k ++ bs.drop j).length = bs.length := by simp [mkBs_len]; omega
theorem mix_at (j : Nat) (k : Int) (bs : List Bk) (hj : j < bs.length) : (mkBs j k ++ bs.drop j)[j]'(by rw [mix_len j k bs (by omega)]; exact hj) = bs[j] := by
  rw [List.getElem_append_right (by rw [mkBs_len]; omega)]
  simp [mkBs_len]
theorem mix_set (j : Nat) (k : Int) (bs : List Bk) (hj : j < bs.length) : (mkBs j k ++ bs.drop j).set j (mkB (k + 21 * (j : Nat))) = mkBs (j + 1) k ++ bs.drop (j + 1) := by
  rw [List.set_append_right _ _ (by rw [mkBs_len]; omega), mkBs_len, Nat.sub_self, mkBs_succ, List.drop_eq_getElem_cons hj]
  simp only [List.set_cons_zero, List.append_assoc, List.singleton_append]

def MarkPost (w : World) (lo g N n : Nat) (G : List Nat) (k : Int) (e : Ending) (w' : World) : Prop := e = .returned (.int .i64 (k + 21 * (n : Nat))) ∧ Own w' lo g G (mkBs n k) N ∧ Below lo w w' ∧ w'.heap.size = w.heap.size
set_option maxHeartbeats 1000000 in
theorem markBlockS_any (lo g cap N : Nat) (G : List Nat) (bs : List Bk) (k : Int) (w : World) (o : Own w lo g G bs N) (hF : Fours bs) (h4 : bs.length ≤ 4) (hk0 : 0 ≤ k) (hk1 : k ≤ 100) :
    Calls Tryz.prog 132 #[.slice (some ⟨g, 0, none⟩) bs.length cap, .int .i64 k] w fun e w' => MarkPost w lo g N bs.length G k e w' := by
  have HO := hide o
  have HF := hide hF
  clear o hF
  go_enter Tryz.func132, Tryz.ntmps132
  go_wp2
  go_loopw [5, 1] (fun i m w' => ∃ (j : Nat) (M : Int), j ≤ bs.length ∧ i = .int .i64 j ∧ m = .int .i64 M ∧ M = k + 21 * (j : Nat) ∧ Own w' lo g G (mkBs j k ++ bs.drop j) N ∧ Below lo w w' ∧ w'.heap.size = w.heap.size) (fun i _ _ => bs.length - (intOf i).toNat)
  case atStart => exact ⟨0, k, by omega, rfl, rfl, by omega, by simpa [mkBs] using unhide HO, Below.refl _ _, rfl⟩
  case round =>
    obtain ⟨j, M, hj, rfl, rfl, hM, oj, bj, sj⟩ := hrel
    by_cases h0 : j = bs.length
    · subst h0
      go_wp2
      go_ret
      refine ⟨by rw [hM]; rfl, ?_, bj, sj⟩
      rw [List.drop_eq_nil_of_le (Nat.le_refl _), List.append_nil] at oj
      exact oj
    · have hlt : (j : Int) < (bs.length : Int) := by omega
      have hjb : j < bs.length := by omega
      have hlo : (0 : Int) ≤ (j : Int) := by omega
      have hlen := oj.len
      have hml := mix_len j k bs hj
      have hj' : j < (mkBs j k ++ bs.drop j).length := by omega
      have hma := mix_at j k bs hjb
      have hb4 : bs[j].ps.length = 4 := (unhide HF).at j hjb
      obtain ⟨pc, c0⟩ := oj.out j hj'
      have c1 := oj.worn j hj'
      have tp := oj.free j hj'
      have hne : g ≠ G[j]'(by omega) := fun e => (List.nodup_cons.1 oj.nd).1 (e ▸ List.getElem_mem _)
      have hgl : lo ≤ g := oj.lo g (by simp)
      have hpl : lo ≤ G[j]'(by omega) := oj.lo _ (List.mem_cons_of_mem _ (List.getElem_mem _))
      have OB := hide (oj.block j hj' (mkPs 4 M) (by rw [mkPs_len, hma, hb4]) (M + 20))
      rw [show (⟨mkPs 4 M, M + 20⟩ : Bk) = mkB (k + 21 * (j : Nat)) by rw [← hM]; rfl, mix_set j k bs hjb] at OB
      simp only [hma] at c0 c1 tp
      rw [hb4] at c0 tp
      have hM0 : 0 ≤ M := by omega
      have hM1 : M ≤ 1000 := by omega
      generalize G[j]'(by omega) = gj at *
      have HC := hide (markPageS_any gj pc 4 M wr hM0 hM1 (by omega) tp)
      have TR := oj.room
      have hfit := oj.fit
      generalize psC (mkPs 4 M) = cs at *
      have C1 : (wr.setCells gj 0 cs).cell? ⟨g, j * 2 + 1, none⟩ = some (.int .i64 bs[j].wn) := by rw [cell_setCells_ne (.inl hne)]; exact c1
      have F1 : (wr.setCells gj 0 cs).frozen? ⟨g, j * 2 + 1, none⟩ = false := by
        have := (World.there_setCells TR gj 0 cs (j * 2 + 1) (by omega)).2
        rwa [Nat.zero_add] at this
      have B1 := below_setCells gj hpl cs 0 wr bj
      have S1 : (wr.setCells gj 0 cs).heap.size = w.heap.size := by rw [size_setCells]; exact sj
      have HM := hide hM
      clear hM oj bj sj c1 tp hma hml hj' hlen TR
      generalize wr.setCells gj 0 cs = w1 at *
      go_wp2_with (go_at_call 197; refine (unhide HC).mono ?_; rintro e w' ⟨rfl, rfl⟩; rw [show M + 5 * ((4 : Nat) : Int) = M + 20 by omega])
      go_roundw
      case rel =>
        refine ⟨j + 1, M + 21, by omega, by first | rfl | go_num, by first | rfl | go_num, by have := unhide HM; omega, unhide OB, B1.setCell hgl _, ?_⟩
        rw [World.size_setCell]; exact S1
      case measure => simp [intOf]; omega
end Go.Proofs.YtogfelpdgeionaaGreat.MarkB

/-
  The laws' marks on blocks of any shape; comparing, marking and looking at what a call has answered.
-/
namespace Go.Proofs.YtogfelpdgeionaaGreat.LawV
open Go.ChangeShapes Go.WideShapes Go.ChangeAt Go.RowKit OkA Big Fl ImplB ImplF ImplS _root_.Go.Proofs.YtogfelpdgeionaaGreat.Own ImplT ImplU SpecA SpecB SpecC SpecD MarkB LawsA LawsB LawsE OpenF
set_option linter.unusedVariables false
set_option linter.unusedSimpArgs false

/-- Only these blocks of memory were written. -/
structure Only (L : List Nat) (w w' : World) : Prop where
  size : w'.heap.size = w.heap.size
  cell : ∀ b o, b ∉ L → w'.cell? ⟨b, o, none⟩ = w.cell? ⟨b, o, none⟩
  frozen : ∀ b o, b ∉ L → w'.frozen? ⟨b, o, none⟩ = w.frozen? ⟨b, o, none⟩
theorem Only.refl (L : List Nat) (w : World) : Only L w w := ⟨rfl, fun _ _ _ => rfl, fun _ _ _ => rfl⟩
theorem Only.setCells {L : List Nat} {w w' : World} (h : Only L w w') {b : Nat} (hb : b ∈ L) (o : Nat) (vs : List Value) : Only L w (w'.setCells b o vs) :=
  ⟨by rw [size_setCells]; exact h.size, fun x p hx => by
    have hne : x ≠ b := fun e => hx (by rw [e]; exact hb)
    rw [cell_setCells_ne (.inl hne)]; exact h.cell x p hx, fun x p hx => by rw [World.frozen?_setCells]; exact h.frozen x p hx⟩
theorem Own.only {w w' : World} {lo g n : Nat} {G : List Nat} {bs : List Bk} (h : Own w lo g G bs n) {L : List Nat} (ho : Only L w w') (hL : ∀ x ∈ g :: G, x ∉ L) : Own w' lo g G bs n := by
  have hlen := h.len
  have hg := hL g (by simp)
  have hG : ∀ i (hi : i < bs.length), G[i]'(by omega) ∉ L := fun i hi => hL _ (List.mem_cons_of_mem _ (List.getElem_mem _))
  refine ⟨h.len, h.nd, h.lo, fun x hx => by rw [ho.size]; exact h.hi x hx, h.fit, fun j hj => ?_, fun i hi => ?_, fun i hi => ?_, fun i hi j v hv => ?_, fun i hi j hj => ?_, fun i hi a m c hc => h.caps i hi a m c (by rw [ho.cell _ _ hg] at hc; exact hc)⟩
  · rw [ho.cell _ _ hg, ho.frozen _ _ hg]; exact h.room j hj
  · obtain ⟨c, hc⟩ := h.out i hi
    exact ⟨c, by rw [ho.cell _ _ hg]; exact hc⟩
  · rw [ho.cell _ _ hg]; exact h.worn i hi
  · rw [ho.cell _ _ (hG i hi)]; exact h.pgs i hi j v hv
  · rw [ho.cell _ _ (hG i hi), ho.frozen _ _ (hG i hi)]; exact h.free i hi j hj
theorem NewFs.only {w w' : World} {lo : Nat} {v : Value} {bs : List Bk} (h : NewFs w lo v bs) {L : List Nat} (ho : Only L w w') (hL : ∀ x ∈ L, x < lo) : NewFs w' lo v bs := by
  rcases h with h | ⟨g, G, cap, rfl, h⟩
  · exact .inl h
  · exact .inr ⟨g, G, cap, rfl, Own.only h ho (fun x hx hm => by have := h.lo x hx; have := hL x hm; omega)⟩

set_option maxHeartbeats 1000000 in
theorem markPageG (pb cap n : Nat) (k : Int) (w : World) (hk0 : 0 ≤ k) (hk1 : k ≤ 1000000000000000) (hn : n ≤ 1048576) (ht : w.there pb 0 (n * 5)) :
    Calls Tryz.prog 197 #[.slice (some ⟨pb, 0, none⟩) n cap, .int .i64 k] w fun e w' => e = .returned (.int .i64 (k + 5 * (n : Nat))) ∧ w' = w.setCells pb 0 (psC (mkPs n k)) := by
  have HT := hide ht
  clear ht
  go_enter Tryz.func197, Tryz.ntmps197
  go_wp2
  go_loopw [5, 1] (fun i m w' => ∃ (j : Nat) (M : Int), j ≤ n ∧ i = .int .i64 j ∧ m = .int .i64 M ∧ M = k + 5 * (j : Nat) ∧ Hid (w' = w.setCells pb 0 (psC (mkPs j k)))) (fun i _ _ => n - (intOf i).toNat)
  case atStart => exact ⟨0, k, by omega, rfl, rfl, by omega, rfl⟩
  case round =>
    obtain ⟨j, M, hj, rfl, rfl, hM, hw⟩ := hrel
    by_cases h0 : j = n
    · subst h0
      have HW := hw
      go_wp2
      go_ret
      exact ⟨by rw [hM]; rfl, unhide HW⟩
    · have hlt : (j : Int) < (n : Int) := by omega
      have hlo : (0 : Int) ≤ (j : Int) := by omega
      have tr : wr.there pb 0 (n * 5) := by rw [unhide hw]; exact World.there_setCells (unhide HT) _ _ _
      obtain ⟨v0, c0⟩ := there_some tr (j * 5) (by omega)
      obtain ⟨v1, c1⟩ := there_some tr (j * 5 + 1) (by omega)
      obtain ⟨v2, c2⟩ := there_some tr (j * 5 + 2) (by omega)
      obtain ⟨v3, c3⟩ := there_some tr (j * 5 + 3) (by omega)
      obtain ⟨v4, c4⟩ := there_some tr (j * 5 + 4) (by omega)
      have f0 := (tr (j * 5) (by omega)).2
      have f1 := (tr (j * 5 + 1) (by omega)).2
      have f2 := (tr (j * 5 + 2) (by omega)).2
      have f3 := (tr (j * 5 + 3) (by omega)).2
      have f4 := (tr (j * 5 + 4) (by omega)).2
      simp only [Nat.zero_add] at c0 c1 c2 c3 c4 f0 f1 f2 f3 f4
      have HM := hide (mark_step w pb j k)
      rw [← unhide hw, ← hM] at HM
      have hM0 : 0 ≤ M := by omega
      have hM1 : M ≤ 2000000000000000 := by omega
      clear tr hw
      go_wp2
      go_roundw
      case rel =>
        refine ⟨j + 1, M + 5, by omega, by first | rfl | go_num, by first | rfl | go_num, by omega, ?_⟩
        show _ = _
        rw [unhide HM, hM]
        simp only [Nat.add_assoc, Int.add_assoc, Int.reduceAdd, Nat.reduceAdd]
      case measure => simp [intOf]; omega

def MkG (w : World) (lo g : Nat) (G : List Nat) (e : Ending) (w' : World) : Prop := ∃ m : Int, e = .returned (.int .i64 m) ∧ 0 ≤ m ∧ Only (g :: G) w w' ∧ Below lo w w'
def MkL (w : World) (lo g : Nat) (G : List Nat) (e : Ending) (w' : World) : Prop := ∃ m : Int, e = .returned (.int .i64 m) ∧ 0 ≤ m ∧ m ≤ 6000000000000 ∧ Only (g :: G) w w' ∧ Below lo w w'
def Sized (bs : List Bk) : Prop := ∀ b ∈ bs, b.ps.length ≤ 1048576
theorem Sized.set {bs : List Bk} (h : Sized bs) (j : Nat) {b : Bk} (hb : b.ps.length ≤ 1048576) : Sized (bs.set j b) := fun x hx => by
  rcases List.mem_or_eq_of_mem_set hx with h' | rfl
  · exact h x h'
  · exact hb
set_option maxHeartbeats 1000000 in
theorem markL_any (lo g cap N : Nat) (G : List Nat) (bs : List Bk) (w : World) (o : Own w lo g G bs N) (hl : bs.length ≤ 1048576) (hp : Sized bs) :
    Calls Tryz.prog 132 #[.slice (some ⟨g, 0, none⟩) bs.length cap, .int .i64 1] w fun e w' => MkL w lo g G e w' := by
  have HO := hide o
  have HP := hide hp
  clear o hp
  generalize hn : bs.length = n at *
  have HN := hide hn
  clear hn
  go_enter Tryz.func132, Tryz.ntmps132
  go_wp2
  go_loopw [5, 1] (fun i m w' => ∃ (j : Nat) (M : Int), j ≤ n ∧ i = .int .i64 j ∧ m = .int .i64 M ∧ 0 ≤ M ∧ M ≤ 1 + (j : Nat) * 5242881 ∧ (∃ cs, List.length cs = n ∧ Sized cs ∧ Own w' lo g G cs N) ∧ Only (g :: G) w w' ∧ Below lo w w') (fun i _ _ => n - (intOf i).toNat)
  case atStart => exact ⟨0, 1, by omega, rfl, rfl, by omega, by omega, ⟨bs, unhide HN, unhide HP, unhide HO⟩, Only.refl _ _, Below.refl _ _⟩
  case round =>
    obtain ⟨j, M, hj, rfl, rfl, hM0, hM1, ⟨cs, hcn, hcp, oj⟩, yj, bj⟩ := hrel
    by_cases h0 : j = n
    · subst h0
      go_wp2
      go_ret
      exact ⟨M, rfl, hM0, by omega, yj, bj⟩
    · have hlt : (j : Int) < (n : Int) := by omega
      have hjb : j < cs.length := by omega
      have hlo : (0 : Int) ≤ (j : Int) := by omega
      have hlen := oj.len
      obtain ⟨pc, c0⟩ := oj.out j hjb
      have c1 := oj.worn j hjb
      have tp := oj.free j hjb
      have hpl4 := hcp cs[j] (List.getElem_mem hjb)
      have hne : g ≠ G[j]'(by omega) := fun e => (List.nodup_cons.1 oj.nd).1 (e ▸ List.getElem_mem _)
      have hgl : lo ≤ g := oj.lo g (by simp)
      have hmem : G[j]'(by omega) ∈ g :: G := List.mem_cons_of_mem _ (List.getElem_mem _)
      have hpl := oj.lo _ hmem
      have OB := hide (oj.block j hjb (mkPs cs[j].ps.length M) (by rw [mkPs_len]) (M + 5 * (cs[j].ps.length : Nat)))
      have HSZ := hide (hcp.set j (b := ⟨mkPs cs[j].ps.length M, M + 5 * (cs[j].ps.length : Nat)⟩) (by show (mkPs _ _).length ≤ _; rw [mkPs_len]; exact hpl4))
      have HLS : Hid ((cs.set j ⟨mkPs cs[j].ps.length M, M + 5 * (cs[j].ps.length : Nat)⟩).length = n) := by show _ = _; rw [List.length_set]; exact hcn
      have hM2 : M ≤ 1000000000000000 := by omega
      have TR := oj.room
      have hfit := oj.fit
      generalize cs.set j ⟨mkPs cs[j].ps.length M, M + 5 * (cs[j].ps.length : Nat)⟩ = ds at *
      generalize cs[j].wn = wn at *
      generalize cs[j].ps.length = q at *
      generalize G[j]'(by omega) = gj at *
      have HC := hide (markPageG gj pc q M wr hM0 hM2 hpl4 tp)
      have hqi : (q : Int) ≤ 1048576 := by omega
      have hq0 : (0 : Int) ≤ (q : Int) := by omega
      generalize psC (mkPs q M) = xs at *
      have C1 : (wr.setCells gj 0 xs).cell? ⟨g, j * 2 + 1, none⟩ = some (.int .i64 wn) := by rw [cell_setCells_ne (.inl hne)]; exact c1
      have F1 : (wr.setCells gj 0 xs).frozen? ⟨g, j * 2 + 1, none⟩ = false := by
        have := (World.there_setCells TR gj 0 xs (j * 2 + 1) (by omega)).2
        rwa [Nat.zero_add] at this
      have B1 := below_setCells gj hpl xs 0 wr bj
      have Y1 := hide ((yj.setCells hmem 0 xs).setCells (show g ∈ g :: G by simp) (j * 2 + 1) [.int .i64 (M + 5 * (q : Nat))])
      clear oj bj yj c1 tp TR hcp hcn hlen hpl4
      generalize wr.setCells gj 0 xs = w1 at *
      go_wp2_with (go_at_call 197; refine (unhide HC).mono ?_; rintro e w' ⟨rfl, rfl⟩)
      go_roundw
      case rel => exact ⟨j + 1, M + 5 * (q : Nat) + 1, by omega, by first | rfl | go_num, by first | rfl | go_num, by omega, by omega, ⟨ds, unhide HLS, unhide HSZ, unhide OB⟩, unhide Y1, B1.setCell hgl _⟩
      case measure => simp [intOf]; omega

theorem markG_any (lo g cap N : Nat) (G : List Nat) (bs : List Bk) (w : World) (o : Own w lo g G bs N) (hl : bs.length ≤ 1048576) (hp : Sized bs) :
    Calls Tryz.prog 132 #[.slice (some ⟨g, 0, none⟩) bs.length cap, .int .i64 1] w fun e w' => MkG w lo g G e w' := by
  refine (markL_any lo g cap N G bs w o hl hp).mono ?_
  rintro e w' ⟨m, rfl, h0, _, y, b⟩
  exact ⟨m, rfl, h0, y, b⟩

/-! What a call has answered. -/
def Small (R : List Bk) : Prop := R.length ≤ 4 ∧ Fours R
theorem eqV {w : World} {l1 l2 : Nat} {v1 v2 : Value} {R : List Bk} (hR : Small R) (h1 : NewFs w l1 v1 R) (h2 : NewFs w l2 v2 R) :
    Calls Tryz.prog 131 #[v1, v2] w fun e w' => e = .returned (.bool true) ∧ Below w.heap.size w w' := by
  obtain ⟨a1, c1, rfl, f1⟩ := h1.form
  obtain ⟨a2, c2, rfl, f2⟩ := h2.form
  have := hR.1
  exact eqBlockS_any a1 a2 c1 c2 R w f1 f2 (by omega) (fun b hb => by rw [hR.2 b hb]; omega)
theorem mark_nil (a : Option Addr) (cap : Nat) (w : World) : Calls Tryz.prog 132 #[.slice a 0 cap, .int .i64 1] w fun e w' => e = .returned (.int .i64 1) ∧ w' = w := by
  go_enter Tryz.func132, Tryz.ntmps132
  go_wp2
  go_loop [5, 1] (fun i m => i = .int .i64 0 ∧ m = .int .i64 1) (fun _ _ => 0)
  case atStart => exact ⟨rfl, rfl⟩
  case round =>
    obtain ⟨rfl, rfl⟩ := hrel
    go_wp2
    go_ret
    exact ⟨rfl, rfl⟩
def MkV (w : World) (lo : Nat) (v : Value) (n : Nat) (e : Ending) (w' : World) : Prop := e = .returned (.int .i64 (1 + 21 * (n : Nat))) ∧ NewFs w' lo v (mkBs n 1) ∧ Below lo w w' ∧ w'.heap.size = w.heap.size
theorem markV {w : World} {lo : Nat} {v : Value} {R : List Bk} (hR : Small R) (h : NewFs w lo v R) :
    Calls Tryz.prog 132 #[v, .int .i64 1] w fun e w' => MkV w lo v R.length e w' := by
  rcases h with ⟨rfl, a, c, rfl⟩ | ⟨g, G, cap, rfl, h⟩
  · refine (mark_nil a c w).mono ?_
    rintro e w' ⟨rfl, rfl⟩
    exact ⟨rfl, .inl ⟨rfl, a, c, rfl⟩, Below.refl _ _, rfl⟩
  · refine (markBlockS_any lo g cap R.length G R 1 w h hR.2 hR.1 (by omega) (by omega)).mono ?_
    rintro e w' ⟨rfl, o, b, s⟩
    exact ⟨rfl, .inr ⟨g, G, cap, by rw [mkBs_len], by rw [mkBs_len]; exact o⟩, b, s⟩
theorem heldV {w : World} {lo : Nat} {v : Value} {n : Nat} (hn : n ≤ 4) (h : NewFs w lo v (mkBs n 1)) :
    Calls Tryz.prog 135 #[v, .int .i64 1] w fun e w' => e = .returned (.int .i64 (1 + 21 * (n : Nat))) ∧ w' = w := by
  obtain ⟨a, c, rfl, f⟩ := h.form
  rw [mkBs_len]
  exact heldBlockS_any a c n 1 w (by omega) (by omega) hn f
end Go.Proofs.YtogfelpdgeionaaGreat.LawV
