/-
  The program's functions on one block, for every block of four pages: how many pages are written or torn ahead of the clean ones; whether a page is ok; whether the block is.
-/
import Derived.Test.YtogioeflbbmppaaFl
namespace Go.Proofs.Ytogioeflbbmppaa.ImplB
open Go.ChangeShapes Go.WideShapes Go.ChangeAt Go.RowKit OkA Big Fl
set_option linter.unusedVariables false
set_option linter.unusedSimpArgs false

theorem range_bk {w : World} {b d : Nat} {x : Bk} (h : w.rangeAt b d (bkC x)) : w.rangeAt b d (psC x.ps) := fun j v hv => h j v (by
  unfold bkC; rw [List.getElem?_append_left (by exact (List.getElem?_eq_some_iff.1 hv).1)]; exact hv)
theorem worn_bk {w : World} {b d : Nat} {x : Bk} (h4 : x.ps.length = 4) (h : w.rangeAt b d (bkC x)) : w.cell? ⟨b, d + 20, none⟩ = some (.int .i64 x.wn) := h 20 _ (by
  unfold bkC; rw [List.getElem?_append_right (by rw [len_psC, h4]; exact Nat.le_refl _)]; simp [len_psC, h4])

set_option maxHeartbeats 400000 in
theorem used_any (b : Bk) (h4 : b.ps.length = 4) (w : World) :
    Calls Try.prog 70 #[.agg (bkC b).toArray] w fun e w' => e = .returned (.int .i64 (usedN b.ps)) ∧ Below w.heap.size w w' := by
  have hc : ∀ i, (hi : i < 4) → (w.alloc (.cells (bkC b).toArray 71)).cell? ⟨w.heap.size, i * 5, none⟩ = some (.int .i64 (b.ps[i]'(by omega)).st) := fun i hi => by
    have h1 := (PsAt.cells (range_bk (rangeAt_new w (bkC b) 71)) i (by omega)).1
    simpa using h1
  have HC := hide hc
  clear hc
  go_enter Try.func70, Try.ntmps70
  go_wp2_with (first | (refine wpList_box_big rfl _ _ rfl (bkC b).toArray rfl ?_))
  go_loop [3] (fun u => ∃ k : Nat, k ≤ 4 ∧ u = .int .i64 k ∧ Hid (∀ j (hj : j < b.ps.length), k ≤ j → clB b.ps[j] = true)) (fun u => (intOf u).toNat)
  case atStart => exact ⟨4, by omega, rfl, fun j hj h => by omega⟩
  case round =>
    obtain ⟨k, hk, rfl, hcl⟩ := hrel
    by_cases h0 : k = 0
    · subst h0
      go_wp2
      go_ret
      rw [usedN_eq b.ps 0 (by omega) hcl.out (by omega)]
      exact ⟨rfl, (Below.refl _ _).alloc (Nat.le_refl _) _⟩
    · obtain ⟨m, rfl⟩ : ∃ m, k = m + 1 := ⟨k - 1, by omega⟩
      have hp : (0 : Int) < ((m + 1 : Nat) : Int) := by omega
      have hcm := unhide HC m (by omega)
      have e1 : ((m + 1 : Nat) : Int) - 1 = (m : Int) := by omega
      cases hq : clB (b.ps[m]'(by omega))
      · have hq' : ((b.ps[m]'(by omega)).st == 0) = false := hq
        have HQ := hide hq
        clear hq
        go_wp2
        go_ret
        rw [usedN_eq b.ps (m + 1) (by omega) hcl.out (fun _ _ => by simpa using unhide HQ)]
        exact ⟨rfl, (Below.refl _ _).alloc (Nat.le_refl _) _⟩
      · have hq' : ((b.ps[m]'(by omega)).st == 0) = true := hq
        have HQ := hide hq
        clear hq
        go_wp2
        go_round
        case rel =>
          refine ⟨m, by omega, rfl, fun j hj h => ?_⟩
          by_cases e : j = m
          · subst e; exact unhide HQ
          · exact hcl.out j hj (by omega)
        case measure => simp [intOf]

theorem noB_eq (p : Pg) : noB p = (p.k == 0 && p.s == 0 && p.a == 0 && p.v == 0) := rfl

set_option maxHeartbeats 400000 in
theorem pageOk_any (p : Pg) (w : World) :
    Calls Try.prog 119 #[.agg #[.int .i64 p.st, .int .i64 p.k, .int .i64 p.s, .int .i64 p.a, .int .i64 p.v]] w fun e w' => e = .returned (.bool (pgB p)) ∧ Below w.heap.size w w' := by
  obtain ⟨st, k, s, x, v⟩ := p
  by_cases h1 : st = 1
  · subst h1
    go_enter Try.func119, Try.ntmps119
    go_wp2_with fail
    refine (recOk_any _ _ _ _ _).mono ?_
    rintro e w1 ⟨rfl, b1⟩
    go_wp2
    go_ret
    exact ⟨rfl, ((Below.refl _ _).alloc (Nat.le_refl _) _).trans (b1.mono (by simp))⟩
  by_cases h0 : st = 0
  · subst h0
    go_enter Try.func119, Try.ntmps119
    go_wp2
    all_goals
      go_ret
      refine ⟨?_, (Below.refl _ _).alloc (Nat.le_refl _) _⟩
      simp [pgB, noB, *]
  by_cases h2 : st = 2
  · subst h2
    go_enter Try.func119, Try.ntmps119
    go_wp2
    all_goals
      go_ret
      refine ⟨?_, (Below.refl _ _).alloc (Nat.le_refl _) _⟩
      simp [pgB, noB, *]
  · have hb : pgB ⟨st, k, s, x, v⟩ = false := by simp [pgB, h0, h1, h2]
    rw [hb]
    clear hb
    have g1 : (st == 1) = false := by simpa using h1
    have g0 : (st == 0) = false := by simpa using h0
    have g2 : (st == 2) = false := by simpa using h2
    clear h0 h1 h2
    go_enter Try.func119, Try.ntmps119
    go_wp2
    go_ret
    exact ⟨rfl, (Below.refl _ _).alloc (Nat.le_refl _) _⟩
theorem bkB_good (b : Bk) (h4 : b.ps.length = 4) (h : ∀ j (hj : j < b.ps.length), pgB b.ps[j] = true ∧ (j < usedN b.ps → clB b.ps[j] = false)) : bkB b = inB b.wn 0 200 := by
  have h1 : b.ps.all pgB = true := List.all_eq_true.2 fun x hx => by
    obtain ⟨j, hj, rfl⟩ := List.getElem_of_mem hx
    exact (h j hj).1
  have h2 : tailB b.ps = true := (tailB_iff _).2 fun i hi => (h i hi).2
  simp [bkB, h4, h1, h2]
theorem bkB_bad (b : Bk) (j : Nat) (hj : j < b.ps.length) (h : pgB b.ps[j] = false ∨ (j < usedN b.ps ∧ clB b.ps[j] = true)) : bkB b = false := by
  cases hb : bkB b
  · rfl
  · simp only [bkB, Bool.and_eq_true, List.all_eq_true, tailB_iff] at hb
    rcases h with h | ⟨h, g⟩
    · rw [hb.1.2 _ (List.getElem_mem hj)] at h; cases h
    · rw [hb.2 j hj h] at g; cases g

set_option maxHeartbeats 1000000 in
theorem blockOk_any (b : Bk) (h4 : b.ps.length = 4) (w : World) :
    Calls Try.prog 109 #[.agg (bkC b).toArray] w fun e w' => e = .returned (.bool (bkB b)) ∧ Below w.heap.size w w' := by
  have r0 := rangeAt_new w (bkC b) 71
  have hu := usedN_le b.ps
  go_enter Try.func109, Try.ntmps109
  go_wp2_with (first | (refine wpList_box_big rfl _ _ rfl (bkC b).toArray rfl ?_) | (refine wpList_load_mid rfl 71 _ rfl w.heap.size 0 rfl (bkC b) _ r0 Try.underlying71 rfl (by rw [len_bkC b h4]; kernel_rfl) ?_))
  refine (used_any b h4 _).mono ?_
  rintro e w1 ⟨rfl, b1⟩
  have r1 := rangeAt_below r0 b1 (by simp)
  have r2 := range_bk r1
  have c20 := worn_bk h4 r1
  have B1 : Below w.heap.size w w1 := ((Below.refl _ _).alloc (Nat.le_refl _) _).trans (b1.mono (by simp))
  have s1 : w.heap.size < w1.heap.size := by have := b1.size; simp at this; omega
  simp only [Nat.zero_add] at c20
  clear r0 b1
  go_wp2_with (first | (refine wpList_load_mid rfl 67 _ rfl w.heap.size 0 rfl (psC b.ps) _ r2 Try.underlying67 rfl (by rw [len_psC, h4]; kernel_rfl) ?_))
  go_loopw [11] (fun i w' => ∃ k : Nat, k ≤ 4 ∧ i = .int .i64 k ∧ Hid (∀ j (hj : j < b.ps.length), j < k → pgB b.ps[j] = true ∧ (j < usedN b.ps → clB b.ps[j] = false)) ∧ Below w1.heap.size w1 w') (fun i _ => 4 - (intOf i).toNat)
  case atStart => exact ⟨0, by omega, rfl, fun j hj h => by omega, Below.refl _ _⟩
  case round =>
    obtain ⟨k, hk, rfl, hg, bw⟩ := hrel
    have hsz := bw.size
    by_cases h0 : k = 4
    · subst h0
      have c20' := c20
      rw [← bw.cell (p := ⟨w.heap.size, 20, none⟩) s1] at c20'
      clear r1 r2 c20
      have HG := hide (bkB_good b h4 (fun j hj => hg.out j hj (by omega)))
      go_wp2_with (go_at_call 77; refine (within_any _ _ _ _).mono ?_; rintro e w' ⟨rfl, rfl⟩)
      go_ret
      exact ⟨by rw [unhide HG]; rfl, B1.trans (bw.mono (by omega))⟩
    · have hlt : (k : Int) < 4 := by omega
      have hk5 : k < b.ps.length := by omega
      have hex : (psC b.ps).toArray.extract ((k : Int).toNat * 5) ((k : Int).toNat * 5 + 5) = #[.int .i64 (b.ps[k]).st, .int .i64 (b.ps[k]).k, .int .i64 (b.ps[k]).s, .int .i64 (b.ps[k]).a, .int .i64 (b.ps[k]).v] := by
        simp only [Int.toNat_natCast]
        exact extract_of _ _ _ _ (part_ps b.ps k hk5)
      have hp := pageOk_any b.ps[k]
      have hlo : (0 : Int) ≤ (k : Int) := by omega
      have HE := hide hex
      have HP := hide hp
      have HB := hide (bkB_bad b k hk5)
      have hst : clB b.ps[k] = (b.ps[k].st == 0) := rfl
      have HS := hide hst
      clear hex hp hst r1 r2 c20
      generalize hpk : b.ps[k] = p at *
      have HPK := hide hpk
      clear hpk
      go_wp2_with (first | (refine wpList_index_big rfl 67 _ _ rfl (psC b.ps).toArray _ (k : Int) rfl rfl 33 4 5 _ Try.underlying67 Try.underlying33 rfl (by kernel_rfl) hlo hlt (unhide HE) ?_))
      refine (unhide HP _).mono ?_
      rintro e w2 ⟨rfl, b2⟩
      have c0 : w2.cell? ⟨wr.heap.size, 0, none⟩ = some (.int .i64 p.st) := by rw [b2.cell (p := ⟨wr.heap.size, 0, none⟩) (by simp)]; simp
      have B2 : Below w1.heap.size w1 w2 := bw.trans (((Below.refl _ _).alloc hsz _).trans (b2.mono (by simp; omega)))
      cases hpg : pgB p
      · have HB' := hide ((unhide HB) (.inl hpg))
        clear b2
        go_wp2
        go_ret
        exact ⟨by rw [unhide HB']; rfl, B1.trans (B2.mono (by omega))⟩
      · by_cases hlu : k < usedN b.ps
        · have hlu' : (k : Int) < (usedN b.ps : Int) := by omega
          cases hcl : clB p
          · have hcl' : (p.st == 0) = false := (unhide HS).symm.trans hcl
            have HCL := hide hcl
            have HPG := hide hpg
            clear b2 hcl hpg
            go_wp2
            go_roundw
            case rel =>
              refine ⟨k + 1, by omega, by first | rfl | go_num, fun j hj h => ?_, B2⟩
              by_cases e : j = k
              · subst e; rw [unhide HPK]; exact ⟨unhide HPG, fun _ => unhide HCL⟩
              · exact hg.out j hj (by omega)
            case measure => simp [intOf]; omega
          · have hcl' : (p.st == 0) = true := (unhide HS).symm.trans hcl
            have HB' := hide ((unhide HB) (.inr ⟨hlu, hcl⟩))
            clear b2 hcl hpg
            go_wp2
            go_ret
            exact ⟨by rw [unhide HB']; rfl, B1.trans (B2.mono (by omega))⟩
        · have hlu' : ¬ (k : Int) < (usedN b.ps : Int) := by omega
          have HPG := hide hpg
          clear b2 hpg
          go_wp2
          go_roundw
          case rel =>
            refine ⟨k + 1, by omega, by first | rfl | go_num, fun j hj h => ?_, B2⟩
            by_cases e : j = k
            · subst e; rw [unhide HPK]; exact ⟨unhide HPG, fun h => absurd h hlu⟩
            · exact hg.out j hj (by omega)
          case measure => simp [intOf]; omega
end Go.Proofs.Ytogioeflbbmppaa.ImplB
