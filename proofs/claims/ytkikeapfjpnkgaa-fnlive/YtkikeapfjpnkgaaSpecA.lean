/-
  The specification's functions on blocks that only read, for every list of blocks: whether a page, and whether the blocks are ok; how many pages are clean; whether a number is there.
-/
import Derived.Test.YtkikeapfjpnkgaaBaE
import Derived.Deep.RegionHeld3
import Derived.Deep.DrawnRows
namespace Go.Proofs.Ytkikeapfjpnkgaa.SpecA
open Go.ChangeShapes Go.WideShapes Go.ChangeAt Go.RowKit OkA Big Fl ImplB ImplF ImplS _root_.Go.Proofs.Ytkikeapfjpnkgaa.Own ImplT ImplU
set_option linter.unusedVariables false
set_option linter.unusedSimpArgs false
attribute [local go_sem ↓] Go.wp_at_zero Go.wp_at_succ

set_option maxHeartbeats 400000 in
theorem page_any (p : Pg) (w : World) :
    Calls Try.prog 55 #[.agg #[.int .i64 p.st, .int .i64 p.k, .int .i64 p.s, .int .i64 p.a, .int .i64 p.v]] w fun e w' => e = .returned (.bool (pgB p)) ∧ Below w.heap.size w w' := by
  obtain ⟨st, k, s, x, v⟩ := p
  by_cases h1 : st = 1
  · subst h1
    go_enter Try.func55, Try.ntmps55
    go_wp2_with fail
    refine (specOk_any _ _ _ _ _).mono ?_
    rintro e w1 ⟨rfl, b1⟩
    go_wp2
    go_ret
    exact ⟨rfl, ((Below.refl _ _).alloc (Nat.le_refl _) _).trans (b1.mono (by simp))⟩
  by_cases h0 : st = 0
  · subst h0
    go_enter Try.func55, Try.ntmps55
    go_wp2
    all_goals
      go_ret
      refine ⟨?_, (Below.refl _ _).alloc (Nat.le_refl _) _⟩
      simp [pgB, noB, *]
  by_cases h2 : st = 2
  · subst h2
    go_enter Try.func55, Try.ntmps55
    go_wp2
    all_goals
      go_ret
      refine ⟨?_, (Below.refl _ _).alloc (Nat.le_refl _) _⟩
      simp [pgB, noB, *]
  · have hb : pgB ⟨st, k, s, x, v⟩ = false := by simp [pgB, h0, h1, h2]
    rw [hb]
    clear hb
    have g1 : (st == 1) = false := by simpa using h1
    have g0 : (st == 0) = false := by simpa using h0
    have g2 : (st == 2) = false := by simpa using h2
    clear h0 h1 h2
    go_enter Try.func55, Try.ntmps55
    go_wp2
    go_ret
    exact ⟨rfl, (Below.refl _ _).alloc (Nat.le_refl _) _⟩

/-! A clean page just ahead of one that is not. -/
theorem tail_adj (ps : List Pg) : tailB ps = true ↔ ∀ j (hj : j + 1 < ps.length), ¬ (clB (ps[j]'(by omega)) = true ∧ clB ps[j + 1] = false) := by
  induction ps with
  | nil => simp [tailB]
  | cons p r ih =>
    simp only [tailB, Bool.and_eq_true, Bool.or_eq_true, Bool.not_eq_true', ih]
    constructor
    · rintro ⟨h1, h2⟩ j hj ⟨g1, g2⟩
      cases j with
      | zero =>
        simp only [List.getElem_cons_zero] at g1
        simp only [Nat.zero_add, List.getElem_cons_succ] at g2
        rcases h1 with h1 | h1
        · rw [h1] at g1; cases g1
        · rw [List.all_eq_true.1 h1 _ (List.getElem_mem (by simpa using hj))] at g2; cases g2
      | succ j =>
        simp only [List.getElem_cons_succ] at g1 g2
        exact h2 j (by simpa using hj) ⟨g1, g2⟩
    · intro h
      refine ⟨?_, fun j hj g => h (j + 1) (by simpa using hj) (by simpa using g)⟩
      cases hp : clB p
      · exact .inl rfl
      · refine .inr ?_
        rw [List.all_eq_true]
        intro x hx
        obtain ⟨i, hi, rfl⟩ := List.getElem_of_mem hx
        clear hx ih
        induction i with
        | zero =>
          cases hc : clB r[0]
          · exact absurd ⟨by simpa using hp, by simpa using hc⟩ (h 0 (by simpa using hi))
          · rfl
        | succ i ih =>
          have := ih (by omega)
          cases hc : clB r[i + 1]
          · exact absurd ⟨by simpa using this, by simpa using hc⟩ (h (i + 1) (by simpa using hi))
          · rfl
theorem bkB_spec (b : Bk) (h4 : b.ps.length = 4) (hw : inB b.wn 0 200 = true) (h : ∀ i (hi : i < b.ps.length), pgB b.ps[i] = true) (g : ∀ m (hm : m + 1 < b.ps.length), ¬ (clB (b.ps[m]'(by omega)) = true ∧ clB b.ps[m + 1] = false)) : bkB b = true := by
  have h1 : b.ps.all pgB = true := List.all_eq_true.2 fun x hx => by
    obtain ⟨j, hj, rfl⟩ := List.getElem_of_mem hx
    exact h j hj
  have h2 : tailB b.ps = true := (tail_adj _).2 g
  simp [bkB, h4, h1, h2, hw]
theorem bkB_adj (b : Bk) (m : Nat) (hm : m + 1 < b.ps.length) (h : clB (b.ps[m]'(by omega)) = true ∧ clB b.ps[m + 1] = false) : bkB b = false := by
  cases hb : bkB b
  · rfl
  · simp only [bkB, Bool.and_eq_true, tail_adj] at hb
    exact absurd h (hb.2 m hm)
theorem bkB_len (b : Bk) (h : ¬ b.ps.length = 4) : bkB b = false := by simp [bkB, h]
theorem bkB_worn (b : Bk) (h : inB b.wn 0 200 = false) : bkB b = false := by simp [bkB, h]
theorem okB_dup (bs : List Bk) (h : ¬ (seqs bs).Nodup) : okB bs = false := by
  cases ho : okB bs
  · rfl
  · simp only [okB, Bool.and_eq_true, nodB_iff] at ho; exact absurd ho.2 h
theorem okB_end (bs : List Bk) (h : ∀ b ∈ bs, bkB b = true) (hn : (seqs bs).Nodup) : okB bs = (bs.length == 4) := by
  have h1 : bs.all bkB = true := List.all_eq_true.2 h
  have h2 := (nodB_iff _).2 hn
  simp [okB, h1, h2]
theorem pg_seq {p : Pg} (h : pgB p = true) (h1 : p.st = 1) : 1 ≤ p.s ∧ p.s ≤ 600 := by
  simp [pgB, h1, recB, numB, inB] at h
  omega
theorem pg_zero {p : Pg} (h : pgB p = true) (h1 : ¬ p.st = 1) : p.s = 0 := by
  simp only [pgB, if_neg h1] at h
  split at h
  · simp [noB] at h; exact h.1.1.2
  · split at h
    · simp [noB] at h; exact h.1.1.2
    · cases h
theorem addr_ne {b o b' o' : Nat} (h : b ≠ b') : (⟨b, o, none⟩ : Addr) ≠ ⟨b', o', none⟩ := fun e => h (congrArg Addr.block e)
theorem Seen.made (w : World) (T : TypeId) : Seen (w.alloc (.cells (madeCells #[.bool false] 601) T)) w.heap.size [] := by
  refine ⟨fun i hi => ?_, fun i hi => by simp⟩
  rw [World.cell?_alloc_at _ _ _ _ rfl, ← Array.getElem?_toList, toList_madeCells_one, List.getElem?_replicate, if_pos (by omega)]
  rfl
theorem Seen.keep {w : World} {sb : Nat} {l : List Int} (h : Seen w sb l) (s : Nat) (hs : s ≤ 600) (hc : l.contains (s : Int) = false) : Seen (w.setCell ⟨sb, s, none⟩ (.bool false)) sb l := by
  refine ⟨fun i hi => ?_, fun i hi => by rw [World.frozen?_setCell]; exact h.froz i hi⟩
  by_cases e : s = i
  · subst e
    rw [World.cell?_setCell_same _ _ _ (h.cell _ hi), hc]
  · rw [World.cell?_setCell_other _ _ _ _ (by simp [e]), h.cell i hi]
theorem Seen.drew {w : World} {sb : Nat} {l : List Int} (h : Seen w sb l) : Seen w.drew sb l := h.below ((Below.refl (sb + 1) w).drew) (by omega)

set_option maxRecDepth 100000 in
set_option maxHeartbeats 8000000 in
theorem specOkF (fb fo cap : Nat) (bs : List Bk) (w : World) (hm : bs.length ≤ 1048576) (hf : ∀ i (hi : i < bs.length), BkAt w fb (fo + i * 2) bs[i]) :
    Calls Try.prog 22 #[.slice (some ⟨fb, fo, none⟩) bs.length cap] w fun e w' => e = .returned (.bool (okB bs)) ∧ Below w.heap.size w w' := by
  have sn := Seen.made w 4
  have b0 : Below w.heap.size w (w.alloc (.cells (madeCells #[.bool false] 601) 4)) := (Below.refl _ _).alloc (Nat.le_refl _) _
  have hmi : (bs.length : Int) ≤ 1048576 := by omega
  have HF := hide hf
  clear hf
  go_enter Try.func22, Try.ntmps22
  go_wp2_with (first | (refine wpList_make_big rfl 82 _ _ rfl 601 rfl rfl 4 1 1 (.bool false) Try.underlying82 (by kernel_rfl) (by omega) (by omega) ?_))
  generalize hw1 : w.alloc (.cells (madeCells #[.bool false] 601) 4) = w1 at *
  have s1 : w.heap.size < w1.heap.size := by rw [← hw1]; simp
  clear hw1
  go_loopw [4] (fun i w' => ∃ k : Nat, k ≤ bs.length ∧ i = .int .i64 k ∧ Hid (∀ j (hj : j < bs.length), j < k → bkB bs[j] = true) ∧ Hid (seqs (bs.take k)).Nodup ∧ Hid (∀ x ∈ seqs (bs.take k), 1 ≤ x) ∧ Seen w' w.heap.size (seqs (bs.take k)) ∧ Below w.heap.size w w' ∧ w.heap.size < w'.heap.size) (fun i _ => bs.length - (intOf i).toNat)
  case atStart => exact ⟨0, by omega, rfl, fun j hj h => by omega, by simp [Hid, seqs], by simp [Hid, seqs], by simpa [seqs] using sn, b0, s1⟩
  case round =>
    obtain ⟨k, hk, rfl, hall, hnd, hpos, sk, bw, hsz⟩ := hrel
    clear sn b0
    by_cases h0 : k = bs.length
    · subst h0
      have HN : Hid (okB bs = (bs.length == 4)) := okB_end bs (fun b hb => by
        obtain ⟨j, hj, rfl⟩ := List.getElem_of_mem hb
        exact hall.out j hj hj) (by have := hnd.out; rwa [List.take_of_length_le (by omega)] at this)
      by_cases h4 : bs.length = 4
      · have g4 : ((bs.length : Int) == 4) = true := by simp; omega
        have HN' : Hid (okB bs = true) := by rw [Hid, unhide HN]; simpa using h4
        clear h4
        go_wp2
        go_ret
        exact ⟨by rw [unhide HN']; rfl, bw⟩
      · have g4 : ((bs.length : Int) == 4) = false := by simp; omega
        have HN' : Hid (okB bs = false) := by rw [Hid, unhide HN]; simpa using h4
        clear h4
        go_wp2
        go_ret
        exact ⟨by rw [unhide HN']; rfl, bw⟩
    · have hlt : (k : Int) < (bs.length : Int) := by omega
      have hkb : k < bs.length := by omega
      have hlo : (0 : Int) ≤ (k : Int) := by omega
      obtain ⟨pa, pc, c0w, c1w, hpsw⟩ := unhide HF k hkb
      have lfw := cell_lt c0w
      have c0 := c0w
      have c1 := c1w
      rw [← bw.cell (p := ⟨fb, fo + k * 2, none⟩) lfw] at c0
      rw [← bw.cell (p := ⟨fb, fo + k * 2 + 1, none⟩) lfw] at c1
      clear c0w c1w
      have HBAD := hide (okB_bad bs k hkb)
      have HSP := hide (seqs_split bs k hkb)
      have HST := hide (seqs_take bs k hkb)
      generalize hbk : bs[k] = b at *
      have HBK := hide hbk
      clear hbk
      by_cases hb4 : b.ps.length = 4
      rotate_left
      · have hne : ((b.ps.length : Int) != 4) = true := by simp; omega
        have HN := hide (unhide HBAD (bkB_len b hb4))
        clear hb4 hpsw
        go_wp2
        go_ret
        exact ⟨by rw [unhide HN]; rfl, bw⟩
      rw [hb4] at c0
      obtain ⟨pb, po, rfl, hrw⟩ : ∃ pb po, pa = some ⟨pb, po, none⟩ ∧ w.rangeAt pb po (psC b.ps) := by
        rcases hpsw with h | h
        · rw [h] at hb4; simp at hb4
        · exact h
      have lpw := cell_lt (PsAt.cells hrw 0 (by omega)).1
      have hr := rangeAt_below hrw bw lpw
      clear hpsw hrw
      cases hwn : inB b.wn 0 200
      · have HN := hide (unhide HBAD (bkB_worn b hwn))
        have HC := hide (l6In_any b.wn 0 200)
        rw [hwn] at HC
        clear hr hwn
        go_wp2_with (go_at_call 45; refine (unhide HC _).mono ?_; rintro e w' ⟨rfl, rfl⟩)
        go_ret
        exact ⟨by rw [unhide HN]; rfl, bw⟩
      have HWN := hide hwn
      have HC := hide (l6In_any b.wn 0 200)
      rw [hwn] at HC
      clear hwn
      go_wp2_with (go_at_call 45; refine (unhide HC _).mono ?_; rintro e w' ⟨rfl, hw'⟩; obtain rfl := hw'.symm)
      have HR := hide hr
      have C0 := hide c0
      have sk0 := hide sk
      clear c1 hr c0 sk
      go_loopw [5] (fun i w' => ∃ j : Nat, j ≤ 4 ∧ i = .int .i64 j ∧ Hid ((∀ i (hi : i < b.ps.length), i < j → pgB b.ps[i] = true) ∧ (∀ m (hm : m + 1 < b.ps.length), m + 1 < j → ¬ (clB (b.ps[m]'(by omega)) = true ∧ clB b.ps[m + 1] = false))) ∧ Hid (seqs (bs.take k) ++ seqsP (b.ps.take j)).Nodup ∧ Hid (∀ x ∈ seqs (bs.take k) ++ seqsP (b.ps.take j), 1 ≤ x) ∧ Seen w' w.heap.size (seqs (bs.take k) ++ seqsP (b.ps.take j)) ∧ Below w.heap.size w w' ∧ wr.heap.size ≤ w'.heap.size ∧ Hid (w'.cell? ⟨fb, fo + k * 2, none⟩ = some (.slice (some ⟨pb, po, none⟩) 4 pc)) ∧ Hid (w'.rangeAt pb po (psC b.ps))) (fun i _ => 4 - (intOf i).toNat)
      case atStart => exact ⟨0, by omega, rfl, ⟨fun j hj h => by omega, fun j hj h => by omega⟩, by simpa [seqsP] using hnd, by simpa [seqsP] using hpos, by simpa [seqsP] using unhide sk0, bw, Nat.le_refl _, C0, HR⟩
      case round =>
        obtain ⟨j, hj, rfl, hallj, hnj, hpj, sj, bj, hsj, C0j, HRj⟩ := hrel
        clear sk0 C0 HR hnd hpos bw
        by_cases h4j : j = 4
        · subst h4j
          have HB : Hid (bkB b = true) := bkB_spec b hb4 (unhide HWN) (fun i hi => hallj.out.1 i hi (by omega)) (fun m hm => hallj.out.2 m hm (by omega))
          go_wp2
          go_roundw
          case rel =>
            refine ⟨k + 1, by omega, by first | rfl | go_num, fun i hi h => ?_, ?_, ?_, ?_, bj, by omega⟩
            · by_cases e : i = k
              · subst e; rw [unhide HBK]; exact unhide HB
              · exact hall.out i hi (by omega)
            · rw [unhide HST]; have := hnj.out; rwa [List.take_of_length_le (l := b.ps) (by omega)] at this
            · rw [unhide HST]; have := hpj.out; rwa [List.take_of_length_le (l := b.ps) (by omega)] at this
            · rw [unhide HST]; rwa [List.take_of_length_le (l := b.ps) (by omega)] at sj
          case measure => simp [intOf]; omega
        rcases j with _ | m
        · skip
          have hjb : 0 < b.ps.length := by omega
          have hr := unhide HRj
          have c0 := unhide C0j
          obtain ⟨d0, d1, d2, d3, d4⟩ := PsAt.cells hr 0 hjb
          simp only [Nat.zero_mul, Nat.add_zero] at d0 d1 d2 d3 d4
          have HSQ := hide (seqsP_take b.ps 0 hjb)
          have HDW := hide (drop_w b.ps 0 hjb)
          have HBP := hide (bkB_bad b 0 hjb)
          generalize hpk : b.ps[0] = p at *
          have HPK := hide hpk
          clear hpk
          have HPO := hide (page_any p)
          clear hr
          go_wp2_with fail
          refine (unhide HPO _).mono ?_
          rintro e w3 ⟨rfl, b3⟩
          have q0 : w3.cell? ⟨wr.heap.size, 0, none⟩ = some (.int .i64 p.st) := by rw [b3.cell (p := ⟨wr.heap.size, 0, none⟩) (by simp)]; simp
          have q2 : w3.cell? ⟨wr.heap.size, 2, none⟩ = some (.int .i64 p.s) := by rw [b3.cell (p := ⟨wr.heap.size, 2, none⟩) (by simp)]; simp
          have B3 : Below wr.heap.size wr w3 := ((Below.refl _ _).alloc (Nat.le_refl _) _).trans (b3.mono (by simp))
          have Sj := sj.below B3 (by omega)
          have bj3 := bj.trans (B3.mono bj.size)
          have s3 : wr.heap.size < w3.heap.size := by have := b3.size; simp at this; omega
          have c3 : w3.cell? ⟨fb, fo + k * 2, none⟩ = some (.slice (some ⟨pb, po, none⟩) 4 pc) := by rw [B3.cell (p := ⟨fb, fo + k * 2, none⟩) (by simp; omega)]; exact c0
          have C3 := hide c3
          have R3 := hide (rangeAt_below (unhide HRj) B3 (by omega))
          clear d0 d1 d2 d3 d4 c0 C0j HRj sj B3
          cases hpg : pgB p
          · have HN := hide (unhide HBAD (unhide HBP (.inl hpg)))
            clear b3 Sj c3
            go_wp2
            go_ret
            exact ⟨by rw [unhide HN]; rfl, bj3⟩
          have HPG := hide hpg
          by_cases hp0 : p.st = 0
          · skip
            have hp1 : ¬ p.st = 1 := by omega
            have hs0h := hide (pg_zero (unhide HPG) hp1)
            have HC0 : Hid ((seqs (bs.take k) ++ seqsP (b.ps.take 0)).contains (((0 : Int).toNat : Nat) : Int) = false) := by
              show _ = _
              cases hc : (seqs (bs.take k) ++ seqsP (b.ps.take 0)).contains (((0 : Int).toNat : Nat) : Int)
              · rfl
              · have := hpj.out 0 (by simpa using hc); omega
            have qs : w3.cell? ⟨w.heap.size, p.s.toNat, none⟩ = some (.bool false) := by have h0 := unhide hs0h; rw [h0, Sj.cell _ (by omega), unhide HC0]
            have qf := Sj.froz p.s.toNat (by have h0 := unhide hs0h; omega)
            have hl0 : (0 : Int) ≤ p.s := by have h0 := unhide hs0h; omega
            have hl1 : p.s < 601 := by have h0 := unhide hs0h; omega
            have g1 : (p.st == 1) = false := by simpa using hp1
            have hp1h := hide hp1
            have g0 : (p.st != 0) = false := by simpa using hp0
            clear hp0 hp1 hpg
            clear b3
            go_wp2_with fail
            refine wp_region_noPanic ?_
            refine wp_region_held_drew (S := fun w' => w'.cell? ⟨wr.heap.size, 0, none⟩ = some (.int .i64 p.st) ∧ w'.cell? ⟨wr.heap.size, 2, none⟩ = some (.int .i64 p.s)) (by kernel_rfl) (⟨by simpa using q0, by simpa using q2⟩) (fun hHeld => ?_)
            refine takeL 0 (.slice (some ⟨w.heap.size, 0, none⟩) 601 601) rfl (by kernel_rfl) (by kernel_rfl) (by kernel_rfl) (fun _ _ _ h => h) (Or.inl ⟨rfl, fun _ _ => rfl⟩) hHeld ?_
            try simp only [Act.put, List.setIfInBounds_toArray, List.set_cons_zero, List.set_cons_succ]
            refine takeL 1 (.pointer (some ⟨wr.heap.size, 1, none⟩)) rfl (by kernel_rfl) (by kernel_rfl) (by kernel_rfl) (fun _ _ _ h => h) (Or.inl ⟨rfl, fun w9 hSw => by go_simp⟩) hHeld ?_
            try simp only [Act.put, List.setIfInBounds_toArray, List.set_cons_zero, List.set_cons_succ]
            refine takeL 2 (.pointer (some ⟨wr.heap.size, 2, none⟩)) rfl (by kernel_rfl) (by kernel_rfl) (by kernel_rfl) (fun _ _ _ h => h) (Or.inl ⟨rfl, fun w9 hSw => by go_simp⟩) hHeld ?_
            try simp only [Act.put, List.setIfInBounds_toArray, List.set_cons_zero, List.set_cons_succ]
            refine takeL 3 (.int .i64 p.s) rfl (by kernel_rfl) (by kernel_rfl) (by kernel_rfl) (fun _ _ _ h => h) (Or.inl ⟨rfl, fun w9 hSw => by have hc := hSw.2; go_simp⟩) hHeld ?_
            try simp only [Act.put, List.setIfInBounds_toArray, List.set_cons_zero, List.set_cons_succ]
            refine takeL 4 (.slice (some ⟨w.heap.size, 0, none⟩) 601 601) rfl (by kernel_rfl) (by kernel_rfl) (by kernel_rfl) (fun _ _ _ h => h) (Or.inl ⟨rfl, fun _ _ => rfl⟩) hHeld ?_
            try simp only [Act.put, List.setIfInBounds_toArray, List.set_cons_zero, List.set_cons_succ]
            refine takeL 5 (.pointer (some ⟨wr.heap.size, 1, none⟩)) rfl (by kernel_rfl) (by kernel_rfl) (by kernel_rfl) (fun _ _ _ h => h) (Or.inl ⟨rfl, fun w9 hSw => by go_simp⟩) hHeld ?_
            try simp only [Act.put, List.setIfInBounds_toArray, List.set_cons_zero, List.set_cons_succ]
            refine takeL 6 (.pointer (some ⟨wr.heap.size, 2, none⟩)) rfl (by kernel_rfl) (by kernel_rfl) (by kernel_rfl) (fun _ _ _ h => h) (Or.inl ⟨rfl, fun w9 hSw => by go_simp⟩) hHeld ?_
            try simp only [Act.put, List.setIfInBounds_toArray, List.set_cons_zero, List.set_cons_succ]
            refine takeL 7 (.int .i64 p.s) rfl (by kernel_rfl) (by kernel_rfl) (by kernel_rfl) (fun _ _ _ h => h) (Or.inl ⟨rfl, fun w9 hSw => by have hc := hSw.2; go_simp⟩) hHeld ?_
            try simp only [Act.put, List.setIfInBounds_toArray, List.set_cons_zero, List.set_cons_succ]
            refine takeL 8 (.pointer (some ⟨w.heap.size, p.s.toNat, none⟩)) rfl (by kernel_rfl) (by kernel_rfl) (by kernel_rfl) (fun _ _ _ h => h) (Or.inl ⟨rfl, fun w9 hSw => by go_simp⟩) hHeld ?_
            try simp only [Act.put, List.setIfInBounds_toArray, List.set_cons_zero, List.set_cons_succ]
            refine oneL 9 rfl (by kernel_rfl) rfl (fun K hK => ?_)
            go_simp
            refine hK.out _ _ hHeld (fun hHeld => ?_)
            clear hK K
            try simp only [Act.put, List.setIfInBounds_toArray, List.set_cons_zero, List.set_cons_succ]
            refine takeL 10 (.bool false) rfl (by kernel_rfl) (by kernel_rfl) (by kernel_rfl) (fun _ _ _ h => h) (Or.inl ⟨rfl, fun _ _ => rfl⟩) hHeld ?_
            try simp only [Act.put, List.setIfInBounds_toArray, List.set_cons_zero, List.set_cons_succ]
            refine takeL 11 (.pointer (some ⟨wr.heap.size, 0, none⟩)) rfl (by kernel_rfl) (by kernel_rfl) (by kernel_rfl) (fun _ _ _ h => h) (Or.inl ⟨rfl, fun w9 hSw => by go_simp⟩) hHeld ?_
            try simp only [Act.put, List.setIfInBounds_toArray, List.set_cons_zero, List.set_cons_succ]
            refine takeL 12 (.int .i64 p.st) rfl (by kernel_rfl) (by kernel_rfl) (by kernel_rfl) (fun _ _ _ h => h) (Or.inl ⟨rfl, fun w9 hSw => by have hc := hSw.1; go_simp⟩) hHeld ?_
            try simp only [Act.put, List.setIfInBounds_toArray, List.set_cons_zero, List.set_cons_succ]
            refine takeL 13 (.bool false) rfl (by kernel_rfl) (by kernel_rfl) (by kernel_rfl) (fun _ _ _ h => h) (Or.inl ⟨rfl, fun w9 hSw => by go_simp⟩) hHeld ?_
            try simp only [Act.put, List.setIfInBounds_toArray, List.set_cons_zero, List.set_cons_succ]
            refine takeL 14 (.bool false) rfl (by kernel_rfl) (by kernel_rfl) (by kernel_rfl) (fun _ _ _ h => h) (Or.inl ⟨rfl, fun _ _ => rfl⟩) hHeld ?_
            try simp only [Act.put, List.setIfInBounds_toArray, List.set_cons_zero, List.set_cons_succ]
            refine takeL 15 (.pointer (some ⟨w.heap.size, p.s.toNat, none⟩)) rfl (by kernel_rfl) (by kernel_rfl) (by kernel_rfl) (fun _ _ _ h => h) (Or.inl ⟨rfl, fun w9 hSw => by go_simp⟩) hHeld ?_
            try simp only [Act.put, List.setIfInBounds_toArray, List.set_cons_zero, List.set_cons_succ]
            refine oneL 16 rfl (by kernel_rfl) rfl (fun K hK => ?_)
            go_simp
            refine hK.out _ _ ⟨by show (w3.setCell _ _).cell? _ = _; rw [World.cell?_setCell_other _ _ _ _ (addr_ne (by omega))]; exact hHeld.1, by show (w3.setCell _ _).cell? _ = _; rw [World.cell?_setCell_other _ _ _ _ (addr_ne (by omega))]; exact hHeld.2⟩ (fun hHeld => ?_)
            clear hK K
            try simp only [Act.put, List.setIfInBounds_toArray, List.set_cons_zero, List.set_cons_succ]
            refine wpAnyH_done (by kernel_rfl) ?_ _
            refine NoPanic.normal ?_
            have hsj4 : w3.heap.size ≤ (w3.setCell ⟨w.heap.size, p.s.toNat, none⟩ (.bool false)).drew.heap.size := by simp
            go_wp2
            go_roundw
            case rel =>
              have e : seqsP (b.ps.take (0 + 1)) = seqsP (b.ps.take 0) := by rw [unhide HSQ, seqP_n (unhide hp1h)]; simp
              refine ⟨0 + 1, by omega, by first | rfl | go_num, ?_, by rw [e]; exact hnj, by rw [e]; exact hpj, by rw [e]; have h0 := unhide hs0h; exact Seen.drew (Seen.keep Sj p.s.toNat (by omega) (by rw [h0]; exact unhide HC0)), (bj3.setCell (Nat.le_refl _) _).drew, by omega, ?_, ?_⟩
              · refine ⟨fun i hi h => ?_, fun q hq h => ?_⟩
                · by_cases e : i = 0
                  · subst e; rw [unhide HPK]; exact unhide HPG
                  · exact hallj.out.1 i hi (by omega)
                · by_cases e : q + 1 = 0
                  · omega
                  · exact hallj.out.2 q hq (by omega)
              · show (w3.setCell _ _).cell? _ = _; rw [World.cell?_setCell_other _ _ _ _ (addr_ne (by omega))]; exact unhide C3
              · intro x v hv; show (w3.setCell _ _).cell? _ = _; rw [World.cell?_setCell_other _ _ _ _ (addr_ne (by omega))]; exact unhide R3 x v hv
            case measure => first | (simp [intOf]; done) | (simp [intOf]; omega)
          have g0 : (p.st != 0) = true := by simpa using hp0
          by_cases hp1 : p.st = 1
          · have hsq := pg_seq (unhide HPG) hp1
            obtain ⟨hq1, hq2⟩ := hsq
            have g1 : (p.st == 1) = true := by simpa using hp1
            have hp1h := hide hp1
            have hl0 : (0 : Int) ≤ p.s := by omega
            have hl1 : p.s < 601 := by omega
            have qs := Sj.cell p.s.toNat (by omega)
            have qf := Sj.froz p.s.toNat (by omega)
            rw [show ((p.s.toNat : Nat) : Int) = p.s by omega] at qs
            clear hp0 hp1 hpg
            cases hcn : (seqs (bs.take k) ++ seqsP (b.ps.take 0)).contains p.s
            · rw [hcn] at qs
              have HCN := hide hcn
              clear hcn
              clear b3
              go_wp2_with fail
              refine wp_region_noPanic ?_
              refine wp_region_held_drew (S := fun w' => w'.cell? ⟨wr.heap.size, 0, none⟩ = some (.int .i64 p.st) ∧ w'.cell? ⟨wr.heap.size, 2, none⟩ = some (.int .i64 p.s)) (by kernel_rfl) (⟨by simpa using q0, by simpa using q2⟩) (fun hHeld => ?_)
              refine takeL 0 (.slice (some ⟨w.heap.size, 0, none⟩) 601 601) rfl (by kernel_rfl) (by kernel_rfl) (by kernel_rfl) (fun _ _ _ h => h) (Or.inl ⟨rfl, fun _ _ => rfl⟩) hHeld ?_
              try simp only [Act.put, List.setIfInBounds_toArray, List.set_cons_zero, List.set_cons_succ]
              refine takeL 1 (.pointer (some ⟨wr.heap.size, 1, none⟩)) rfl (by kernel_rfl) (by kernel_rfl) (by kernel_rfl) (fun _ _ _ h => h) (Or.inl ⟨rfl, fun w9 hSw => by go_simp⟩) hHeld ?_
              try simp only [Act.put, List.setIfInBounds_toArray, List.set_cons_zero, List.set_cons_succ]
              refine takeL 2 (.pointer (some ⟨wr.heap.size, 2, none⟩)) rfl (by kernel_rfl) (by kernel_rfl) (by kernel_rfl) (fun _ _ _ h => h) (Or.inl ⟨rfl, fun w9 hSw => by go_simp⟩) hHeld ?_
              try simp only [Act.put, List.setIfInBounds_toArray, List.set_cons_zero, List.set_cons_succ]
              refine takeL 3 (.int .i64 p.s) rfl (by kernel_rfl) (by kernel_rfl) (by kernel_rfl) (fun _ _ _ h => h) (Or.inl ⟨rfl, fun w9 hSw => by have hc := hSw.2; go_simp⟩) hHeld ?_
              try simp only [Act.put, List.setIfInBounds_toArray, List.set_cons_zero, List.set_cons_succ]
              refine takeL 4 (.slice (some ⟨w.heap.size, 0, none⟩) 601 601) rfl (by kernel_rfl) (by kernel_rfl) (by kernel_rfl) (fun _ _ _ h => h) (Or.inl ⟨rfl, fun _ _ => rfl⟩) hHeld ?_
              try simp only [Act.put, List.setIfInBounds_toArray, List.set_cons_zero, List.set_cons_succ]
              refine takeL 5 (.pointer (some ⟨wr.heap.size, 1, none⟩)) rfl (by kernel_rfl) (by kernel_rfl) (by kernel_rfl) (fun _ _ _ h => h) (Or.inl ⟨rfl, fun w9 hSw => by go_simp⟩) hHeld ?_
              try simp only [Act.put, List.setIfInBounds_toArray, List.set_cons_zero, List.set_cons_succ]
              refine takeL 6 (.pointer (some ⟨wr.heap.size, 2, none⟩)) rfl (by kernel_rfl) (by kernel_rfl) (by kernel_rfl) (fun _ _ _ h => h) (Or.inl ⟨rfl, fun w9 hSw => by go_simp⟩) hHeld ?_
              try simp only [Act.put, List.setIfInBounds_toArray, List.set_cons_zero, List.set_cons_succ]
              refine takeL 7 (.int .i64 p.s) rfl (by kernel_rfl) (by kernel_rfl) (by kernel_rfl) (fun _ _ _ h => h) (Or.inl ⟨rfl, fun w9 hSw => by have hc := hSw.2; go_simp⟩) hHeld ?_
              try simp only [Act.put, List.setIfInBounds_toArray, List.set_cons_zero, List.set_cons_succ]
              refine takeL 8 (.pointer (some ⟨w.heap.size, p.s.toNat, none⟩)) rfl (by kernel_rfl) (by kernel_rfl) (by kernel_rfl) (fun _ _ _ h => h) (Or.inl ⟨rfl, fun w9 hSw => by go_simp⟩) hHeld ?_
              try simp only [Act.put, List.setIfInBounds_toArray, List.set_cons_zero, List.set_cons_succ]
              refine oneL 9 rfl (by kernel_rfl) rfl (fun K hK => ?_)
              go_simp
              refine hK.out _ _ hHeld (fun hHeld => ?_)
              clear hK K
              try simp only [Act.put, List.setIfInBounds_toArray, List.set_cons_zero, List.set_cons_succ]
              refine takeL 10 (.bool false) rfl (by kernel_rfl) (by kernel_rfl) (by kernel_rfl) (fun _ _ _ h => h) (Or.inl ⟨rfl, fun _ _ => rfl⟩) hHeld ?_
              try simp only [Act.put, List.setIfInBounds_toArray, List.set_cons_zero, List.set_cons_succ]
              refine takeL 11 (.pointer (some ⟨wr.heap.size, 0, none⟩)) rfl (by kernel_rfl) (by kernel_rfl) (by kernel_rfl) (fun _ _ _ h => h) (Or.inl ⟨rfl, fun w9 hSw => by go_simp⟩) hHeld ?_
              try simp only [Act.put, List.setIfInBounds_toArray, List.set_cons_zero, List.set_cons_succ]
              refine takeL 12 (.int .i64 p.st) rfl (by kernel_rfl) (by kernel_rfl) (by kernel_rfl) (fun _ _ _ h => h) (Or.inl ⟨rfl, fun w9 hSw => by have hc := hSw.1; go_simp⟩) hHeld ?_
              try simp only [Act.put, List.setIfInBounds_toArray, List.set_cons_zero, List.set_cons_succ]
              refine takeL 13 (.bool true) rfl (by kernel_rfl) (by kernel_rfl) (by kernel_rfl) (fun _ _ _ h => h) (Or.inl ⟨rfl, fun w9 hSw => by go_simp⟩) hHeld ?_
              try simp only [Act.put, List.setIfInBounds_toArray, List.set_cons_zero, List.set_cons_succ]
              refine takeL 14 (.bool true) rfl (by kernel_rfl) (by kernel_rfl) (by kernel_rfl) (fun _ _ _ h => h) (Or.inl ⟨rfl, fun _ _ => rfl⟩) hHeld ?_
              try simp only [Act.put, List.setIfInBounds_toArray, List.set_cons_zero, List.set_cons_succ]
              refine takeL 15 (.pointer (some ⟨w.heap.size, p.s.toNat, none⟩)) rfl (by kernel_rfl) (by kernel_rfl) (by kernel_rfl) (fun _ _ _ h => h) (Or.inl ⟨rfl, fun w9 hSw => by go_simp⟩) hHeld ?_
              try simp only [Act.put, List.setIfInBounds_toArray, List.set_cons_zero, List.set_cons_succ]
              refine oneL 16 rfl (by kernel_rfl) rfl (fun K hK => ?_)
              go_simp
              refine hK.out _ _ ⟨by show (w3.setCell _ _).cell? _ = _; rw [World.cell?_setCell_other _ _ _ _ (addr_ne (by omega))]; exact hHeld.1, by show (w3.setCell _ _).cell? _ = _; rw [World.cell?_setCell_other _ _ _ _ (addr_ne (by omega))]; exact hHeld.2⟩ (fun hHeld => ?_)
              clear hK K
              try simp only [Act.put, List.setIfInBounds_toArray, List.set_cons_zero, List.set_cons_succ]
              refine wpAnyH_done (by kernel_rfl) ?_ _
              refine NoPanic.normal ?_
              have hsj4 : w3.heap.size ≤ (w3.setCell ⟨w.heap.size, p.s.toNat, none⟩ (.bool true)).drew.heap.size := by simp
              go_wp2
              go_roundw
              case rel =>
                have e : seqsP (b.ps.take (0 + 1)) = seqsP (b.ps.take 0) ++ [p.s] := by rw [unhide HSQ, seqP_w (unhide hp1h)]; rfl
                refine ⟨0 + 1, by omega, by first | rfl | go_num, ?_, by rw [e, ← List.append_assoc]; exact List.nodup_append.2 ⟨hnj.out, by simp, fun x hx y hy => by simp at hy; subst hy; intro q; subst q; exact (show ¬ _ from by simpa using unhide HCN) hx⟩, by rw [e, ← List.append_assoc]; intro x hx; rw [List.mem_append] at hx; rcases hx with hx | hx; exact hpj.out x hx; simp at hx; subst hx; omega, by rw [e, ← List.append_assoc]; exact Seen.drew (Sj.put p.s (by omega) (by omega)), (bj3.setCell (Nat.le_refl _) _).drew, by omega, ?_, ?_⟩
                · refine ⟨fun i hi h => ?_, fun q hq h => ?_⟩
                  · by_cases e : i = 0
                    · subst e; rw [unhide HPK]; exact unhide HPG
                    · exact hallj.out.1 i hi (by omega)
                  · by_cases e : q + 1 = 0
                    · omega
                    · exact hallj.out.2 q hq (by omega)
                · show (w3.setCell _ _).cell? _ = _; rw [World.cell?_setCell_other _ _ _ _ (addr_ne (by omega))]; exact unhide C3
                · intro x v hv; show (w3.setCell _ _).cell? _ = _; rw [World.cell?_setCell_other _ _ _ _ (addr_ne (by omega))]; exact unhide R3 x v hv
              case measure => first | (simp [intOf]; done) | (simp [intOf]; omega)
            · rw [hcn] at qs
              have HCN := hide hcn
              clear hcn
              clear b3 Sj
              go_wp2
              have HN := hide (okB_dup bs (fun hn => by
                rw [unhide HSP 0, unhide HDW (unhide hp1h)] at hn
                exact (List.nodup_append.1 hn).2.2 p.s (by simpa using unhide HCN) p.s (by simp) rfl))
              go_ret
              exact ⟨by rw [unhide HN]; rfl, bj3⟩
          · skip
            have hs0h := hide (pg_zero (unhide HPG) hp1)
            have HC0 : Hid ((seqs (bs.take k) ++ seqsP (b.ps.take 0)).contains (((0 : Int).toNat : Nat) : Int) = false) := by
              show _ = _
              cases hc : (seqs (bs.take k) ++ seqsP (b.ps.take 0)).contains (((0 : Int).toNat : Nat) : Int)
              · rfl
              · have := hpj.out 0 (by simpa using hc); omega
            have qs : w3.cell? ⟨w.heap.size, p.s.toNat, none⟩ = some (.bool false) := by have h0 := unhide hs0h; rw [h0, Sj.cell _ (by omega), unhide HC0]
            have qf := Sj.froz p.s.toNat (by have h0 := unhide hs0h; omega)
            have hl0 : (0 : Int) ≤ p.s := by have h0 := unhide hs0h; omega
            have hl1 : p.s < 601 := by have h0 := unhide hs0h; omega
            have g1 : (p.st == 1) = false := by simpa using hp1
            have hp1h := hide hp1
            clear hp0 hp1 hpg
            clear b3
            go_wp2_with fail
            refine wp_region_noPanic ?_
            refine wp_region_held_drew (S := fun w' => w'.cell? ⟨wr.heap.size, 0, none⟩ = some (.int .i64 p.st) ∧ w'.cell? ⟨wr.heap.size, 2, none⟩ = some (.int .i64 p.s)) (by kernel_rfl) (⟨by simpa using q0, by simpa using q2⟩) (fun hHeld => ?_)
            refine takeL 0 (.slice (some ⟨w.heap.size, 0, none⟩) 601 601) rfl (by kernel_rfl) (by kernel_rfl) (by kernel_rfl) (fun _ _ _ h => h) (Or.inl ⟨rfl, fun _ _ => rfl⟩) hHeld ?_
            try simp only [Act.put, List.setIfInBounds_toArray, List.set_cons_zero, List.set_cons_succ]
            refine takeL 1 (.pointer (some ⟨wr.heap.size, 1, none⟩)) rfl (by kernel_rfl) (by kernel_rfl) (by kernel_rfl) (fun _ _ _ h => h) (Or.inl ⟨rfl, fun w9 hSw => by go_simp⟩) hHeld ?_
            try simp only [Act.put, List.setIfInBounds_toArray, List.set_cons_zero, List.set_cons_succ]
            refine takeL 2 (.pointer (some ⟨wr.heap.size, 2, none⟩)) rfl (by kernel_rfl) (by kernel_rfl) (by kernel_rfl) (fun _ _ _ h => h) (Or.inl ⟨rfl, fun w9 hSw => by go_simp⟩) hHeld ?_
            try simp only [Act.put, List.setIfInBounds_toArray, List.set_cons_zero, List.set_cons_succ]
            refine takeL 3 (.int .i64 p.s) rfl (by kernel_rfl) (by kernel_rfl) (by kernel_rfl) (fun _ _ _ h => h) (Or.inl ⟨rfl, fun w9 hSw => by have hc := hSw.2; go_simp⟩) hHeld ?_
            try simp only [Act.put, List.setIfInBounds_toArray, List.set_cons_zero, List.set_cons_succ]
            refine takeL 4 (.slice (some ⟨w.heap.size, 0, none⟩) 601 601) rfl (by kernel_rfl) (by kernel_rfl) (by kernel_rfl) (fun _ _ _ h => h) (Or.inl ⟨rfl, fun _ _ => rfl⟩) hHeld ?_
            try simp only [Act.put, List.setIfInBounds_toArray, List.set_cons_zero, List.set_cons_succ]
            refine takeL 5 (.pointer (some ⟨wr.heap.size, 1, none⟩)) rfl (by kernel_rfl) (by kernel_rfl) (by kernel_rfl) (fun _ _ _ h => h) (Or.inl ⟨rfl, fun w9 hSw => by go_simp⟩) hHeld ?_
            try simp only [Act.put, List.setIfInBounds_toArray, List.set_cons_zero, List.set_cons_succ]
            refine takeL 6 (.pointer (some ⟨wr.heap.size, 2, none⟩)) rfl (by kernel_rfl) (by kernel_rfl) (by kernel_rfl) (fun _ _ _ h => h) (Or.inl ⟨rfl, fun w9 hSw => by go_simp⟩) hHeld ?_
            try simp only [Act.put, List.setIfInBounds_toArray, List.set_cons_zero, List.set_cons_succ]
            refine takeL 7 (.int .i64 p.s) rfl (by kernel_rfl) (by kernel_rfl) (by kernel_rfl) (fun _ _ _ h => h) (Or.inl ⟨rfl, fun w9 hSw => by have hc := hSw.2; go_simp⟩) hHeld ?_
            try simp only [Act.put, List.setIfInBounds_toArray, List.set_cons_zero, List.set_cons_succ]
            refine takeL 8 (.pointer (some ⟨w.heap.size, p.s.toNat, none⟩)) rfl (by kernel_rfl) (by kernel_rfl) (by kernel_rfl) (fun _ _ _ h => h) (Or.inl ⟨rfl, fun w9 hSw => by go_simp⟩) hHeld ?_
            try simp only [Act.put, List.setIfInBounds_toArray, List.set_cons_zero, List.set_cons_succ]
            refine oneL 9 rfl (by kernel_rfl) rfl (fun K hK => ?_)
            go_simp
            refine hK.out _ _ hHeld (fun hHeld => ?_)
            clear hK K
            try simp only [Act.put, List.setIfInBounds_toArray, List.set_cons_zero, List.set_cons_succ]
            refine takeL 10 (.bool false) rfl (by kernel_rfl) (by kernel_rfl) (by kernel_rfl) (fun _ _ _ h => h) (Or.inl ⟨rfl, fun _ _ => rfl⟩) hHeld ?_
            try simp only [Act.put, List.setIfInBounds_toArray, List.set_cons_zero, List.set_cons_succ]
            refine takeL 11 (.pointer (some ⟨wr.heap.size, 0, none⟩)) rfl (by kernel_rfl) (by kernel_rfl) (by kernel_rfl) (fun _ _ _ h => h) (Or.inl ⟨rfl, fun w9 hSw => by go_simp⟩) hHeld ?_
            try simp only [Act.put, List.setIfInBounds_toArray, List.set_cons_zero, List.set_cons_succ]
            refine takeL 12 (.int .i64 p.st) rfl (by kernel_rfl) (by kernel_rfl) (by kernel_rfl) (fun _ _ _ h => h) (Or.inl ⟨rfl, fun w9 hSw => by have hc := hSw.1; go_simp⟩) hHeld ?_
            try simp only [Act.put, List.setIfInBounds_toArray, List.set_cons_zero, List.set_cons_succ]
            refine takeL 13 (.bool false) rfl (by kernel_rfl) (by kernel_rfl) (by kernel_rfl) (fun _ _ _ h => h) (Or.inl ⟨rfl, fun w9 hSw => by go_simp⟩) hHeld ?_
            try simp only [Act.put, List.setIfInBounds_toArray, List.set_cons_zero, List.set_cons_succ]
            refine takeL 14 (.bool false) rfl (by kernel_rfl) (by kernel_rfl) (by kernel_rfl) (fun _ _ _ h => h) (Or.inl ⟨rfl, fun _ _ => rfl⟩) hHeld ?_
            try simp only [Act.put, List.setIfInBounds_toArray, List.set_cons_zero, List.set_cons_succ]
            refine takeL 15 (.pointer (some ⟨w.heap.size, p.s.toNat, none⟩)) rfl (by kernel_rfl) (by kernel_rfl) (by kernel_rfl) (fun _ _ _ h => h) (Or.inl ⟨rfl, fun w9 hSw => by go_simp⟩) hHeld ?_
            try simp only [Act.put, List.setIfInBounds_toArray, List.set_cons_zero, List.set_cons_succ]
            refine oneL 16 rfl (by kernel_rfl) rfl (fun K hK => ?_)
            go_simp
            refine hK.out _ _ ⟨by show (w3.setCell _ _).cell? _ = _; rw [World.cell?_setCell_other _ _ _ _ (addr_ne (by omega))]; exact hHeld.1, by show (w3.setCell _ _).cell? _ = _; rw [World.cell?_setCell_other _ _ _ _ (addr_ne (by omega))]; exact hHeld.2⟩ (fun hHeld => ?_)
            clear hK K
            try simp only [Act.put, List.setIfInBounds_toArray, List.set_cons_zero, List.set_cons_succ]
            refine wpAnyH_done (by kernel_rfl) ?_ _
            refine NoPanic.normal ?_
            have hsj4 : w3.heap.size ≤ (w3.setCell ⟨w.heap.size, p.s.toNat, none⟩ (.bool false)).drew.heap.size := by simp
            go_wp2
            go_roundw
            case rel =>
              have e : seqsP (b.ps.take (0 + 1)) = seqsP (b.ps.take 0) := by rw [unhide HSQ, seqP_n (unhide hp1h)]; simp
              refine ⟨0 + 1, by omega, by first | rfl | go_num, ?_, by rw [e]; exact hnj, by rw [e]; exact hpj, by rw [e]; have h0 := unhide hs0h; exact Seen.drew (Seen.keep Sj p.s.toNat (by omega) (by rw [h0]; exact unhide HC0)), (bj3.setCell (Nat.le_refl _) _).drew, by omega, ?_, ?_⟩
              · refine ⟨fun i hi h => ?_, fun q hq h => ?_⟩
                · by_cases e : i = 0
                  · subst e; rw [unhide HPK]; exact unhide HPG
                  · exact hallj.out.1 i hi (by omega)
                · by_cases e : q + 1 = 0
                  · omega
                  · exact hallj.out.2 q hq (by omega)
              · show (w3.setCell _ _).cell? _ = _; rw [World.cell?_setCell_other _ _ _ _ (addr_ne (by omega))]; exact unhide C3
              · intro x v hv; show (w3.setCell _ _).cell? _ = _; rw [World.cell?_setCell_other _ _ _ _ (addr_ne (by omega))]; exact unhide R3 x v hv
            case measure => first | (simp [intOf]; done) | (simp [intOf]; omega)
        · skip
          have hjb : (m + 1) < b.ps.length := by omega
          have hr := unhide HRj
          have c0 := unhide C0j
          obtain ⟨d0, d1, d2, d3, d4⟩ := PsAt.cells hr (m + 1) hjb
          obtain ⟨e0, _, _, _, _⟩ := PsAt.cells hr m (by omega)
          have hjt : ((m + 1 : Nat) : Int) < 4 := by omega
          have hjo : (0 : Int) < ((m + 1 : Nat) : Int) := by omega
          have hj1 : ((m + 1 : Nat) : Int) - 1 = (m : Int) := by omega
          have hmo : (0 : Int) ≤ (m : Int) := by omega
          have hm4 : (m : Int) < 4 := by omega
          have HSQ := hide (seqsP_take b.ps (m + 1) hjb)
          have HDW := hide (drop_w b.ps (m + 1) hjb)
          have HBP := hide (bkB_bad b (m + 1) hjb)
          have HBA := hide (bkB_adj b m hjb)
          generalize hpk : b.ps[(m + 1)] = p at *
          have HPK := hide hpk
          clear hpk
          generalize hrk : b.ps[m] = r at *
          have HRK := hide hrk
          clear hrk
          have HPO := hide (page_any p)
          clear hr
          go_wp2_with fail
          refine (unhide HPO _).mono ?_
          rintro e w3 ⟨rfl, b3⟩
          have q0 : w3.cell? ⟨wr.heap.size, 0, none⟩ = some (.int .i64 p.st) := by rw [b3.cell (p := ⟨wr.heap.size, 0, none⟩) (by simp)]; simp
          have q2 : w3.cell? ⟨wr.heap.size, 2, none⟩ = some (.int .i64 p.s) := by rw [b3.cell (p := ⟨wr.heap.size, 2, none⟩) (by simp)]; simp
          have B3 : Below wr.heap.size wr w3 := ((Below.refl _ _).alloc (Nat.le_refl _) _).trans (b3.mono (by simp))
          have Sj := sj.below B3 (by omega)
          have bj3 := bj.trans (B3.mono bj.size)
          have s3 : wr.heap.size < w3.heap.size := by have := b3.size; simp at this; omega
          have c3 : w3.cell? ⟨fb, fo + k * 2, none⟩ = some (.slice (some ⟨pb, po, none⟩) 4 pc) := by rw [B3.cell (p := ⟨fb, fo + k * 2, none⟩) (by simp; omega)]; exact c0
          have C3 := hide c3
          have R3 := hide (rangeAt_below (unhide HRj) B3 (by omega))
          rw [← B3.cell (p := ⟨pb, po + m * 5, none⟩) (by simp; omega)] at e0
          clear d0 d1 d2 d3 d4 c0 C0j HRj sj B3
          cases hpg : pgB p
          · have HN := hide (unhide HBAD (unhide HBP (.inl hpg)))
            clear b3 Sj c3 e0
            go_wp2
            go_ret
            exact ⟨by rw [unhide HN]; rfl, bj3⟩
          have HPG := hide hpg
          by_cases hp0 : p.st = 0
          · skip
            have hp1 : ¬ p.st = 1 := by omega
            have hs0h := hide (pg_zero (unhide HPG) hp1)
            have HC0 : Hid ((seqs (bs.take k) ++ seqsP (b.ps.take (m + 1))).contains (((0 : Int).toNat : Nat) : Int) = false) := by
              show _ = _
              cases hc : (seqs (bs.take k) ++ seqsP (b.ps.take (m + 1))).contains (((0 : Int).toNat : Nat) : Int)
              · rfl
              · have := hpj.out 0 (by simpa using hc); omega
            have qs : w3.cell? ⟨w.heap.size, p.s.toNat, none⟩ = some (.bool false) := by have h0 := unhide hs0h; rw [h0, Sj.cell _ (by omega), unhide HC0]
            have qf := Sj.froz p.s.toNat (by have h0 := unhide hs0h; omega)
            have hl0 : (0 : Int) ≤ p.s := by have h0 := unhide hs0h; omega
            have hl1 : p.s < 601 := by have h0 := unhide hs0h; omega
            have g1 : (p.st == 1) = false := by simpa using hp1
            have hp1h := hide hp1
            have g0 : (p.st != 0) = false := by simpa using hp0
            have HADJ : Hid (¬ (clB r = true ∧ clB p = false)) := fun h => by have := h.2; simp [clB, hp0] at this
            clear e0
            clear hp0 hp1 hpg
            clear b3
            go_wp2_with fail
            refine wp_region_noPanic ?_
            refine wp_region_held_drew (S := fun w' => w'.cell? ⟨wr.heap.size, 0, none⟩ = some (.int .i64 p.st) ∧ w'.cell? ⟨wr.heap.size, 2, none⟩ = some (.int .i64 p.s)) (by kernel_rfl) (⟨by simpa using q0, by simpa using q2⟩) (fun hHeld => ?_)
            refine takeL 0 (.slice (some ⟨w.heap.size, 0, none⟩) 601 601) rfl (by kernel_rfl) (by kernel_rfl) (by kernel_rfl) (fun _ _ _ h => h) (Or.inl ⟨rfl, fun _ _ => rfl⟩) hHeld ?_
            try simp only [Act.put, List.setIfInBounds_toArray, List.set_cons_zero, List.set_cons_succ]
            refine takeL 1 (.pointer (some ⟨wr.heap.size, 1, none⟩)) rfl (by kernel_rfl) (by kernel_rfl) (by kernel_rfl) (fun _ _ _ h => h) (Or.inl ⟨rfl, fun w9 hSw => by go_simp⟩) hHeld ?_
            try simp only [Act.put, List.setIfInBounds_toArray, List.set_cons_zero, List.set_cons_succ]
            refine takeL 2 (.pointer (some ⟨wr.heap.size, 2, none⟩)) rfl (by kernel_rfl) (by kernel_rfl) (by kernel_rfl) (fun _ _ _ h => h) (Or.inl ⟨rfl, fun w9 hSw => by go_simp⟩) hHeld ?_
            try simp only [Act.put, List.setIfInBounds_toArray, List.set_cons_zero, List.set_cons_succ]
            refine takeL 3 (.int .i64 p.s) rfl (by kernel_rfl) (by kernel_rfl) (by kernel_rfl) (fun _ _ _ h => h) (Or.inl ⟨rfl, fun w9 hSw => by have hc := hSw.2; go_simp⟩) hHeld ?_
            try simp only [Act.put, List.setIfInBounds_toArray, List.set_cons_zero, List.set_cons_succ]
            refine takeL 4 (.slice (some ⟨w.heap.size, 0, none⟩) 601 601) rfl (by kernel_rfl) (by kernel_rfl) (by kernel_rfl) (fun _ _ _ h => h) (Or.inl ⟨rfl, fun _ _ => rfl⟩) hHeld ?_
            try simp only [Act.put, List.setIfInBounds_toArray, List.set_cons_zero, List.set_cons_succ]
            refine takeL 5 (.pointer (some ⟨wr.heap.size, 1, none⟩)) rfl (by kernel_rfl) (by kernel_rfl) (by kernel_rfl) (fun _ _ _ h => h) (Or.inl ⟨rfl, fun w9 hSw => by go_simp⟩) hHeld ?_
            try simp only [Act.put, List.setIfInBounds_toArray, List.set_cons_zero, List.set_cons_succ]
            refine takeL 6 (.pointer (some ⟨wr.heap.size, 2, none⟩)) rfl (by kernel_rfl) (by kernel_rfl) (by kernel_rfl) (fun _ _ _ h => h) (Or.inl ⟨rfl, fun w9 hSw => by go_simp⟩) hHeld ?_
            try simp only [Act.put, List.setIfInBounds_toArray, List.set_cons_zero, List.set_cons_succ]
            refine takeL 7 (.int .i64 p.s) rfl (by kernel_rfl) (by kernel_rfl) (by kernel_rfl) (fun _ _ _ h => h) (Or.inl ⟨rfl, fun w9 hSw => by have hc := hSw.2; go_simp⟩) hHeld ?_
            try simp only [Act.put, List.setIfInBounds_toArray, List.set_cons_zero, List.set_cons_succ]
            refine takeL 8 (.pointer (some ⟨w.heap.size, p.s.toNat, none⟩)) rfl (by kernel_rfl) (by kernel_rfl) (by kernel_rfl) (fun _ _ _ h => h) (Or.inl ⟨rfl, fun w9 hSw => by go_simp⟩) hHeld ?_
            try simp only [Act.put, List.setIfInBounds_toArray, List.set_cons_zero, List.set_cons_succ]
            refine oneL 9 rfl (by kernel_rfl) rfl (fun K hK => ?_)
            go_simp
            refine hK.out _ _ hHeld (fun hHeld => ?_)
            clear hK K
            try simp only [Act.put, List.setIfInBounds_toArray, List.set_cons_zero, List.set_cons_succ]
            refine takeL 10 (.bool false) rfl (by kernel_rfl) (by kernel_rfl) (by kernel_rfl) (fun _ _ _ h => h) (Or.inl ⟨rfl, fun _ _ => rfl⟩) hHeld ?_
            try simp only [Act.put, List.setIfInBounds_toArray, List.set_cons_zero, List.set_cons_succ]
            refine takeL 11 (.pointer (some ⟨wr.heap.size, 0, none⟩)) rfl (by kernel_rfl) (by kernel_rfl) (by kernel_rfl) (fun _ _ _ h => h) (Or.inl ⟨rfl, fun w9 hSw => by go_simp⟩) hHeld ?_
            try simp only [Act.put, List.setIfInBounds_toArray, List.set_cons_zero, List.set_cons_succ]
            refine takeL 12 (.int .i64 p.st) rfl (by kernel_rfl) (by kernel_rfl) (by kernel_rfl) (fun _ _ _ h => h) (Or.inl ⟨rfl, fun w9 hSw => by have hc := hSw.1; go_simp⟩) hHeld ?_
            try simp only [Act.put, List.setIfInBounds_toArray, List.set_cons_zero, List.set_cons_succ]
            refine takeL 13 (.bool false) rfl (by kernel_rfl) (by kernel_rfl) (by kernel_rfl) (fun _ _ _ h => h) (Or.inl ⟨rfl, fun w9 hSw => by go_simp⟩) hHeld ?_
            try simp only [Act.put, List.setIfInBounds_toArray, List.set_cons_zero, List.set_cons_succ]
            refine takeL 14 (.bool false) rfl (by kernel_rfl) (by kernel_rfl) (by kernel_rfl) (fun _ _ _ h => h) (Or.inl ⟨rfl, fun _ _ => rfl⟩) hHeld ?_
            try simp only [Act.put, List.setIfInBounds_toArray, List.set_cons_zero, List.set_cons_succ]
            refine takeL 15 (.pointer (some ⟨w.heap.size, p.s.toNat, none⟩)) rfl (by kernel_rfl) (by kernel_rfl) (by kernel_rfl) (fun _ _ _ h => h) (Or.inl ⟨rfl, fun w9 hSw => by go_simp⟩) hHeld ?_
            try simp only [Act.put, List.setIfInBounds_toArray, List.set_cons_zero, List.set_cons_succ]
            refine oneL 16 rfl (by kernel_rfl) rfl (fun K hK => ?_)
            go_simp
            refine hK.out _ _ ⟨by show (w3.setCell _ _).cell? _ = _; rw [World.cell?_setCell_other _ _ _ _ (addr_ne (by omega))]; exact hHeld.1, by show (w3.setCell _ _).cell? _ = _; rw [World.cell?_setCell_other _ _ _ _ (addr_ne (by omega))]; exact hHeld.2⟩ (fun hHeld => ?_)
            clear hK K
            try simp only [Act.put, List.setIfInBounds_toArray, List.set_cons_zero, List.set_cons_succ]
            refine wpAnyH_done (by kernel_rfl) ?_ _
            refine NoPanic.normal ?_
            have hsj4 : w3.heap.size ≤ (w3.setCell ⟨w.heap.size, p.s.toNat, none⟩ (.bool false)).drew.heap.size := by simp
            go_wp2
            go_roundw
            case rel =>
              have e : seqsP (b.ps.take ((m + 1) + 1)) = seqsP (b.ps.take (m + 1)) := by rw [unhide HSQ, seqP_n (unhide hp1h)]; simp
              refine ⟨(m + 1) + 1, by omega, by first | rfl | go_num, ?_, by rw [e]; exact hnj, by rw [e]; exact hpj, by rw [e]; have h0 := unhide hs0h; exact Seen.drew (Seen.keep Sj p.s.toNat (by omega) (by rw [h0]; exact unhide HC0)), (bj3.setCell (Nat.le_refl _) _).drew, by omega, ?_, ?_⟩
              · refine ⟨fun i hi h => ?_, fun q hq h => ?_⟩
                · by_cases e : i = (m + 1)
                  · subst e; rw [unhide HPK]; exact unhide HPG
                  · exact hallj.out.1 i hi (by omega)
                · by_cases e : q + 1 = (m + 1)
                  · obtain rfl : q = m := by omega
                    simp only [unhide HPK, unhide HRK]; exact unhide HADJ
                  · exact hallj.out.2 q hq (by omega)
              · show (w3.setCell _ _).cell? _ = _; rw [World.cell?_setCell_other _ _ _ _ (addr_ne (by omega))]; exact unhide C3
              · intro x v hv; show (w3.setCell _ _).cell? _ = _; rw [World.cell?_setCell_other _ _ _ _ (addr_ne (by omega))]; exact unhide R3 x v hv
            case measure => first | (simp [intOf]; done) | (simp [intOf]; omega)
          have g0 : (p.st != 0) = true := by simpa using hp0
          by_cases hr0 : r.st = 0
          · have HN := hide (unhide HBAD (unhide HBA ⟨by simpa [clB] using hr0, by simpa [clB] using hp0⟩))
            have gr : (r.st == 0) = true := by simpa using hr0
            clear hp0 hr0 hpg
            clear b3 Sj
            go_wp2
            go_ret
            exact ⟨by rw [unhide HN]; rfl, bj3⟩
          have gr : (r.st == 0) = false := by simpa using hr0
          have HADJ : Hid (¬ (clB r = true ∧ clB p = false)) := fun h => by have := h.1; simp [clB] at this; exact hr0 this
          clear hr0
          by_cases hp1 : p.st = 1
          · have hsq := pg_seq (unhide HPG) hp1
            obtain ⟨hq1, hq2⟩ := hsq
            have g1 : (p.st == 1) = true := by simpa using hp1
            have hp1h := hide hp1
            have hl0 : (0 : Int) ≤ p.s := by omega
            have hl1 : p.s < 601 := by omega
            have qs := Sj.cell p.s.toNat (by omega)
            have qf := Sj.froz p.s.toNat (by omega)
            rw [show ((p.s.toNat : Nat) : Int) = p.s by omega] at qs
            clear hp0 hp1 hpg
            cases hcn : (seqs (bs.take k) ++ seqsP (b.ps.take (m + 1))).contains p.s
            · rw [hcn] at qs
              have HCN := hide hcn
              clear hcn
              clear b3
              go_wp2_with fail
              refine wp_region_noPanic ?_
              refine wp_region_held_drew (S := fun w' => w'.cell? ⟨wr.heap.size, 0, none⟩ = some (.int .i64 p.st) ∧ w'.cell? ⟨wr.heap.size, 2, none⟩ = some (.int .i64 p.s)) (by kernel_rfl) (⟨by simpa using q0, by simpa using q2⟩) (fun hHeld => ?_)
              refine takeL 0 (.slice (some ⟨w.heap.size, 0, none⟩) 601 601) rfl (by kernel_rfl) (by kernel_rfl) (by kernel_rfl) (fun _ _ _ h => h) (Or.inl ⟨rfl, fun _ _ => rfl⟩) hHeld ?_
              try simp only [Act.put, List.setIfInBounds_toArray, List.set_cons_zero, List.set_cons_succ]
              refine takeL 1 (.pointer (some ⟨wr.heap.size, 1, none⟩)) rfl (by kernel_rfl) (by kernel_rfl) (by kernel_rfl) (fun _ _ _ h => h) (Or.inl ⟨rfl, fun w9 hSw => by go_simp⟩) hHeld ?_
              try simp only [Act.put, List.setIfInBounds_toArray, List.set_cons_zero, List.set_cons_succ]
              refine takeL 2 (.pointer (some ⟨wr.heap.size, 2, none⟩)) rfl (by kernel_rfl) (by kernel_rfl) (by kernel_rfl) (fun _ _ _ h => h) (Or.inl ⟨rfl, fun w9 hSw => by go_simp⟩) hHeld ?_
              try simp only [Act.put, List.setIfInBounds_toArray, List.set_cons_zero, List.set_cons_succ]
              refine takeL 3 (.int .i64 p.s) rfl (by kernel_rfl) (by kernel_rfl) (by kernel_rfl) (fun _ _ _ h => h) (Or.inl ⟨rfl, fun w9 hSw => by have hc := hSw.2; go_simp⟩) hHeld ?_
              try simp only [Act.put, List.setIfInBounds_toArray, List.set_cons_zero, List.set_cons_succ]
              refine takeL 4 (.slice (some ⟨w.heap.size, 0, none⟩) 601 601) rfl (by kernel_rfl) (by kernel_rfl) (by kernel_rfl) (fun _ _ _ h => h) (Or.inl ⟨rfl, fun _ _ => rfl⟩) hHeld ?_
              try simp only [Act.put, List.setIfInBounds_toArray, List.set_cons_zero, List.set_cons_succ]
              refine takeL 5 (.pointer (some ⟨wr.heap.size, 1, none⟩)) rfl (by kernel_rfl) (by kernel_rfl) (by kernel_rfl) (fun _ _ _ h => h) (Or.inl ⟨rfl, fun w9 hSw => by go_simp⟩) hHeld ?_
              try simp only [Act.put, List.setIfInBounds_toArray, List.set_cons_zero, List.set_cons_succ]
              refine takeL 6 (.pointer (some ⟨wr.heap.size, 2, none⟩)) rfl (by kernel_rfl) (by kernel_rfl) (by kernel_rfl) (fun _ _ _ h => h) (Or.inl ⟨rfl, fun w9 hSw => by go_simp⟩) hHeld ?_
              try simp only [Act.put, List.setIfInBounds_toArray, List.set_cons_zero, List.set_cons_succ]
              refine takeL 7 (.int .i64 p.s) rfl (by kernel_rfl) (by kernel_rfl) (by kernel_rfl) (fun _ _ _ h => h) (Or.inl ⟨rfl, fun w9 hSw => by have hc := hSw.2; go_simp⟩) hHeld ?_
              try simp only [Act.put, List.setIfInBounds_toArray, List.set_cons_zero, List.set_cons_succ]
              refine takeL 8 (.pointer (some ⟨w.heap.size, p.s.toNat, none⟩)) rfl (by kernel_rfl) (by kernel_rfl) (by kernel_rfl) (fun _ _ _ h => h) (Or.inl ⟨rfl, fun w9 hSw => by go_simp⟩) hHeld ?_
              try simp only [Act.put, List.setIfInBounds_toArray, List.set_cons_zero, List.set_cons_succ]
              refine oneL 9 rfl (by kernel_rfl) rfl (fun K hK => ?_)
              go_simp
              refine hK.out _ _ hHeld (fun hHeld => ?_)
              clear hK K
              try simp only [Act.put, List.setIfInBounds_toArray, List.set_cons_zero, List.set_cons_succ]
              refine takeL 10 (.bool false) rfl (by kernel_rfl) (by kernel_rfl) (by kernel_rfl) (fun _ _ _ h => h) (Or.inl ⟨rfl, fun _ _ => rfl⟩) hHeld ?_
              try simp only [Act.put, List.setIfInBounds_toArray, List.set_cons_zero, List.set_cons_succ]
              refine takeL 11 (.pointer (some ⟨wr.heap.size, 0, none⟩)) rfl (by kernel_rfl) (by kernel_rfl) (by kernel_rfl) (fun _ _ _ h => h) (Or.inl ⟨rfl, fun w9 hSw => by go_simp⟩) hHeld ?_
              try simp only [Act.put, List.setIfInBounds_toArray, List.set_cons_zero, List.set_cons_succ]
              refine takeL 12 (.int .i64 p.st) rfl (by kernel_rfl) (by kernel_rfl) (by kernel_rfl) (fun _ _ _ h => h) (Or.inl ⟨rfl, fun w9 hSw => by have hc := hSw.1; go_simp⟩) hHeld ?_
              try simp only [Act.put, List.setIfInBounds_toArray, List.set_cons_zero, List.set_cons_succ]
              refine takeL 13 (.bool true) rfl (by kernel_rfl) (by kernel_rfl) (by kernel_rfl) (fun _ _ _ h => h) (Or.inl ⟨rfl, fun w9 hSw => by go_simp⟩) hHeld ?_
              try simp only [Act.put, List.setIfInBounds_toArray, List.set_cons_zero, List.set_cons_succ]
              refine takeL 14 (.bool true) rfl (by kernel_rfl) (by kernel_rfl) (by kernel_rfl) (fun _ _ _ h => h) (Or.inl ⟨rfl, fun _ _ => rfl⟩) hHeld ?_
              try simp only [Act.put, List.setIfInBounds_toArray, List.set_cons_zero, List.set_cons_succ]
              refine takeL 15 (.pointer (some ⟨w.heap.size, p.s.toNat, none⟩)) rfl (by kernel_rfl) (by kernel_rfl) (by kernel_rfl) (fun _ _ _ h => h) (Or.inl ⟨rfl, fun w9 hSw => by go_simp⟩) hHeld ?_
              try simp only [Act.put, List.setIfInBounds_toArray, List.set_cons_zero, List.set_cons_succ]
              refine oneL 16 rfl (by kernel_rfl) rfl (fun K hK => ?_)
              go_simp
              refine hK.out _ _ ⟨by show (w3.setCell _ _).cell? _ = _; rw [World.cell?_setCell_other _ _ _ _ (addr_ne (by omega))]; exact hHeld.1, by show (w3.setCell _ _).cell? _ = _; rw [World.cell?_setCell_other _ _ _ _ (addr_ne (by omega))]; exact hHeld.2⟩ (fun hHeld => ?_)
              clear hK K
              try simp only [Act.put, List.setIfInBounds_toArray, List.set_cons_zero, List.set_cons_succ]
              refine wpAnyH_done (by kernel_rfl) ?_ _
              refine NoPanic.normal ?_
              have hsj4 : w3.heap.size ≤ (w3.setCell ⟨w.heap.size, p.s.toNat, none⟩ (.bool true)).drew.heap.size := by simp
              go_wp2
              go_roundw
              case rel =>
                have e : seqsP (b.ps.take ((m + 1) + 1)) = seqsP (b.ps.take (m + 1)) ++ [p.s] := by rw [unhide HSQ, seqP_w (unhide hp1h)]; rfl
                refine ⟨(m + 1) + 1, by omega, by first | rfl | go_num, ?_, by rw [e, ← List.append_assoc]; exact List.nodup_append.2 ⟨hnj.out, by simp, fun x hx y hy => by simp at hy; subst hy; intro q; subst q; exact (show ¬ _ from by simpa using unhide HCN) hx⟩, by rw [e, ← List.append_assoc]; intro x hx; rw [List.mem_append] at hx; rcases hx with hx | hx; exact hpj.out x hx; simp at hx; subst hx; omega, by rw [e, ← List.append_assoc]; exact Seen.drew (Sj.put p.s (by omega) (by omega)), (bj3.setCell (Nat.le_refl _) _).drew, by omega, ?_, ?_⟩
                · refine ⟨fun i hi h => ?_, fun q hq h => ?_⟩
                  · by_cases e : i = (m + 1)
                    · subst e; rw [unhide HPK]; exact unhide HPG
                    · exact hallj.out.1 i hi (by omega)
                  · by_cases e : q + 1 = (m + 1)
                    · obtain rfl : q = m := by omega
                      simp only [unhide HPK, unhide HRK]; exact unhide HADJ
                    · exact hallj.out.2 q hq (by omega)
                · show (w3.setCell _ _).cell? _ = _; rw [World.cell?_setCell_other _ _ _ _ (addr_ne (by omega))]; exact unhide C3
                · intro x v hv; show (w3.setCell _ _).cell? _ = _; rw [World.cell?_setCell_other _ _ _ _ (addr_ne (by omega))]; exact unhide R3 x v hv
              case measure => first | (simp [intOf]; done) | (simp [intOf]; omega)
            · rw [hcn] at qs
              have HCN := hide hcn
              clear hcn
              clear b3 Sj
              go_wp2
              have HN := hide (okB_dup bs (fun hn => by
                rw [unhide HSP (m + 1), unhide HDW (unhide hp1h)] at hn
                exact (List.nodup_append.1 hn).2.2 p.s (by simpa using unhide HCN) p.s (by simp) rfl))
              go_ret
              exact ⟨by rw [unhide HN]; rfl, bj3⟩
          · skip
            have hs0h := hide (pg_zero (unhide HPG) hp1)
            have HC0 : Hid ((seqs (bs.take k) ++ seqsP (b.ps.take (m + 1))).contains (((0 : Int).toNat : Nat) : Int) = false) := by
              show _ = _
              cases hc : (seqs (bs.take k) ++ seqsP (b.ps.take (m + 1))).contains (((0 : Int).toNat : Nat) : Int)
              · rfl
              · have := hpj.out 0 (by simpa using hc); omega
            have qs : w3.cell? ⟨w.heap.size, p.s.toNat, none⟩ = some (.bool false) := by have h0 := unhide hs0h; rw [h0, Sj.cell _ (by omega), unhide HC0]
            have qf := Sj.froz p.s.toNat (by have h0 := unhide hs0h; omega)
            have hl0 : (0 : Int) ≤ p.s := by have h0 := unhide hs0h; omega
            have hl1 : p.s < 601 := by have h0 := unhide hs0h; omega
            have g1 : (p.st == 1) = false := by simpa using hp1
            have hp1h := hide hp1
            clear hp0 hp1 hpg
            clear b3
            go_wp2_with fail
            refine wp_region_noPanic ?_
            refine wp_region_held_drew (S := fun w' => w'.cell? ⟨wr.heap.size, 0, none⟩ = some (.int .i64 p.st) ∧ w'.cell? ⟨wr.heap.size, 2, none⟩ = some (.int .i64 p.s)) (by kernel_rfl) (⟨by simpa using q0, by simpa using q2⟩) (fun hHeld => ?_)
            refine takeL 0 (.slice (some ⟨w.heap.size, 0, none⟩) 601 601) rfl (by kernel_rfl) (by kernel_rfl) (by kernel_rfl) (fun _ _ _ h => h) (Or.inl ⟨rfl, fun _ _ => rfl⟩) hHeld ?_
            try simp only [Act.put, List.setIfInBounds_toArray, List.set_cons_zero, List.set_cons_succ]
            refine takeL 1 (.pointer (some ⟨wr.heap.size, 1, none⟩)) rfl (by kernel_rfl) (by kernel_rfl) (by kernel_rfl) (fun _ _ _ h => h) (Or.inl ⟨rfl, fun w9 hSw => by go_simp⟩) hHeld ?_
            try simp only [Act.put, List.setIfInBounds_toArray, List.set_cons_zero, List.set_cons_succ]
            refine takeL 2 (.pointer (some ⟨wr.heap.size, 2, none⟩)) rfl (by kernel_rfl) (by kernel_rfl) (by kernel_rfl) (fun _ _ _ h => h) (Or.inl ⟨rfl, fun w9 hSw => by go_simp⟩) hHeld ?_
            try simp only [Act.put, List.setIfInBounds_toArray, List.set_cons_zero, List.set_cons_succ]
            refine takeL 3 (.int .i64 p.s) rfl (by kernel_rfl) (by kernel_rfl) (by kernel_rfl) (fun _ _ _ h => h) (Or.inl ⟨rfl, fun w9 hSw => by have hc := hSw.2; go_simp⟩) hHeld ?_
            try simp only [Act.put, List.setIfInBounds_toArray, List.set_cons_zero, List.set_cons_succ]
            refine takeL 4 (.slice (some ⟨w.heap.size, 0, none⟩) 601 601) rfl (by kernel_rfl) (by kernel_rfl) (by kernel_rfl) (fun _ _ _ h => h) (Or.inl ⟨rfl, fun _ _ => rfl⟩) hHeld ?_
            try simp only [Act.put, List.setIfInBounds_toArray, List.set_cons_zero, List.set_cons_succ]
            refine takeL 5 (.pointer (some ⟨wr.heap.size, 1, none⟩)) rfl (by kernel_rfl) (by kernel_rfl) (by kernel_rfl) (fun _ _ _ h => h) (Or.inl ⟨rfl, fun w9 hSw => by go_simp⟩) hHeld ?_
            try simp only [Act.put, List.setIfInBounds_toArray, List.set_cons_zero, List.set_cons_succ]
            refine takeL 6 (.pointer (some ⟨wr.heap.size, 2, none⟩)) rfl (by kernel_rfl) (by kernel_rfl) (by kernel_rfl) (fun _ _ _ h => h) (Or.inl ⟨rfl, fun w9 hSw => by go_simp⟩) hHeld ?_
            try simp only [Act.put, List.setIfInBounds_toArray, List.set_cons_zero, List.set_cons_succ]
            refine takeL 7 (.int .i64 p.s) rfl (by kernel_rfl) (by kernel_rfl) (by kernel_rfl) (fun _ _ _ h => h) (Or.inl ⟨rfl, fun w9 hSw => by have hc := hSw.2; go_simp⟩) hHeld ?_
            try simp only [Act.put, List.setIfInBounds_toArray, List.set_cons_zero, List.set_cons_succ]
            refine takeL 8 (.pointer (some ⟨w.heap.size, p.s.toNat, none⟩)) rfl (by kernel_rfl) (by kernel_rfl) (by kernel_rfl) (fun _ _ _ h => h) (Or.inl ⟨rfl, fun w9 hSw => by go_simp⟩) hHeld ?_
            try simp only [Act.put, List.setIfInBounds_toArray, List.set_cons_zero, List.set_cons_succ]
            refine oneL 9 rfl (by kernel_rfl) rfl (fun K hK => ?_)
            go_simp
            refine hK.out _ _ hHeld (fun hHeld => ?_)
            clear hK K
            try simp only [Act.put, List.setIfInBounds_toArray, List.set_cons_zero, List.set_cons_succ]
            refine takeL 10 (.bool false) rfl (by kernel_rfl) (by kernel_rfl) (by kernel_rfl) (fun _ _ _ h => h) (Or.inl ⟨rfl, fun _ _ => rfl⟩) hHeld ?_
            try simp only [Act.put, List.setIfInBounds_toArray, List.set_cons_zero, List.set_cons_succ]
            refine takeL 11 (.pointer (some ⟨wr.heap.size, 0, none⟩)) rfl (by kernel_rfl) (by kernel_rfl) (by kernel_rfl) (fun _ _ _ h => h) (Or.inl ⟨rfl, fun w9 hSw => by go_simp⟩) hHeld ?_
            try simp only [Act.put, List.setIfInBounds_toArray, List.set_cons_zero, List.set_cons_succ]
            refine takeL 12 (.int .i64 p.st) rfl (by kernel_rfl) (by kernel_rfl) (by kernel_rfl) (fun _ _ _ h => h) (Or.inl ⟨rfl, fun w9 hSw => by have hc := hSw.1; go_simp⟩) hHeld ?_
            try simp only [Act.put, List.setIfInBounds_toArray, List.set_cons_zero, List.set_cons_succ]
            refine takeL 13 (.bool false) rfl (by kernel_rfl) (by kernel_rfl) (by kernel_rfl) (fun _ _ _ h => h) (Or.inl ⟨rfl, fun w9 hSw => by go_simp⟩) hHeld ?_
            try simp only [Act.put, List.setIfInBounds_toArray, List.set_cons_zero, List.set_cons_succ]
            refine takeL 14 (.bool false) rfl (by kernel_rfl) (by kernel_rfl) (by kernel_rfl) (fun _ _ _ h => h) (Or.inl ⟨rfl, fun _ _ => rfl⟩) hHeld ?_
            try simp only [Act.put, List.setIfInBounds_toArray, List.set_cons_zero, List.set_cons_succ]
            refine takeL 15 (.pointer (some ⟨w.heap.size, p.s.toNat, none⟩)) rfl (by kernel_rfl) (by kernel_rfl) (by kernel_rfl) (fun _ _ _ h => h) (Or.inl ⟨rfl, fun w9 hSw => by go_simp⟩) hHeld ?_
            try simp only [Act.put, List.setIfInBounds_toArray, List.set_cons_zero, List.set_cons_succ]
            refine oneL 16 rfl (by kernel_rfl) rfl (fun K hK => ?_)
            go_simp
            refine hK.out _ _ ⟨by show (w3.setCell _ _).cell? _ = _; rw [World.cell?_setCell_other _ _ _ _ (addr_ne (by omega))]; exact hHeld.1, by show (w3.setCell _ _).cell? _ = _; rw [World.cell?_setCell_other _ _ _ _ (addr_ne (by omega))]; exact hHeld.2⟩ (fun hHeld => ?_)
            clear hK K
            try simp only [Act.put, List.setIfInBounds_toArray, List.set_cons_zero, List.set_cons_succ]
            refine wpAnyH_done (by kernel_rfl) ?_ _
            refine NoPanic.normal ?_
            have hsj4 : w3.heap.size ≤ (w3.setCell ⟨w.heap.size, p.s.toNat, none⟩ (.bool false)).drew.heap.size := by simp
            go_wp2
            go_roundw
            case rel =>
              have e : seqsP (b.ps.take ((m + 1) + 1)) = seqsP (b.ps.take (m + 1)) := by rw [unhide HSQ, seqP_n (unhide hp1h)]; simp
              refine ⟨(m + 1) + 1, by omega, by first | rfl | go_num, ?_, by rw [e]; exact hnj, by rw [e]; exact hpj, by rw [e]; have h0 := unhide hs0h; exact Seen.drew (Seen.keep Sj p.s.toNat (by omega) (by rw [h0]; exact unhide HC0)), (bj3.setCell (Nat.le_refl _) _).drew, by omega, ?_, ?_⟩
              · refine ⟨fun i hi h => ?_, fun q hq h => ?_⟩
                · by_cases e : i = (m + 1)
                  · subst e; rw [unhide HPK]; exact unhide HPG
                  · exact hallj.out.1 i hi (by omega)
                · by_cases e : q + 1 = (m + 1)
                  · obtain rfl : q = m := by omega
                    simp only [unhide HPK, unhide HRK]; exact unhide HADJ
                  · exact hallj.out.2 q hq (by omega)
              · show (w3.setCell _ _).cell? _ = _; rw [World.cell?_setCell_other _ _ _ _ (addr_ne (by omega))]; exact unhide C3
              · intro x v hv; show (w3.setCell _ _).cell? _ = _; rw [World.cell?_setCell_other _ _ _ _ (addr_ne (by omega))]; exact unhide R3 x v hv
            case measure => first | (simp [intOf]; done) | (simp [intOf]; omega)
end Go.Proofs.Ytkikeapfjpnkgaa.SpecA
