/-
  By which steps something happens, and that each of them can be done.
-/
import Derived.Test.YtbfklmlniepihaaToA
namespace Go.Proofs.Ytbfklmlniepihaa.PlA
open Go.ChangeShapes Go.WideShapes Go.ChangeAt Go.RowKit Go.Shelf OkA Big Fl ImplB ImplF ImplS _root_.Go.Proofs.Ytbfklmlniepihaa.Own ImplT ImplU SpecA SpecB SpecC SpecD SpecW SpecF SpecG SpecH Ok2 Pl FindP SpecX ImplL FindN FindL FindV Kp StA RmA WrA FlA DoA ToA
set_option linter.unusedVariables false
set_option linter.unusedSimpArgs false
attribute [local go_sem ↓] Go.wp_at_zero Go.wp_at_succ

theorem openF_in (bs l : List Bk) : ∀ (n : Nat) (o : Int), -1 ≤ o → o < n → (openF bs l n o).2 = true → 0 ≤ (openF bs l n o).1 ∧ (openF bs l n o).1 < n + l.length := by
  induction l with
  | nil => intro n o h0 h1 h2; simp [openF] at h2 ⊢; omega
  | cons b r ih =>
    intro n o h0 h1 h2
    unfold openF at h2 ⊢
    split
    · rw [List.length_cons]; constructor <;> simp <;> omega
    · rename_i hc
      rw [if_neg hc] at h2
      have := ih (n + 1) _ (by split <;> omega) (by split <;> omega) h2
      rw [List.length_cons]; omega
theorem tellP_stp (bs : List Bk) (ps : List Pg) (h : ∀ p ∈ ps, pgB p = true) : ∀ x ∈ tellP bs ps, stpB x = true := fun x hx => by
  unfold tellP at hx
  rw [List.mem_filterMap] at hx
  obtain ⟨p, hp, hx⟩ := hx
  split at hx
  · rename_i hl
    obtain rfl : diskS p.a p.v = x := by simpa using hx
    have hq := h p hp
    rw [Bool.and_eq_true] at hl
    have h1 : p.st = 1 := by have := hl.1; unfold liveB at this; simp at this; exact this.1
    unfold pgB at hq
    rw [if_pos h1] at hq
    have : inB p.a 1 6 = true := by unfold recB numB at hq; simp at hq; exact hq.2.1.2
    unfold stpB diskS
    simpa using this
  · cases hx
theorem roomL_stp (bs : List Bk) (hok : okB bs = true) : ∀ x ∈ roomL bs, stpB x = true := fun x hx => by
  unfold roomL at hx
  split at hx
  · simp at hx
  · have hob : oldB bs ≤ 3 := oldN_le bs 3
    have hlt : oldB bs < bs.length := by rw [ok_len hok]; omega
    rcases List.mem_append.1 hx with hx | hx
    · rw [getD_at bs _ hlt] at hx
      exact tellP_stp bs _ (ok_pages hok _ (List.getElem_mem hlt)) x hx
    · obtain rfl : x = wipeS (oldB bs) := by simpa using hx
      unfold stpB wipeS
      simp [inB]
      omega
theorem writeP_stp (bs : List Bk) (k a v : Int) (hok : okB bs = true) : ∀ x ∈ writeP bs k a v, stpB x = true := fun x hx => by
  unfold writeP at hx
  split at hx
  · rename_i hr
    rw [Bool.and_eq_true] at hr
    rcases List.mem_append.1 hx with hx | hx
    · exact roomL_stp bs hok x hx
    · obtain rfl := by simpa using hx
      have hb : 0 ≤ roomB bs ∧ roomB bs ≤ 3 := by
        unfold roomB
        split
        · rename_i h2
          have := openF_in bs bs 0 (-1) (by omega) (by omega) h2
          rw [ok_len hok] at this
          unfold openR
          omega
        · have : oldB bs ≤ 3 := oldN_le bs 3
          omega
      unfold stpB writeS
      simp [inB, hb, hr.2]
  · simp at hx
theorem flushP_stp (bs : List Bk) (dk : List Int) (a : Int) (hok : okB bs = true) : ∀ x ∈ flushP bs dk a, stpB x = true := fun x hx => by
  unfold flushP at hx
  split at hx
  · rename_i h
    split at hx
    · simp at hx
    · rcases List.mem_cons.1 hx with rfl | hx
      · rw [Bool.and_eq_true] at h
        unfold stpB diskS
        simpa using h.1
      · exact writeP_stp bs _ _ _ hok x hx
  · simp at hx
theorem fillP_stp (bs : List Bk) (dk : List Int) (a : Int) (hok : okB bs = true) : ∀ x ∈ fillP bs dk a, stpB x = true := fun x hx => by
  unfold fillP at hx
  split at hx
  · exact writeP_stp bs _ _ _ hok x hx
  · simp at hx
/-- By which steps. -/
def stepsP (bs : List Bk) (dk : List Int) (kind a b : Int) : List Stp := if kind = 1 then writeP bs 1 a b else if kind = 2 then flushP bs dk a else if kind = 3 then fillP bs dk a else []
theorem stepsP_stp (bs : List Bk) (dk : List Int) (kind a b : Int) (hok : okB bs = true) : ∀ x ∈ stepsP bs dk kind a b, stpB x = true := by
  unfold stepsP
  split
  · exact writeP_stp bs _ _ _ hok
  · split
    · exact flushP_stp bs _ _ hok
    · split
      · exact fillP_stp bs _ _ hok
      · intro x hx; simp at hx
theorem flushP_len (bs : List Bk) (dk : List Int) (a : Int) (hok : okB bs = true) : (flushP bs dk a).length ≤ 7 := by
  have := writeP_len bs (ok_fours hok) (ok_len hok) 2 a (readI bs dk a)
  unfold flushP
  split
  · split
    · simp
    · simp only [List.length_cons]; omega
  · simp
theorem stepsP_len (bs : List Bk) (dk : List Int) (kind a b : Int) (hok : okB bs = true) : (stepsP bs dk kind a b).length ≤ 7 := by
  unfold stepsP
  split
  · have := writeP_len bs (ok_fours hok) (ok_len hok) 1 a b; omega
  · split
    · exact flushP_len bs dk a hok
    · split
      · unfold fillP
        split
        · have := writeP_len bs (ok_fours hok) (ok_len hok) 2 a (dk.getD (a - 1).toNat 0); omega
        · simp
      · simp
/-- The fast memory at its block, where a store has it. -/
theorem st_bk {w : World} {lo g d : Nat} {G : List Nat} {bs : List Bk} {dk : List Int} (h : St w lo g d G bs dk) : ∀ i (hi : i < bs.length), BkAt w g (0 + i * 2) bs[i] := by
  rcases h.own.fs with h | ⟨b, o, he, hb⟩
  · intro i hi; rw [h] at hi; simp at hi
  · cases he; exact hb
theorem st_rng {w : World} {lo g d : Nat} {G : List Nat} {bs : List Bk} {dk : List Int} (h : St w lo g d G bs dk) : w.rangeAt d 0 (isC dk) := h.disk.cells

set_option maxRecDepth 100000 in
set_option maxHeartbeats 2000000 in
theorem steps_any (lo g d cap dcap : Nat) (G : List Nat) (bs : List Bk) (dk : List Int) (kind a b c : Int) (torn : Bool) (w : World) (hS : St w lo g d G bs dk) (hok : okB bs = true) :
    Calls Try.prog 29 #[.agg #[.slice (some ⟨g, 0, none⟩) 4 cap, .slice (some ⟨d, 0, none⟩) 6 dcap], .agg #[.int .i64 kind, .int .i64 a, .int .i64 b, .int .i64 c, .bool torn]] w fun e w' => StpPost w (stepsP bs dk kind a b) e w' := by
  have b1 : Below w.heap.size w ((w.alloc (.cells #[.slice (some ⟨g, 0, none⟩) 4 cap, .slice (some ⟨d, 0, none⟩) 6 dcap] 59)).alloc (.cells #[.int .i64 kind, .int .i64 a, .int .i64 b, .int .i64 c, .bool torn] 67)) := ((Below.refl _ _).alloc (Nat.le_refl _) _).alloc (by simp) _
  have cS := (store_box w (.slice (some ⟨g, 0, none⟩) 4 cap) (.slice (some ⟨d, 0, none⟩) 6 dcap)).alloc (by simp) (.cells #[.int .i64 kind, .int .i64 a, .int .i64 b, .int .i64 c, .bool torn] 67)
  have cE := CsAt.new (w.alloc (.cells #[.slice (some ⟨g, 0, none⟩) 4 cap, .slice (some ⟨d, 0, none⟩) 6 dcap] 59)) [.int .i64 kind, .int .i64 a, .int .i64 b, .int .i64 c, .bool torn] 67
  rw [World.size_alloc] at cE
  have S1 := hS.below b1
  have HP : Hid (stepsP bs dk kind a b = if kind = 1 then writeP bs 1 a b else if kind = 2 then flushP bs dk a else if kind = 3 then fillP bs dk a else []) := rfl
  have HOK := hide hok
  clear hS hok
  go_enter Try.func29, Try.ntmps29
  go_upto_region 1 with fail
  generalize (w.alloc (.cells #[.slice (some ⟨g, 0, none⟩) 4 cap, .slice (some ⟨d, 0, none⟩) 6 dcap] 59)).alloc (.cells #[.int .i64 kind, .int .i64 a, .int .i64 b, .int .i64 c, .bool torn] 67) = w1 at *
  have z0 := cE.cell 0 _ rfl
  have z1 := cE.cell 1 _ rfl
  have z2 := cE.cell 2 _ rfl
  have y0 := cS.cell 0 _ rfl
  have y1 := cS.cell 1 _ rfl
  by_cases t1 : kind = 1
  · have HE : Hid (stepsP bs dk kind a b = writeP bs 1 a b) := by show _ = _; rw [unhide HP, if_pos t1]
    have q1 : (kind == 1) = true := by simpa using t1
    clear HP t1
    go_wp2_with fail
    refine (write_steps g 0 cap (.slice (some ⟨d, 0, none⟩) 6 dcap) 1 a b bs w1 (unhide HOK) (st_bk S1)).mono ?_
    rintro e w2 ⟨v, rfl, r2, d2⟩
    go_wp2
    go_ret
    exact ⟨_, rfl, by rw [unhide HE]; exact r2.mono b1.size, b1.trans (d2.mono b1.size)⟩
  · have q1 : (kind == 1) = false := by simpa using t1
    by_cases t2 : kind = 2
    · have HE : Hid (stepsP bs dk kind a b = flushP bs dk a) := by show _ = _; rw [unhide HP, if_neg t1, if_pos t2]
      have q2 : (kind == 2) = true := by simpa using t2
      clear HP t1 t2
      go_wp2_with fail
      refine (flush_steps g 0 cap d 0 dcap dk S1.six a bs w1 (unhide HOK) (st_bk S1) (st_rng S1)).mono ?_
      rintro e w2 ⟨v, rfl, r2, d2⟩
      go_wp2
      go_ret
      exact ⟨_, rfl, by rw [unhide HE]; exact r2.mono b1.size, b1.trans (d2.mono b1.size)⟩
    · have q2 : (kind == 2) = false := by simpa using t2
      by_cases t3 : kind = 3
      · have HE : Hid (stepsP bs dk kind a b = fillP bs dk a) := by show _ = _; rw [unhide HP, if_neg t1, if_neg t2, if_pos t3]
        have q3 : (kind == 3) = true := by simpa using t3
        clear HP t1 t2 t3
        go_wp2_with fail
        refine (fill_steps g 0 cap d 0 dcap dk S1.six a bs w1 (unhide HOK) (st_bk S1) (st_rng S1)).mono ?_
        rintro e w2 ⟨v, rfl, r2, d2⟩
        go_wp2
        go_ret
        exact ⟨_, rfl, by rw [unhide HE]; exact r2.mono b1.size, b1.trans (d2.mono b1.size)⟩
      · have HE : Hid (stepsP bs dk kind a b = []) := by show _ = _; rw [unhide HP, if_neg t1, if_neg t2, if_neg t3]
        have q3 : (kind == 3) = false := by simpa using t3
        have nl := Sts.nil w1 w.heap.size b1.size
        have nB := b1.alloc b1.size (.cells #[] 81)
        clear HP t1 t2 t3
        go_wp2
        go_ret
        exact ⟨_, rfl, by rw [unhide HE]; exact nl, nB⟩
end Go.Proofs.Ytbfklmlniepihaa.PlA
