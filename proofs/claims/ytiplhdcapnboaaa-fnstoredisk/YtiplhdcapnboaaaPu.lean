/-
  Plain facts of a store of which one number of the slow disk is changed.
-/
import Derived.Test.YtiplhdcapnboaaaPy
namespace Go.Proofs.Ytiplhdcapnboaaa.Pu
open Go.ChangeShapes Go.WideShapes Go.ChangeAt Go.RowKit Go.Shelf OkA Big Fl ImplB ImplF ImplS ImplT ImplU SpecA SpecB SpecC SpecD SpecW SpecF SpecG SpecH FindP ImplL FindN FindL Pl Kp StA StB StC StD StE StF StG SpS SpT Sv NwA PlB SpecO ImplQ FindQ Py
set_option linter.unusedVariables false
set_option linter.unusedSimpArgs false
variable {bs : List Bk} {dk : List Int}
theorem fl_last (hs : stB bs dk = true) {q : Nat} (hq : q < 6) : flO bs ((q : Int) + 1) = lastO bs ((q : Int) + 1) ∧ flR bs ((q : Int) + 1) = lastR bs ((q : Int) + 1) := by
  have hok := (st_parts hs).1
  have hin : inB ((q : Int) + 1) 1 6 = true := by simp [inB]; omega
  unfold flO flR
  rw [hok, hin]; simp
theorem getD_set (dk : List Int) (q j : Nat) (y : Int) (hq : q < dk.length) : (dk.set q y).getD j 0 = if j = q then y else dk.getD j 0 := by
  rw [List.getD_eq_getElem?_getD, List.getD_eq_getElem?_getD, List.getElem?_set]
  by_cases e : q = j
  · subst e; simp [hq]
  · rw [if_neg e, if_neg (fun h => e h.symm)]
theorem sd_bad (hs : stB bs dk = true) {q : Nat} (hq : q < 6) {y : Int} (hy : y ≠ dk.getD q 0) (ho : flO bs ((q : Int) + 1) = true) (hk : (flR bs ((q : Int) + 1)).k = 2) : stB bs (dk.set q y) = false := by
  obtain ⟨h0, h6, hb⟩ := st_iff.1 hs
  obtain ⟨e1, e2⟩ := fl_last hs hq
  rw [e1] at ho
  rw [e2] at hk
  cases h : stB bs (dk.set q y)
  · rfl
  · have b1 := (bad_iff.1 (hb q hq)).2
    have b2 := (bad_iff.1 ((st_iff.1 h).2.2 q hq)).2
    rw [getD_set dk q q y (by omega), if_pos rfl] at b2
    have v1 : (lastR bs ((q : Int) + 1)).v = dk.getD q 0 := Classical.byContradiction fun e => b1 ⟨ho, hk, e⟩
    have v2 : (lastR bs ((q : Int) + 1)).v = y := Classical.byContradiction fun e => b2 ⟨ho, hk, e⟩
    exact absurd (v2.symm.trans v1) hy
theorem sd_ok (hs : stB bs dk = true) {q : Nat} (hq : q < 6) {y : Int} (h0 : 0 ≤ y) (h9 : y ≤ 9) (h : ¬ (flO bs ((q : Int) + 1) = true ∧ (flR bs ((q : Int) + 1)).k = 2)) : stB bs (dk.set q y) = true := by
  obtain ⟨ho, h6, hb⟩ := st_iff.1 hs
  obtain ⟨e1, e2⟩ := fl_last hs hq
  rw [e1, e2] at h
  refine st_iff.2 ⟨ho, by simp [h6], fun i hi => bad_iff.2 ?_⟩
  rw [getD_set dk q i y (by omega)]
  by_cases e : i = q
  · subst e
    rw [if_pos rfl]
    exact ⟨⟨h0, h9⟩, fun t => h ⟨t.1, t.2.1⟩⟩
  · rw [if_neg e]
    exact bad_iff.1 (hb i hi)
theorem sd_al (hs : stB bs dk = true) {q : Nat} (hq : q < 6) {y : Int} (h : stB bs (dk.set q y) = true) (ho : flO bs ((q : Int) + 1) = true) : alS bs (dk.set q y) = alS bs dk := by
  have h6 := (st_iff.1 hs).2.1
  rw [(fl_last hs hq).1] at ho
  unfold alS
  rw [if_pos h, if_pos hs]
  unfold alK
  refine List.map_congr_left fun i hi => ?_
  unfold readI
  rw [show ((i : Int) + 1 - 1).toNat = i by omega, getD_set dk q i y (by omega)]
  by_cases e : i = q
  · subst e; rw [ho]; simp
  · rw [if_neg e]
end Go.Proofs.Ytiplhdcapnboaaa.Pu
