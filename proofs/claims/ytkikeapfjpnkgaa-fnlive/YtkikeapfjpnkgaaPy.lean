/-
  Plain facts of stores: one without any record; one whose slow disk is changed; one on which something is written.
-/
import Derived.Test.YtkikeapfjpnkgaaPx
import Derived.Test.YtkikeapfjpnkgaaPlE
namespace Go.Proofs.Ytkikeapfjpnkgaa.Py
open Go.ChangeShapes Go.WideShapes Go.ChangeAt Go.RowKit Go.Shelf OkA Big Fl ImplB ImplF ImplS ImplT ImplU SpecA SpecB SpecC SpecD SpecW SpecF SpecG SpecH FindP ImplL FindN FindL Pl Kp StA StB StC StD StE StF StG SpS SpT Sv NwA PlB SpecO ImplQ FindQ
set_option linter.unusedVariables false
set_option linter.unusedSimpArgs false
variable {bs : List Bk} {dk : List Int}
theorem last_new (a : Int) : lastR zFs a = zRc := by rfl
theorem lastO_new (a : Int) : lastO zFs a = false := by unfold lastO; rw [last_new]; rfl
theorem ord_new : ordR zFs = true := by decide
theorem st_iff : stB bs dk = true ↔ ordR bs = true ∧ dk.length = 6 ∧ ∀ i, i < 6 → badA bs dk i = false := by
  unfold stB
  rw [Bool.and_eq_true, Bool.and_eq_true, beq_iff_eq, List.all_eq_true, and_assoc]
  refine and_congr Iff.rfl (and_congr Iff.rfl ⟨fun h i hi => ?_, fun h i hi => ?_⟩)
  · have := h i (by simpa using hi); simpa using this
  · have := h i (by simpa using hi); simpa using this
theorem bad_iff {i : Nat} : badA bs dk i = false ↔ (0 ≤ dk.getD i 0 ∧ dk.getD i 0 ≤ 9) ∧ ¬ (lastO bs ((i : Int) + 1) = true ∧ (lastR bs ((i : Int) + 1)).k = 2 ∧ (lastR bs ((i : Int) + 1)).v ≠ dk.getD i 0) := by
  unfold badA
  rw [Bool.or_eq_false_iff]
  refine and_congr ?_ ?_
  · simp [inB]
  · rw [Bool.and_eq_false_iff, Bool.and_eq_false_iff]
    constructor
    · rintro h ⟨h1, h2, h3⟩
      rcases h with (h | h) | h
      · rw [h1] at h; cases h
      · simp [h2] at h
      · simp at h; exact h3 h
    · intro h
      cases e1 : lastO bs ((i : Int) + 1)
      · exact .inl (.inl rfl)
      · by_cases e2 : (lastR bs ((i : Int) + 1)).k = 2
        · right
          have : (lastR bs ((i : Int) + 1)).v = dk.getD i 0 := Classical.byContradiction fun q => h ⟨e1, e2, q⟩
          simpa using this
        · exact .inl (.inr (by simpa using e2))
theorem st_wiped (h : stB bs dk = true) : stB zFs dk = true := by
  obtain ⟨_, h6, hb⟩ := st_iff.1 h
  refine st_iff.2 ⟨ord_new, h6, fun i hi => bad_iff.2 ⟨(bad_iff.1 (hb i hi)).1, fun q => ?_⟩⟩
  rw [lastO_new] at q; cases q.1
theorem al_wiped (h : stB bs dk = true) : alS zFs dk = dk := by
  have h6 := (st_iff.1 h).2.1
  unfold alS
  rw [if_pos (st_wiped h)]
  have e : alK zFs dk 6 = (List.range 6).map fun i => dk.getD i 0 := List.map_congr_left fun i _ => by
    unfold readI
    rw [lastO_new, if_neg (by simp), show ((i : Int) + 1 - 1).toNat = i by omega]
  rw [e]
  match dk, h6 with
  | [_, _, _, _, _, _], _ => rfl
theorem dy_wiped : dyS zFs dk = [] := by
  unfold dyS
  split
  · rfl
  · rfl
/-- How many of the first k addresses are dirty. -/
def dyN (bs : List Bk) (k : Nat) : Nat := (dyK bs k).length
theorem dyN_succ (k : Nat) : dyN bs (k + 1) = dyN bs k + if dirtyB bs ((k : Int) + 1) then 1 else 0 := by
  unfold dyN
  rw [dyK_succ, List.length_append]
  split <;> rfl
theorem dyK_pre (bs : List Bk) : ∀ n k, ∃ t, dyK bs (k + n) = dyK bs k ++ t
  | 0, k => ⟨[], by simp⟩
  | n + 1, k => by
    obtain ⟨t, ht⟩ := dyK_pre bs n k
    exact ⟨_, by rw [← Nat.add_assoc, dyK_succ, ht, List.append_assoc]⟩
theorem dy_ok (h : stB bs dk = true) : dyS bs dk = dyK bs 6 := by unfold dyS; rw [if_pos h]
theorem dy_at (h : stB bs dk = true) (j : Nat) (hj : j < 6) (hd : dirtyB bs ((j : Int) + 1) = true) : dyN bs j < (dyS bs dk).length ∧ (dyS bs dk).getD (dyN bs j) 0 = (j : Int) + 1 := by
  obtain ⟨t, ht⟩ := dyK_pre bs (5 - j) (j + 1)
  have e := dyK_succ bs j
  rw [if_pos hd] at e
  rw [show j + 1 + (5 - j) = 6 by omega, e] at ht
  rw [dy_ok h, ht]
  unfold dyN
  refine ⟨by simp, ?_⟩
  rw [List.getD_eq_getElem?_getD, List.append_assoc, List.getElem?_append_right (Nat.le_refl _)]
  simp
theorem dirty_fl {k : Int} (h : stB bs dk = true) (h1 : 1 ≤ k) (h6 : k ≤ 6) : dirtyB bs k = (flO bs k && (flR bs k).k == 1) := by
  have hok := (st_parts h).1
  have hin : inB k 1 6 = true := by simp [inB]; omega
  unfold flO flR dirtyB
  rw [hok, hin]
  simp
theorem clean_rd (h : stB bs dk = true) (j : Nat) (hj : j < 6) (hd : dirtyB bs ((j : Int) + 1) = false) : rdS bs dk ((j : Int) + 1) = dk.getD j 0 := by
  have hok := (st_parts h).1
  rw [rd_ok h (by omega) (by omega)]
  have hin : inB ((j : Int) + 1) 1 6 = true := by simp [inB]; omega
  rw [dirty_fl h (by omega) (by omega)] at hd
  cases ho : flO bs ((j : Int) + 1)
  · rw [if_neg (by simp), show ((j : Int) + 1 - 1).toNat = j by omega]
  · rw [if_pos rfl]
    rw [ho] at hd
    have hl : flR bs ((j : Int) + 1) = lastR bs ((j : Int) + 1) := by unfold flR; rw [hok, hin]; rfl
    have ho2 : lastO bs ((j : Int) + 1) = true := by unfold flO at ho; rw [hok, hin] at ho; simpa using ho
    have hk : (lastR bs ((j : Int) + 1)).k = 2 := by
      rw [hl] at hd
      rcases lastR_ok bs ((j : Int) + 1) hok with e | ⟨e, _⟩
      · unfold lastO at ho2; rw [e] at ho2; simp [zRc] at ho2
      · simp [recB, inB] at e
        simp at hd
        omega
    have hb := (bad_iff.1 ((st_iff.1 h).2.2 j hj)).2
    rw [hl]
    exact Classical.byContradiction fun q => hb ⟨ho2, hk, q⟩
end Go.Proofs.Ytkikeapfjpnkgaa.Py
