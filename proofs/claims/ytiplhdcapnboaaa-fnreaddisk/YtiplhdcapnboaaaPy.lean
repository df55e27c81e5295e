/-
  Plain facts of stores: one without any record; one whose slow disk is changed; one on which something is written.
-/
import Derived.Test.YtiplhdcapnboaaaPx
import Derived.Test.YtiplhdcapnboaaaPlE
namespace Go.Proofs.Ytiplhdcapnboaaa.Py
open Go.ChangeShapes Go.WideShapes Go.ChangeAt Go.RowKit Go.Shelf OkA Big Fl ImplB ImplF ImplS ImplT ImplU SpecA SpecB SpecC SpecD SpecW SpecF SpecG SpecH FindP ImplL FindN FindL Pl Kp StA StB StC StD StE StF StG SpS SpT Sv NwA PlB SpecO ImplQ FindQ
set_option linter.unusedVariables false
set_option linter.unusedSimpArgs false
variable {bs : List Bk} {dk : List Int}
theorem last_new (a : Int) : lastR zFs a = zRc := by rfl
theorem lastO_new (a : Int) : lastO zFs a = false := by unfold lastO; rw [last_new]; rfl
theorem ord_new : ordR zFs = true := by decide
theorem st_iff : stB bs dk = true ↔ ordR bs = true ∧ dk.length = 6 ∧ ∀ i, i < 6 → badA bs dk i = false := by
  unfold stB
  rw [Bool.and_eq_true, Bool.and_eq_true, beq_iff_eq, List.all_eq_true, and_assoc]
  refine and_congr Iff.rfl (and_congr Iff.rfl ⟨fun h i hi => ?_, fun h i hi => ?_⟩)
  · have := h i (by simpa using hi); simpa using this
  · have := h i (by simpa using hi); simpa using this
theorem bad_iff {i : Nat} : badA bs dk i = false ↔ (0 ≤ dk.getD i 0 ∧ dk.getD i 0 ≤ 9) ∧ ¬ (lastO bs ((i : Int) + 1) = true ∧ (lastR bs ((i : Int) + 1)).k = 2 ∧ (lastR bs ((i : Int) + 1)).v ≠ dk.getD i 0) := by
  unfold badA
  rw [Bool.or_eq_false_iff]
  refine and_congr ?_ ?_
  · simp [inB]
  · rw [Bool.and_eq_false_iff, Bool.and_eq_false_iff]
    constructor
    · rintro h ⟨h1, h2, h3⟩
      rcases h with (h | h) | h
      · rw [h1] at h; cases h
      · simp [h2] at h
      · simp at h; exact h3 h
    · intro h
      cases e1 : lastO bs ((i : Int) + 1)
      · exact .inl (.inl rfl)
      · by_cases e2 : (lastR bs ((i : Int) + 1)).k = 2
        · right
          have : (lastR bs ((i : Int) + 1)).v = dk.getD i 0 := Classical.byContradiction fun q => h ⟨e1, e2, q⟩
          simpa using this
        · exact .inl (.inr (by simpa using e2))
theorem st_wiped (h : stB bs dk = true) : stB zFs dk = true := by
  obtain ⟨_, h6, hb⟩ := st_iff.1 h
  refine st_iff.2 ⟨ord_new, h6, fun i hi => bad_iff.2 ⟨(bad_iff.1 (hb i hi)).1, fun q => ?_⟩⟩
  rw [lastO_new] at q; cases q.1
theorem al_wiped (h : stB bs dk = true) : alS zFs dk = dk := by
  have h6 := (st_iff.1 h).2.1
  unfold alS
  rw [if_pos (st_wiped h)]
  have e : alK zFs dk 6 = (List.range 6).map fun i => dk.getD i 0 := List.map_congr_left fun i _ => by
    unfold readI
    rw [lastO_new, if_neg (by simp), show ((i : Int) + 1 - 1).toNat = i by omega]
  rw [e]
  match dk, h6 with
  | [_, _, _, _, _, _], _ => rfl
theorem dy_wiped : dyS zFs dk = [] := by
  unfold dyS
  split
  · rfl
  · rfl
end Go.Proofs.Ytiplhdcapnboaaa.Py
