/-
  Plain facts of living pages: of each address one page lives at most, and one does just if any is written there.
-/
import Derived.Test.YtkikeapfjpnkgaaPz
import Derived.Test.YtkikeapfjpnkgaaBaS
import Derived.Test.YtkikeapfjpnkgaaPlE
import Derived.Test.YtkikeapfjpnkgaaLqM
namespace Go.Proofs.Ytkikeapfjpnkgaa.Lu
open Go.ChangeShapes Go.WideShapes Go.ChangeAt Go.RowKit Go.Shelf OkA Big Fl ImplB ImplF ImplS ImplT ImplU SpecA SpecB SpecC SpecD SpecW SpecX SpecF SpecG SpecH FindP FindN FindO FindD ImplL Pl FindL Ok2 PlB PlC PlD FindV LawsE SpecL
set_option linter.unusedVariables false
set_option linter.unusedSimpArgs false

theorem one_le {t : Pg → Bool} {c : Int} (ht : ∀ p, t p = true → p.st = 1 ∧ p.s = c) : ∀ P : List Pg, (P.filterMap seqP).Pairwise (· ≠ ·) → (P.filter t).length ≤ 1
  | [], _ => by simp
  | p :: r, h => by
    have hr : (r.filterMap seqP).Pairwise (· ≠ ·) := by
      rw [List.filterMap_cons] at h
      split at h
      · exact h
      · exact (List.pairwise_cons.1 h).2
    have ih := one_le ht r hr
    by_cases e : t p = true
    · obtain ⟨h1, h2⟩ := ht p e
      have es : seqP p = some c := by unfold seqP; rw [if_pos h1, h2]
      rw [List.filterMap_cons, es] at h
      have hn := (List.pairwise_cons.1 h).1
      have : r.filter t = [] := by
        rw [List.filter_eq_nil_iff]
        intro q hq e2
        obtain ⟨q1, q2⟩ := ht q e2
        exact hn c (List.mem_filterMap.2 ⟨q, hq, by unfold seqP; rw [if_pos q1, q2]⟩) rfl
      rw [List.filter_cons_of_pos e, this]; simp
    · rw [List.filter_cons_of_neg e]; exact ih
/-- Whether a page lives and is of this address. -/
def livA (bs : List Bk) (a : Int) (p : Pg) : Bool := liveB bs p && p.a == a
/-- How many of these pages live, of one address. -/
def cntL (bs : List Bk) (a : Int) (P : List Pg) : Nat := (P.filter (livA bs a)).length
theorem cntL_push (bs : List Bk) (a : Int) (P : List Pg) (p : Pg) : cntL bs a (P ++ [p]) = cntL bs a P + if livA bs a p = true then 1 else 0 := by
  unfold cntL
  rw [List.filter_append, List.length_append]
  by_cases e : livA bs a p = true
  · rw [if_pos e]; simp [e]
  · rw [if_neg e]; simp [e]
theorem live_is {bs : List Bk} {p : Pg} (h : liveB bs p = true) : p.st = 1 ∧ (lastR bs p.a).k = p.k ∧ (lastR bs p.a).s = p.s ∧ (lastR bs p.a).a = p.a ∧ (lastR bs p.a).v = p.v := by
  rw [liveB_eq] at h
  simp at h
  exact ⟨h.1, h.2.1.1.1, h.2.1.1.2, h.2.1.2, h.2.2⟩
theorem cnt_le {bs : List Bk} (hok : okB bs = true) (a : Int) : cntL bs a (bs.flatMap (·.ps)) ≤ 1 := by
  refine one_le (c := (lastR bs a).s) (fun p hp => ?_) _ ?_
  · unfold livA at hp
    simp at hp
    obtain ⟨h1, _, h3, _⟩ := live_is hp.1
    rw [hp.2] at h3
    exact ⟨h1, h3.symm⟩
  · have h := ((okB_iff bs).1 hok).2.2
    rw [List.filterMap_flatMap]
    exact h
theorem cnt_one {bs : List Bk} (hok : okB bs = true) (a : Int) : cntL bs a (bs.flatMap (·.ps)) = 1 ↔ flO bs a = true := by
  have h1 := cnt_le hok a
  constructor
  · intro h
    have : 0 < ((bs.flatMap (·.ps)).filter (livA bs a)).length := by show 0 < cntL bs a _; omega
    obtain ⟨p, hp⟩ := List.exists_mem_of_length_pos this
    obtain ⟨hp1, hp2⟩ := List.mem_filter.1 hp
    obtain ⟨b, hb, hpb⟩ := List.mem_flatMap.1 hp1
    unfold livA at hp2
    simp at hp2
    have hl := live_is hp2.1
    rw [flO_ok hok]
    have h5 := (last_spec bs a).1 b hb p hpb hl.1 hp2.2
    have h6 := FindP.pg_seq (FindP.ok_pages hok b hb p hpb)
    have h7 : 1 ≤ p.s := by
      rcases h6 with h6 | h6
      · exact h6.2.1
      · exact absurd hl.1 h6.1
    have : (lastR bs a).s ≠ 0 := by omega
    simp [noRc, this]
  · intro h
    have h0 : 0 < ((bs.flatMap (·.ps)).filter (livA bs a)).length := by
      rcases (last_spec bs a).2 with e | ⟨b, hb, p, hp, h3, h4, e⟩
      · rw [flO_ok hok, e] at h; simp [noRc, zRc] at h
      · refine List.length_pos_iff.2 (List.ne_nil_of_mem (List.mem_filter.2 ⟨List.mem_flatMap.2 ⟨b, hb, hp⟩, ?_⟩))
        unfold livA
        rw [liveB_eq, h4, e]
        simp [h3, h4, pgRc]
    have : 0 < cntL bs a (bs.flatMap (·.ps)) := h0
    omega
end Go.Proofs.Ytkikeapfjpnkgaa.Lu
