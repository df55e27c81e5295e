/-
  Plain facts of the last record of an address, over all pages one behind the other, for the laws that draw.
-/
import Derived.Test.YtogioeflbbmppaaPlB
import Derived.Test.YtogioeflbbmppaaFindL
namespace Go.Proofs.Ytogioeflbbmppaa.PlC
open OkA Big Fl ImplB ImplF ImplS ImplU SpecB SpecD SpecW SpecX Pl FindP FindL PlB Ok2
set_option linter.unusedVariables false
set_option linter.unusedSimpArgs false

def pgs (bs : List Bk) : List Pg := bs.flatMap (·.ps)
theorem mem_pgs {bs : List Bk} {p : Pg} : p ∈ pgs bs ↔ ∃ b ∈ bs, p ∈ b.ps := List.mem_flatMap
theorem lastF_flat (addr : Int) : ∀ (bs : List Bk) (o : Rc), lastF addr o bs = (pgs bs).foldl (lastS addr) o
  | [], o => rfl
  | b :: r, o => by
    show lastF addr (lastP addr o b.ps) r = _
    rw [lastF_flat addr r]
    simp only [pgs, List.flatMap_cons, List.foldl_append]
    rfl
theorem lastR_flat (bs : List Bk) (addr : Int) : lastR bs addr = (pgs bs).foldl (lastS addr) zRc := lastF_flat addr bs zRc
theorem lastS_cases (addr : Int) (o : Rc) (p : Pg) : (lastS addr o p = o ∧ (p.st = 1 → p.a = addr → p.s ≤ o.s)) ∨ (lastS addr o p = pgRc p ∧ p.st = 1 ∧ p.a = addr ∧ o.s < p.s) := by
  unfold lastS laterB
  by_cases h : p.st = 1 ∧ p.a = addr ∧ o.s < p.s
  · obtain ⟨h1, h2, h3⟩ := h
    right
    refine ⟨?_, h1, h2, h3⟩
    rw [if_pos (by simp [h1, h2, h3])]
  · left
    refine ⟨?_, fun h1 h2 => ?_⟩
    · rw [if_neg (fun hh => h ?_)]
      simp at hh
      exact ⟨hh.1.1, hh.1.2, hh.2⟩
    · by_cases h3 : o.s < p.s
      · exact absurd ⟨h1, h2, h3⟩ h
      · omega
/-- The last record: none is later; and it is what was there, or one that is written. -/
theorem fold_spec (addr : Int) : ∀ (l : List Pg) (o : Rc), o.s ≤ (l.foldl (lastS addr) o).s ∧ (∀ p ∈ l, p.st = 1 → p.a = addr → p.s ≤ (l.foldl (lastS addr) o).s) ∧
    (l.foldl (lastS addr) o = o ∨ ∃ p ∈ l, p.st = 1 ∧ p.a = addr ∧ l.foldl (lastS addr) o = pgRc p)
  | [], o => ⟨Int.le_refl _, fun p hp => by simp at hp, .inl rfl⟩
  | p :: r, o => by
    rw [List.foldl_cons]
    obtain ⟨h1, h2, h3⟩ := fold_spec addr r (lastS addr o p)
    rcases lastS_cases addr o p with ⟨e, hle⟩ | ⟨e, hs, ha, hlt⟩
    · rw [e] at h1 h2 h3 ⊢
      refine ⟨h1, fun q hq hq1 hq2 => ?_, ?_⟩
      · rcases List.mem_cons.1 hq with rfl | hq
        · have := hle hq1 hq2; omega
        · exact h2 q hq hq1 hq2
      · rcases h3 with h3 | ⟨q, hq, h3⟩
        · exact .inl h3
        · exact .inr ⟨q, by simp [hq], h3⟩
    · rw [e] at h1 h2 h3 ⊢
      have hp : (pgRc p).s = p.s := rfl
      refine ⟨by omega, fun q hq hq1 hq2 => ?_, ?_⟩
      · rcases List.mem_cons.1 hq with rfl | hq
        · omega
        · exact h2 q hq hq1 hq2
      · rcases h3 with h3 | ⟨q, hq, h3⟩
        · exact .inr ⟨p, by simp, hs, ha, h3⟩
        · exact .inr ⟨q, by simp [hq], h3⟩
theorem last_spec (bs : List Bk) (addr : Int) : (∀ b ∈ bs, ∀ p ∈ b.ps, p.st = 1 → p.a = addr → p.s ≤ (lastR bs addr).s) ∧ (lastR bs addr = zRc ∨ ∃ b ∈ bs, ∃ p ∈ b.ps, p.st = 1 ∧ p.a = addr ∧ lastR bs addr = pgRc p) := by
  rw [lastR_flat]
  obtain ⟨_, h2, h3⟩ := fold_spec addr (pgs bs) zRc
  refine ⟨fun b hb p hp => h2 p (mem_pgs.2 ⟨b, hb, hp⟩), ?_⟩
  rcases h3 with h3 | ⟨p, hp, h3⟩
  · exact .inl h3
  · obtain ⟨b, hb, hp⟩ := mem_pgs.1 hp
    exact .inr ⟨b, hb, p, hp, h3⟩
/-- A page is laid over a page: all others stay where they are. -/
theorem flat_set (bs : List Bk) (k u : Nat) (hk : k < bs.length) (hu : u < bs[k].ps.length) (p : Pg) (wn : Int) : ∃ L1 L2, pgs bs = L1 ++ bs[k].ps[u] :: L2 ∧ pgs (bs.set k ⟨bs[k].ps.set u p, wn⟩) = L1 ++ p :: L2 := by
  refine ⟨pgs (bs.take k) ++ bs[k].ps.take u, bs[k].ps.drop (u + 1) ++ pgs (bs.drop (k + 1)), ?_, ?_⟩
  · have e1 : bs = bs.take k ++ bs[k] :: bs.drop (k + 1) := by rw [← List.drop_eq_getElem_cons hk, List.take_append_drop]
    have e2 : bs[k].ps = bs[k].ps.take u ++ bs[k].ps[u] :: bs[k].ps.drop (u + 1) := by rw [← List.drop_eq_getElem_cons hu, List.take_append_drop]
    conv => lhs; rw [e1]
    simp only [pgs, List.flatMap_append, List.flatMap_cons, List.append_assoc]
    conv => lhs; rw [e2]
    simp only [List.append_assoc, List.cons_append]
  · have e1 : bs.set k ⟨bs[k].ps.set u p, wn⟩ = bs.take k ++ ⟨bs[k].ps.set u p, wn⟩ :: bs.drop (k + 1) := List.set_eq_take_append_cons_drop.trans (by rw [if_pos hk])
    have e2 : bs[k].ps.set u p = bs[k].ps.take u ++ p :: bs[k].ps.drop (u + 1) := List.set_eq_take_append_cons_drop.trans (by rw [if_pos hu])
    rw [e1]
    simp only [pgs, List.flatMap_append, List.flatMap_cons, List.append_assoc, e2, List.cons_append]
theorem fold_skip (addr : Int) (L1 L2 : List Pg) (p : Pg) (h : ¬ (p.st = 1 ∧ p.a = addr)) (o : Rc) : (L1 ++ p :: L2).foldl (lastS addr) o = (L1 ++ L2).foldl (lastS addr) o := by
  simp only [List.foldl_append, List.foldl_cons]
  rcases lastS_cases addr (L1.foldl (lastS addr) o) p with ⟨e, _⟩ | ⟨_, h1, h2, _⟩
  · rw [e]
  · exact absurd ⟨h1, h2⟩ h
theorem fold_new (addr : Int) (L1 L2 : List Pg) (p : Pg) (h1 : p.st = 1) (h2 : p.a = addr) (h0 : 0 < p.s) (hL1 : ∀ q ∈ L1, q.s < p.s) (hL2 : ∀ q ∈ L2, q.s < p.s) : (L1 ++ p :: L2).foldl (lastS addr) zRc = pgRc p := by
  simp only [List.foldl_append, List.foldl_cons]
  have ha : (L1.foldl (lastS addr) zRc).s < p.s := by
    rcases (fold_spec addr L1 zRc).2.2 with e | ⟨q, hq, _, _, e⟩
    · rw [e]; exact h0
    · rw [e]; exact hL1 q hq
  have e : lastS addr (L1.foldl (lastS addr) zRc) p = pgRc p := by
    rcases lastS_cases addr (L1.foldl (lastS addr) zRc) p with ⟨_, h⟩ | ⟨e, _⟩
    · have := h h1 h2; omega
    · exact e
  rw [e]
  have hs := fold_spec addr L2 (pgRc p)
  rcases hs.2.2 with e | ⟨q, hq, _, _, e⟩
  · exact e
  · have := hs.1
    rw [e] at this
    have h3 := hL2 q hq
    have h4 : (pgRc p).s = p.s := rfl
    have h5 : (pgRc q).s = q.s := rfl
    omega
theorem wr_flat {bs : List Bk} (hok : okB bs = true) (k : Nat) (hk : k < 4) (hu : usedN (bs.getD k zBk).ps ≠ 4) (p : Pg) : ∃ L1 c L2, pgs bs = L1 ++ c :: L2 ∧ c.st = 0 ∧ pgs (wrL bs k p) = L1 ++ p :: L2 := by
  have hkl : k < bs.length := by rw [ok_len hok]; exact hk
  have hg := getD_in bs k hkl
  rw [hg] at hu
  have h4 : bs[k].ps.length = 4 := (ok_fours hok).at k hkl
  have hle := usedN_le bs[k].ps
  have hul : usedN bs[k].ps < bs[k].ps.length := by omega
  obtain ⟨L1, L2, e1, e2⟩ := flat_set bs k (usedN bs[k].ps) hkl hul p bs[k].wn
  refine ⟨L1, _, L2, e1, ?_, ?_⟩
  · have := used_clean bs[k].ps hul
    simpa [clB] using this
  · unfold wrL
    rw [hg]
    exact e2
/-- What is written last is the last; a page that is torn changes nothing. -/
theorem last_wr {bs : List Bk} (hok : okB bs = true) (k : Nat) (hk : k < 4) (hu : usedN (bs.getD k zBk).ps ≠ 4) (rk rs ra rv : Int) (hs : ∀ b ∈ bs, ∀ p ∈ b.ps, p.s < rs) (h0 : 0 < rs) (torn : Bool) (addr : Int) :
    lastR (wrL bs k (pgW torn rk rs ra rv)) addr = if torn = false ∧ ra = addr then ⟨rk, rs, ra, rv⟩ else lastR bs addr := by
  obtain ⟨L1, c, L2, e1, hc, e2⟩ := wr_flat hok k hk hu (pgW torn rk rs ra rv)
  have hall : ∀ q ∈ L1 ++ c :: L2, q.s < rs := fun q hq => by
    rw [← e1] at hq
    obtain ⟨b, hb, hp⟩ := mem_pgs.1 hq
    exact hs b hb q hp
  rw [lastR_flat, lastR_flat, e1, e2, fold_skip addr L1 L2 c (fun h => by rw [hc] at h; exact absurd h.1 (by omega))]
  by_cases h : torn = false ∧ ra = addr
  · obtain ⟨rfl, rfl⟩ := h
    rw [if_pos ⟨rfl, rfl⟩]
    exact fold_new ra L1 L2 _ rfl rfl h0 (fun q hq => hall q (by simp [hq])) (fun q hq => hall q (by simp [hq]))
  · rw [if_neg h, fold_skip]
    intro hh
    apply h
    cases torn
    · exact ⟨rfl, hh.2⟩
    · exact absurd hh.1 (by show ¬ ((2 : Int) = 1); omega)
end Go.Proofs.Ytogioeflbbmppaa.PlC
