/-
  Texts that belong together, one behind the other: PlB, PlC, PlD.
-/
import Derived.Test.YtkikeapfjpnkgaaBaQ
import Derived.Test.YtkikeapfjpnkgaaBaN
import Derived.Test.YtkikeapfjpnkgaaBaI
import Derived.Test.YtkikeapfjpnkgaaBaK
import Derived.Test.YtkikeapfjpnkgaaFindL
import Derived.Test.YtkikeapfjpnkgaaBaT

/-
  Plain facts of numbers on pages, of the block that is to be written and of the one that is to be wiped, for the laws that draw.
-/
namespace Go.Proofs.Ytkikeapfjpnkgaa.PlB
open Go.ChangeShapes Go.WideShapes Go.ChangeAt Go.RowKit OkA Big Fl ImplB ImplF ImplS ImplU SpecB SpecD SpecW SpecX SpecF SpecG SpecH FindP FindN FindD FindO Ok2
set_option linter.unusedVariables false
set_option linter.unusedSimpArgs false

theorem fold_le {α : Type} (f : α → Int) : ∀ (l : List α) (a m : Int), l.foldl (fun m x => mx m (f x)) a ≤ m ↔ a ≤ m ∧ ∀ x ∈ l, f x ≤ m
  | [], a, m => by simp
  | x :: r, a, m => by
    rw [List.foldl_cons, fold_le f r]
    have : mx a (f x) ≤ m ↔ a ≤ m ∧ f x ≤ m := by unfold mx; split <;> omega
    rw [this]; simp [and_assoc]
theorem fold_at {α : Type} (f : α → Int) : ∀ (l : List α) (a : Int), l.foldl (fun m x => mx m (f x)) a = a ∨ ∃ x ∈ l, f x = l.foldl (fun m x => mx m (f x)) a
  | [], a => .inl rfl
  | x :: r, a => by
    rw [List.foldl_cons]
    rcases fold_at f r (mx a (f x)) with h | ⟨y, hy, h⟩
    · rw [h]
      unfold mx
      split
      · exact .inr ⟨x, by simp, rfl⟩
      · exact .inl rfl
    · exact .inr ⟨y, by simp [hy], h⟩
theorem mostN_iff (ps : List Pg) (m : Int) : mostN ps ≤ m ↔ 0 ≤ m ∧ ∀ p ∈ ps, p.s ≤ m := fold_le (fun p : Pg => p.s) ps 0 m
theorem mostB_iff (bs : List Bk) (m : Int) : mostB bs ≤ m ↔ 0 ≤ m ∧ ∀ b ∈ bs, mostN b.ps ≤ m := fold_le (fun b : Bk => mostN b.ps) bs 0 m
theorem mostN_ge (ps : List Pg) : ∀ p ∈ ps, p.s ≤ mostN ps := ((mostN_iff ps _).1 (Int.le_refl _)).2
theorem mostB_ge (bs : List Bk) : ∀ b ∈ bs, mostN b.ps ≤ mostB bs := ((mostB_iff bs _).1 (Int.le_refl _)).2
theorem mostN_0 (ps : List Pg) : 0 ≤ mostN ps := ((mostN_iff ps _).1 (Int.le_refl _)).1
theorem mostB_0 (bs : List Bk) : 0 ≤ mostB bs := ((mostB_iff bs _).1 (Int.le_refl _)).1
theorem most_page (bs : List Bk) : ∀ b ∈ bs, ∀ p ∈ b.ps, p.s ≤ mostB bs := fun b hb p hp => Int.le_trans (mostN_ge _ p hp) (mostB_ge bs b hb)
theorem mostN_at (ps : List Pg) : mostN ps = 0 ∨ ∃ p ∈ ps, p.s = mostN ps := fold_at (fun p : Pg => p.s) ps 0
theorem mostB_at (bs : List Bk) : mostB bs = 0 ∨ ∃ b ∈ bs, ∃ p ∈ b.ps, p.s = mostB bs := by
  rcases fold_at (fun b : Bk => mostN b.ps) bs 0 with h | ⟨b, hb, h⟩
  · exact .inl h
  · rcases mostN_at b.ps with h' | ⟨p, hp, h'⟩
    · left; show List.foldl _ _ _ = _; rw [← h]; exact h'
    · right; exact ⟨b, hb, p, hp, by rw [h']; exact h⟩
theorem mostN_wi (torn : Bool) : mostN (List.replicate 4 (pgS torn)) = 0 := by cases torn <;> rfl
theorem mostB_wi (bs : List Bk) (k : Nat) (torn : Bool) : mostB (wiL bs k torn) ≤ mostB bs := by
  rw [mostB_iff]
  refine ⟨mostB_0 bs, fun b hb => ?_⟩
  rcases List.mem_or_eq_of_mem_set hb with h | rfl
  · exact mostB_ge bs b h
  · show mostN (List.replicate 4 (pgS torn)) ≤ _
    rw [mostN_wi]; exact mostB_0 bs
theorem wiR_yes {bs : List Bk} {b : Int} {torn : Bool} (h : wiO bs b = true) : wiR bs b torn = wiL bs b.toNat torn ∧ okB (wiL bs b.toNat torn) = true ∧ okB bs = true ∧ b.toNat < 4 ∧ 0 ≤ b ∧ b ≤ 3 ∧ wiN bs b.toNat = false := by
  unfold wiO at h
  simp only [Bool.and_eq_true, Bool.not_eq_true'] at h
  obtain ⟨⟨hok, hin⟩, hw⟩ := h
  obtain ⟨k, rfl, hk⟩ := in_range hin
  refine ⟨by simp only [wiR, hok, hin, hw]; simp, okB_wi bs _ (by simpa using hk) hok torn hw, hok, by simpa using hk, by omega, by omega, hw⟩
theorem wiR_no {bs : List Bk} {b : Int} {torn : Bool} (hok : okB bs = true) (h0 : 0 ≤ b) (h1 : b ≤ 3) (h : wiO bs b = false) : wiR bs b torn = bs ∧ wiN bs b.toNat = true := by
  have hin : inB b 0 3 = true := by simp [inB]; omega
  unfold wiO at h
  simp only [hok, hin, Bool.true_and, Bool.not_eq_false'] at h
  exact ⟨by simp only [wiR, hok, hin, h]; simp, h⟩
theorem next_wi {bs : List Bk} {b : Int} {torn : Bool} (h : wiO bs b = true) : nextR (wiR bs b torn) ≤ nextR bs ∧ 1 ≤ nextR (wiR bs b torn) := by
  obtain ⟨e, h1, h2, _⟩ := wiR_yes (torn := torn) h
  rw [e]
  simp only [nextR, h1, h2, if_true]
  have := mostB_wi bs b.toNat torn
  have := mostB_0 (wiL bs b.toNat torn)
  omega
theorem next_new : nextR zFs = 1 := by kernel_rfl

/-- How many pages of the j-th block are clean; how worn it is. -/
def cN (bs : List Bk) (j : Nat) : Nat := cleanN (bs.getD j zBk).ps
def wN (bs : List Bk) (j : Nat) : Int := (bs.getD j zBk).wn
def OpenS (bs : List Bk) (r : Int × Bool) : Prop :=
  (r = (0, false) ∧ ∀ j < bs.length, cN bs j = 0) ∨ ∃ k : Nat, k < bs.length ∧ r = ((k : Int), true) ∧ 0 < cN bs k ∧
    ((cN bs k < 4 ∧ ∀ j < k, ¬ (0 < cN bs j ∧ cN bs j < 4)) ∨ ((∀ j < bs.length, ¬ (0 < cN bs j ∧ cN bs j < 4)) ∧ ∀ j < bs.length, 0 < cN bs j → wN bs k ≤ wN bs j ∧ (j < k → wN bs k < wN bs j)))
theorem openF_spec (bs : List Bk) : ∀ (l : List Bk) (i : Nat) (out : Int), bs.drop i = l → i + l.length = bs.length → (∀ j < i, ¬ (0 < cN bs j ∧ cN bs j < 4)) →
    ((out = -1 ∧ ∀ j < i, cN bs j = 0) ∨ ∃ k : Nat, k < i ∧ out = (k : Int) ∧ 0 < cN bs k ∧ ∀ j < i, 0 < cN bs j → wN bs k ≤ wN bs j ∧ (j < k → wN bs k < wN bs j)) → OpenS bs (openF bs l i out)
  | [], i, out, _, hn, hp, h => by
    simp only [List.length_nil, Nat.add_zero] at hn
    subst hn
    rcases h with ⟨rfl, h⟩ | ⟨k, hk, rfl, h0, h1⟩
    · exact .inl ⟨rfl, h⟩
    · refine .inr ⟨k, hk, ?_, h0, .inr ⟨hp, h1⟩⟩
      simp only [openF]
      rw [if_neg (by omega)]
      simp
  | b :: r, i, out, hd, hn, hp, h => by
    have hi : i < bs.length := by simp at hn; omega
    have hb : bs.getD i zBk = b := by
      have : bs[i]? = some b := by rw [← List.head?_drop, hd]; rfl
      rw [List.getD_eq_getElem?_getD, this]; rfl
    have hc : cN bs i = cleanN b.ps := by unfold cN; rw [hb]
    have hw : wN bs i = b.wn := by unfold wN; rw [hb]
    have hd' : bs.drop (i + 1) = r := by rw [← List.drop_drop, hd]; rfl
    have hn' : i + 1 + r.length = bs.length := by simp at hn; omega
    unfold openF
    by_cases hq : 0 < cleanN b.ps ∧ cleanN b.ps < 4
    · rw [if_pos hq]
      exact .inr ⟨i, hi, rfl, by omega, .inl ⟨by omega, hp⟩⟩
    rw [if_neg hq]
    refine openF_spec bs r (i + 1) _ hd' hn' (fun j hj => ?_) ?_
    · by_cases e : j = i
      · subst e; rw [hc]; exact hq
      · exact hp j (by omega)
    by_cases hs : 0 < cleanN b.ps ∧ (out < 0 ∨ b.wn < (bs.getD out.toNat zBk).wn)
    · rw [if_pos hs]
      refine .inr ⟨i, by omega, rfl, by omega, fun j hj hj0 => ?_⟩
      by_cases e : j = i
      · subst e; exact ⟨Int.le_refl _, fun h => by omega⟩
      have hji : j < i := by omega
      rcases h with ⟨rfl, h⟩ | ⟨k, hk, rfl, h0, h1⟩
      · have := h j hji; omega
      · have h2 := h1 j hji hj0
        have h3 : b.wn < wN bs k := by
          rcases hs.2 with h | h
          · omega
          · unfold wN; simpa using h
        rw [hw]
        exact ⟨by omega, fun _ => by omega⟩
    · rw [if_neg hs]
      rcases h with ⟨rfl, h⟩ | ⟨k, hk, rfl, h0, h1⟩
      · refine .inl ⟨rfl, fun j hj => ?_⟩
        by_cases e : j = i
        · subst e
          rw [hc]
          have : ¬ 0 < cleanN b.ps := fun hh => hs ⟨hh, .inl (by omega)⟩
          omega
        · exact h j (by omega)
      · refine .inr ⟨k, by omega, rfl, h0, fun j hj hj0 => ?_⟩
        by_cases e : j = i
        · subst e
          rw [hc] at hj0
          have : ¬ b.wn < (bs.getD k zBk).wn := fun hh => hs ⟨hj0, .inr (by simpa using hh)⟩
          rw [hw]
          exact ⟨by unfold wN; omega, fun h => by omega⟩
        · exact h1 j (by omega) hj0
theorem open_spec (bs : List Bk) : OpenS bs (openR bs) := openF_spec bs bs 0 (-1) rfl (by simp) (fun _ h => by omega) (.inl ⟨rfl, fun _ h => by omega⟩)
theorem clean_eq {bs : List Bk} (hok : okB bs = true) (k : Nat) (hk : k < 4) : cleanR bs (k : Int) = (cN bs k : Int) ∧ cN bs k ≤ 4 ∧ cN bs k + usedN (bs.getD k zBk).ps = 4 := by
  have hl := ok_len hok
  have hg : bs.getD k zBk = bs[k]'(by omega) := getD_in bs k (by omega)
  have h4 : (bs[k]'(by omega)).ps.length = 4 := (ok_fours hok).at k (by omega)
  have hc := clean_used (bs[k]'(by omega)).ps (ok_tail hok k (by omega))
  have hin : inB (k : Int) 0 3 = true := by simp [inB]; omega
  unfold cleanR cN
  rw [hok, hin]
  simp only [Bool.and_self, if_true, Int.toNat_natCast, hg]
  omega
theorem fop_ok {bs : List Bk} (hok : okB bs = true) : fopR bs = openR bs := by unfold fopR; rw [if_pos hok]

/-- The block that is wiped next: none has a less number, and none ahead of it the same. -/
theorem old_spec (bs : List Bk) (k : Nat) : ∀ j ≤ k, mostN (bs.getD (oldN bs k) zBk).ps ≤ mostN (bs.getD j zBk).ps ∧ (j < oldN bs k → mostN (bs.getD (oldN bs k) zBk).ps < mostN (bs.getD j zBk).ps) := by
  induction k with
  | zero =>
    intro j hj
    obtain rfl : j = 0 := by omega
    refine ⟨Int.le_refl _, fun h => ?_⟩
    simp [oldN] at h
  | succ k ih =>
    intro j hj
    have hle := oldN_le bs k
    unfold oldN
    by_cases hq : mostN (bs.getD (k + 1) zBk).ps < mostN (bs.getD (oldN bs k) zBk).ps
    · rw [if_pos hq]
      by_cases e : j = k + 1
      · subst e; exact ⟨Int.le_refl _, fun h => by omega⟩
      · have := ih j (by omega); exact ⟨by omega, fun _ => by omega⟩
    · rw [if_neg hq]
      by_cases e : j = k + 1
      · subst e; exact ⟨by omega, fun h => by omega⟩
      · exact ih j (by omega)
theorem old_ok {bs : List Bk} (hok : okB bs = true) : oldR bs = ((oldN bs 3 : Nat) : Int) ∧ oldN bs 3 < 4 := by
  have := oldN_le bs 3
  exact ⟨by unfold oldR; rw [if_pos hok], by omega⟩
theorem mem_seqs {bs : List Bk} {q : Int} (h : q ∈ seqs bs) : ∃ b ∈ bs, ∃ p ∈ b.ps, p.st = 1 ∧ p.s = q := by
  unfold seqs at h
  rw [List.mem_flatMap] at h
  obtain ⟨b, hb, h⟩ := h
  unfold seqsP at h
  rw [List.mem_filterMap] at h
  obtain ⟨p, hp, h⟩ := h
  unfold seqP at h
  split at h
  · exact ⟨b, hb, p, hp, ‹_›, by simpa using h⟩
  · simp at h
theorem has_no {bs : List Bk} {q : Int} (h : ∀ b ∈ bs, ∀ p ∈ b.ps, p.s < q) : hasB bs q = false := by
  unfold hasB
  cases hc : (seqs bs).contains q
  · rfl
  · obtain ⟨b, hb, p, hp, _, e⟩ := mem_seqs (List.contains_iff_mem.1 hc)
    have := h b hb p hp
    omega
theorem wr_open {bs : List Bk} (hok : okB bs = true) (b : Nat) (hb : b < 4) (hc : 0 < cN bs b) (k s a v : Int) (hs : ∀ b ∈ bs, ∀ p ∈ b.ps, p.s < s) (hr : recB k s a v = true) : SpecD.wrB bs (b : Int) k s a v = true ∧ wrN bs b s = false := by
  have hin : inB (b : Int) 0 3 = true := by simp [inB]; omega
  have hu := (clean_eq hok b hb).2.2
  have hw : wrN bs b s = false := by
    unfold wrN
    have h9 : (usedN (bs.getD b zBk).ps == 4) = false := by rw [beq_eq_false_iff_ne]; omega
    rw [has_no hs, h9]
    rfl
  exact ⟨by unfold SpecD.wrB; rw [hok, hin, hr]; simp [hw], hw⟩
theorem wrR_yes {bs : List Bk} {b k s a v : Int} {torn : Bool} (h : SpecD.wrB bs b k s a v = true) : wrR bs b k s a v torn = wrL bs b.toNat (pgW torn k s a v) ∧ okB (wrL bs b.toNat (pgW torn k s a v)) = true ∧ okB bs = true ∧ b.toNat < 4 ∧ 0 ≤ b ∧ b ≤ 3 ∧ recB k s a v = true ∧ wrN bs b.toNat s = false := by
  unfold SpecD.wrB at h
  simp only [Bool.and_eq_true, Bool.not_eq_true'] at h
  obtain ⟨⟨⟨hok, hin⟩, hr⟩, hw⟩ := h
  obtain ⟨n, rfl, hk⟩ := in_range hin
  refine ⟨by simp only [wrR, hok, hin, hw, hr]; simp, okB_wr bs _ (by simpa using hk) hok torn k s a v hr hw, hok, by simpa using hk, by omega, by omega, hr, hw⟩
theorem fop_cases {bs : List Bk} (hok : okB bs = true) : (fopR bs = (0, false) ∧ ∀ j < 4, cN bs j = 0) ∨ ∃ k : Nat, k < 4 ∧ fopR bs = ((k : Int), true) ∧ 0 < cN bs k := by
  rw [fop_ok hok]
  have hl := ok_len hok
  rcases open_spec bs with ⟨h1, h2⟩ | ⟨k, h1, h2, h3, _⟩
  · exact .inl ⟨h1, fun j hj => h2 j (by omega)⟩
  · exact .inr ⟨k, by omega, h2, h3⟩
theorem page_lt {bs : List Bk} : ∀ b ∈ bs, ∀ p ∈ b.ps, p.s < mostB bs + 1 := fun b hb p hp => by have := most_page bs b hb p hp; omega
theorem next_ok {bs : List Bk} (hok : okB bs = true) : nextR bs = mostB bs + 1 ∧ 1 ≤ nextR bs ∧ nextR bs ≤ 601 := by
  have h1 := mostB_le bs (ok_pages hok)
  unfold nextR
  rw [if_pos hok]
  omega
theorem cN_wi {bs : List Bk} (hl : bs.length = 4) (k : Nat) (hk : k < 4) (torn : Bool) (j : Nat) : cN (wiL bs k torn) j = if j = k then (if torn then 0 else 4) else cN bs j := by
  unfold cN wiL
  by_cases e : j = k
  · subst e
    rw [if_pos rfl, List.getD_eq_getElem?_getD, List.getElem?_set_self (by omega)]
    cases torn <;> rfl
  · rw [if_neg e, List.getD_eq_getElem?_getD, List.getElem?_set_ne (fun h => e h.symm), List.getD_eq_getElem?_getD]
theorem fop_wi {bs : List Bk} (k : Nat) (h : wiO bs (k : Int) = true) (h0 : ∀ j < 4, cN bs j = 0) : fopR (wiR bs (k : Int) false) = ((k : Int), true) := by
  obtain ⟨e, hok, hok0, hk, _⟩ := wiR_yes (torn := false) h
  rw [e]
  simp only [Int.toNat_natCast] at hok hk ⊢
  have hl := ok_len hok0
  rcases fop_cases hok with ⟨_, h2⟩ | ⟨k', h1, h2, h3⟩
  · have := h2 k hk
    rw [cN_wi hl k hk] at this
    simp at this
  · rw [cN_wi hl k hk] at h3
    by_cases e : k' = k
    · rw [h2, e]
    · rw [if_neg e, h0 k' h1] at h3; omega
end Go.Proofs.Ytkikeapfjpnkgaa.PlB

/-
  Plain facts of the last record of an address, over all pages one behind the other, for the laws that draw.
-/
namespace Go.Proofs.Ytkikeapfjpnkgaa.PlC
open OkA Big Fl ImplB ImplF ImplS ImplU SpecB SpecD SpecW SpecX Pl FindP FindL PlB Ok2
set_option linter.unusedVariables false
set_option linter.unusedSimpArgs false

def pgs (bs : List Bk) : List Pg := bs.flatMap (·.ps)
theorem mem_pgs {bs : List Bk} {p : Pg} : p ∈ pgs bs ↔ ∃ b ∈ bs, p ∈ b.ps := List.mem_flatMap
theorem lastF_flat (addr : Int) : ∀ (bs : List Bk) (o : Rc), lastF addr o bs = (pgs bs).foldl (lastS addr) o
  | [], o => rfl
  | b :: r, o => by
    show lastF addr (lastP addr o b.ps) r = _
    rw [lastF_flat addr r]
    simp only [pgs, List.flatMap_cons, List.foldl_append]
    rfl
theorem lastR_flat (bs : List Bk) (addr : Int) : lastR bs addr = (pgs bs).foldl (lastS addr) zRc := lastF_flat addr bs zRc
theorem lastS_cases (addr : Int) (o : Rc) (p : Pg) : (lastS addr o p = o ∧ (p.st = 1 → p.a = addr → p.s ≤ o.s)) ∨ (lastS addr o p = pgRc p ∧ p.st = 1 ∧ p.a = addr ∧ o.s < p.s) := by
  unfold lastS laterB
  by_cases h : p.st = 1 ∧ p.a = addr ∧ o.s < p.s
  · obtain ⟨h1, h2, h3⟩ := h
    right
    refine ⟨?_, h1, h2, h3⟩
    rw [if_pos (by simp [h1, h2, h3])]
  · left
    refine ⟨?_, fun h1 h2 => ?_⟩
    · rw [if_neg (fun hh => h ?_)]
      simp at hh
      exact ⟨hh.1.1, hh.1.2, hh.2⟩
    · by_cases h3 : o.s < p.s
      · exact absurd ⟨h1, h2, h3⟩ h
      · omega
/-- The last record: none is later; and it is what was there, or one that is written. -/
theorem fold_spec (addr : Int) : ∀ (l : List Pg) (o : Rc), o.s ≤ (l.foldl (lastS addr) o).s ∧ (∀ p ∈ l, p.st = 1 → p.a = addr → p.s ≤ (l.foldl (lastS addr) o).s) ∧
    (l.foldl (lastS addr) o = o ∨ ∃ p ∈ l, p.st = 1 ∧ p.a = addr ∧ l.foldl (lastS addr) o = pgRc p)
  | [], o => ⟨Int.le_refl _, fun p hp => by simp at hp, .inl rfl⟩
  | p :: r, o => by
    rw [List.foldl_cons]
    obtain ⟨h1, h2, h3⟩ := fold_spec addr r (lastS addr o p)
    rcases lastS_cases addr o p with ⟨e, hle⟩ | ⟨e, hs, ha, hlt⟩
    · rw [e] at h1 h2 h3 ⊢
      refine ⟨h1, fun q hq hq1 hq2 => ?_, ?_⟩
      · rcases List.mem_cons.1 hq with rfl | hq
        · have := hle hq1 hq2; omega
        · exact h2 q hq hq1 hq2
      · rcases h3 with h3 | ⟨q, hq, h3⟩
        · exact .inl h3
        · exact .inr ⟨q, by simp [hq], h3⟩
    · rw [e] at h1 h2 h3 ⊢
      have hp : (pgRc p).s = p.s := rfl
      refine ⟨by omega, fun q hq hq1 hq2 => ?_, ?_⟩
      · rcases List.mem_cons.1 hq with rfl | hq
        · omega
        · exact h2 q hq hq1 hq2
      · rcases h3 with h3 | ⟨q, hq, h3⟩
        · exact .inr ⟨p, by simp, hs, ha, h3⟩
        · exact .inr ⟨q, by simp [hq], h3⟩
theorem last_spec (bs : List Bk) (addr : Int) : (∀ b ∈ bs, ∀ p ∈ b.ps, p.st = 1 → p.a = addr → p.s ≤ (lastR bs addr).s) ∧ (lastR bs addr = zRc ∨ ∃ b ∈ bs, ∃ p ∈ b.ps, p.st = 1 ∧ p.a = addr ∧ lastR bs addr = pgRc p) := by
  rw [lastR_flat]
  obtain ⟨_, h2, h3⟩ := fold_spec addr (pgs bs) zRc
  refine ⟨fun b hb p hp => h2 p (mem_pgs.2 ⟨b, hb, hp⟩), ?_⟩
  rcases h3 with h3 | ⟨p, hp, h3⟩
  · exact .inl h3
  · obtain ⟨b, hb, hp⟩ := mem_pgs.1 hp
    exact .inr ⟨b, hb, p, hp, h3⟩
/-- A page is laid over a page: all others stay where they are. -/
theorem flat_set (bs : List Bk) (k u : Nat) (hk : k < bs.length) (hu : u < bs[k].ps.length) (p : Pg) (wn : Int) : ∃ L1 L2, pgs bs = L1 ++ bs[k].ps[u] :: L2 ∧ pgs (bs.set k ⟨bs[k].ps.set u p, wn⟩) = L1 ++ p :: L2 := by
  refine ⟨pgs (bs.take k) ++ bs[k].ps.take u, bs[k].ps.drop (u + 1) ++ pgs (bs.drop (k + 1)), ?_, ?_⟩
  · have e1 : bs = bs.take k ++ bs[k] :: bs.drop (k + 1) := by rw [← List.drop_eq_getElem_cons hk, List.take_append_drop]
    have e2 : bs[k].ps = bs[k].ps.take u ++ bs[k].ps[u] :: bs[k].ps.drop (u + 1) := by rw [← List.drop_eq_getElem_cons hu, List.take_append_drop]
    conv => lhs; rw [e1]
    simp only [pgs, List.flatMap_append, List.flatMap_cons, List.append_assoc]
    conv => lhs; rw [e2]
    simp only [List.append_assoc, List.cons_append]
  · have e1 : bs.set k ⟨bs[k].ps.set u p, wn⟩ = bs.take k ++ ⟨bs[k].ps.set u p, wn⟩ :: bs.drop (k + 1) := List.set_eq_take_append_cons_drop.trans (by rw [if_pos hk])
    have e2 : bs[k].ps.set u p = bs[k].ps.take u ++ p :: bs[k].ps.drop (u + 1) := List.set_eq_take_append_cons_drop.trans (by rw [if_pos hu])
    rw [e1]
    simp only [pgs, List.flatMap_append, List.flatMap_cons, List.append_assoc, e2, List.cons_append]
theorem fold_skip (addr : Int) (L1 L2 : List Pg) (p : Pg) (h : ¬ (p.st = 1 ∧ p.a = addr)) (o : Rc) : (L1 ++ p :: L2).foldl (lastS addr) o = (L1 ++ L2).foldl (lastS addr) o := by
  simp only [List.foldl_append, List.foldl_cons]
  rcases lastS_cases addr (L1.foldl (lastS addr) o) p with ⟨e, _⟩ | ⟨_, h1, h2, _⟩
  · rw [e]
  · exact absurd ⟨h1, h2⟩ h
theorem fold_new (addr : Int) (L1 L2 : List Pg) (p : Pg) (h1 : p.st = 1) (h2 : p.a = addr) (h0 : 0 < p.s) (hL1 : ∀ q ∈ L1, q.s < p.s) (hL2 : ∀ q ∈ L2, q.s < p.s) : (L1 ++ p :: L2).foldl (lastS addr) zRc = pgRc p := by
  simp only [List.foldl_append, List.foldl_cons]
  have ha : (L1.foldl (lastS addr) zRc).s < p.s := by
    rcases (fold_spec addr L1 zRc).2.2 with e | ⟨q, hq, _, _, e⟩
    · rw [e]; exact h0
    · rw [e]; exact hL1 q hq
  have e : lastS addr (L1.foldl (lastS addr) zRc) p = pgRc p := by
    rcases lastS_cases addr (L1.foldl (lastS addr) zRc) p with ⟨_, h⟩ | ⟨e, _⟩
    · have := h h1 h2; omega
    · exact e
  rw [e]
  have hs := fold_spec addr L2 (pgRc p)
  rcases hs.2.2 with e | ⟨q, hq, _, _, e⟩
  · exact e
  · have := hs.1
    rw [e] at this
    have h3 := hL2 q hq
    have h4 : (pgRc p).s = p.s := rfl
    have h5 : (pgRc q).s = q.s := rfl
    omega
theorem wr_flat {bs : List Bk} (hok : okB bs = true) (k : Nat) (hk : k < 4) (hu : usedN (bs.getD k zBk).ps ≠ 4) (p : Pg) : ∃ L1 c L2, pgs bs = L1 ++ c :: L2 ∧ c.st = 0 ∧ pgs (wrL bs k p) = L1 ++ p :: L2 := by
  have hkl : k < bs.length := by rw [ok_len hok]; exact hk
  have hg := getD_in bs k hkl
  rw [hg] at hu
  have h4 : bs[k].ps.length = 4 := (ok_fours hok).at k hkl
  have hle := usedN_le bs[k].ps
  have hul : usedN bs[k].ps < bs[k].ps.length := by omega
  obtain ⟨L1, L2, e1, e2⟩ := flat_set bs k (usedN bs[k].ps) hkl hul p bs[k].wn
  refine ⟨L1, _, L2, e1, ?_, ?_⟩
  · have := used_clean bs[k].ps hul
    simpa [clB] using this
  · unfold wrL
    rw [hg]
    exact e2
/-- What is written last is the last; a page that is torn changes nothing. -/
theorem last_wr {bs : List Bk} (hok : okB bs = true) (k : Nat) (hk : k < 4) (hu : usedN (bs.getD k zBk).ps ≠ 4) (rk rs ra rv : Int) (hs : ∀ b ∈ bs, ∀ p ∈ b.ps, p.s < rs) (h0 : 0 < rs) (torn : Bool) (addr : Int) :
    lastR (wrL bs k (pgW torn rk rs ra rv)) addr = if torn = false ∧ ra = addr then ⟨rk, rs, ra, rv⟩ else lastR bs addr := by
  obtain ⟨L1, c, L2, e1, hc, e2⟩ := wr_flat hok k hk hu (pgW torn rk rs ra rv)
  have hall : ∀ q ∈ L1 ++ c :: L2, q.s < rs := fun q hq => by
    rw [← e1] at hq
    obtain ⟨b, hb, hp⟩ := mem_pgs.1 hq
    exact hs b hb q hp
  rw [lastR_flat, lastR_flat, e1, e2, fold_skip addr L1 L2 c (fun h => by rw [hc] at h; exact absurd h.1 (by omega))]
  by_cases h : torn = false ∧ ra = addr
  · obtain ⟨rfl, rfl⟩ := h
    rw [if_pos ⟨rfl, rfl⟩]
    exact fold_new ra L1 L2 _ rfl rfl h0 (fun q hq => hall q (by simp [hq])) (fun q hq => hall q (by simp [hq]))
  · rw [if_neg h, fold_skip]
    intro hh
    apply h
    cases torn
    · exact ⟨rfl, hh.2⟩
    · exact absurd hh.1 (by show ¬ ((2 : Int) = 1); omega)
end Go.Proofs.Ytkikeapfjpnkgaa.PlC

/-
  Plain facts of the order of blocks: what is written where one is to write leaves them in order.
-/
namespace Go.Proofs.Ytkikeapfjpnkgaa.PlD
open OkA Big Fl ImplB ImplF ImplS ImplU SpecB SpecD SpecW SpecX SpecF SpecG SpecH SpecO Pl FindP FindN FindO FindQ PlB PlC Ok2
set_option linter.unusedVariables false
set_option linter.unusedSimpArgs false

theorem least_fold : ∀ (l : List Pg) (n : Int), (∀ p ∈ l, 0 ≤ p.s) → 0 ≤ n →
    (l.foldl (fun n p => lsS n p.s) n = 0 ∧ n = 0 ∧ ∀ p ∈ l, p.s = 0) ∨ (0 < l.foldl (fun n p => lsS n p.s) n ∧ (l.foldl (fun n p => lsS n p.s) n = n ∨ ∃ p ∈ l, p.s = l.foldl (fun n p => lsS n p.s) n) ∧ (0 < n → l.foldl (fun n p => lsS n p.s) n ≤ n) ∧ ∀ p ∈ l, 0 < p.s → l.foldl (fun n p => lsS n p.s) n ≤ p.s)
  | [], n, _, hn => by
    by_cases h : n = 0
    · exact .inl ⟨h, h, fun p hp => by simp at hp⟩
    · exact .inr ⟨by show 0 < n; omega, .inl rfl, fun _ => Int.le_refl _, fun p hp => by simp at hp⟩
  | p :: r, n, h, hn => by
    rw [List.foldl_cons]
    have hp := h p (by simp)
    have hr : ∀ q ∈ r, 0 ≤ q.s := fun q hq => h q (by simp [hq])
    have hc : (lsS n p.s = p.s ∧ 0 < p.s ∧ (n = 0 ∨ p.s < n)) ∨ (lsS n p.s = n ∧ ¬ (0 < p.s ∧ (n = 0 ∨ p.s < n))) := by
      unfold lsS
      split
      · exact .inl ⟨rfl, by assumption⟩
      · exact .inr ⟨rfl, by assumption⟩
    have ih := least_fold r (lsS n p.s) hr (by rcases hc with ⟨e, h1, _⟩ | ⟨e, _⟩ <;> rw [e] <;> omega)
    generalize List.foldl (fun n p => lsS n p.s) (lsS n p.s) r = m at *
    rcases hc with ⟨e, h1, h2⟩ | ⟨e, h1⟩
    · rw [e] at ih
      rcases ih with ⟨_, h3, _⟩ | ⟨i1, i2, i3, i4⟩
      · omega
      · refine .inr ⟨i1, ?_, fun h9 => by have := i3 h1; omega, fun q hq hq0 => ?_⟩
        · rcases i2 with i2 | ⟨q, hq, i2⟩
          · exact .inr ⟨p, by simp, i2.symm⟩
          · exact .inr ⟨q, by simp [hq], i2⟩
        · rcases List.mem_cons.1 hq with rfl | hq
          · exact i3 h1
          · exact i4 q hq hq0
    · rw [e] at ih
      rcases ih with ⟨i1, i2, i3⟩ | ⟨i1, i2, i3, i4⟩
      · refine .inl ⟨i1, i2, fun q hq => ?_⟩
        rcases List.mem_cons.1 hq with rfl | hq
        · by_cases h9 : 0 < q.s
          · exact absurd ⟨h9, .inl i2⟩ h1
          · omega
        · exact i3 q hq
      · refine .inr ⟨i1, ?_, i3, fun q hq hq0 => ?_⟩
        · rcases i2 with i2 | ⟨q, hq, i2⟩
          · exact .inl i2
          · exact .inr ⟨q, by simp [hq], i2⟩
        · rcases List.mem_cons.1 hq with rfl | hq
          · by_cases h9 : n = 0
            · exact absurd ⟨hq0, .inl h9⟩ h1
            · have h10 := i3 (by omega)
              by_cases h11 : q.s < n
              · exact absurd ⟨hq0, .inr h11⟩ h1
              · omega
          · exact i4 q hq hq0
/-- The least number: none, or the least of those that there are. -/
theorem least_spec (ps : List Pg) (h : ∀ p ∈ ps, 0 ≤ p.s) : (leastN ps = 0 ∧ ∀ p ∈ ps, p.s = 0) ∨ (0 < leastN ps ∧ (∃ p ∈ ps, p.s = leastN ps) ∧ ∀ p ∈ ps, 0 < p.s → leastN ps ≤ p.s) := by
  rcases least_fold ps 0 h (Int.le_refl _) with ⟨h1, _, h3⟩ | ⟨h1, h2, _, h4⟩
  · exact .inl ⟨h1, h3⟩
  · refine .inr ⟨h1, ?_, h4⟩
    rcases h2 with h2 | h2
    · exact absurd h1 (by show ¬ 0 < leastN ps; unfold leastN; omega)
    · exact h2
theorem mem_set_ne {ps : List Pg} {u : Nat} (hu : u < ps.length) {p q : Pg} (hq : q ∈ ps) (hne : q.s ≠ ps[u].s) : q ∈ ps.set u p := by
  obtain ⟨i, hi, rfl⟩ := List.getElem_of_mem hq
  have hiu : u ≠ i := fun e => hne (by subst e; rfl)
  have : (ps.set u p)[i]'(by simpa using hi) = ps[i] := List.getElem_set_ne hiu _
  rw [← this]
  exact List.getElem_mem _
theorem mem_set_self {ps : List Pg} {u : Nat} (hu : u < ps.length) {p : Pg} : p ∈ ps.set u p := by
  have hl : u < (ps.set u p).length := by simpa using hu
  have hm := List.getElem_mem hl
  rwa [List.getElem_set_self] at hm
/-- A page without a number over a page without one. -/
theorem nums_zero {ps : List Pg} {u : Nat} (hu : u < ps.length) (h0 : ps[u].s = 0) (h : ∀ p ∈ ps, 0 ≤ p.s) {p : Pg} (hp : p.s = 0) : mostN (ps.set u p) = mostN ps ∧ leastN (ps.set u p) = leastN ps := by
  have h' : ∀ q ∈ ps.set u p, 0 ≤ q.s := fun q hq => by
    rcases List.mem_or_eq_of_mem_set hq with hq | rfl
    · exact h q hq
    · omega
  constructor
  · apply Int.le_antisymm
    · rw [mostN_iff]
      refine ⟨mostN_0 ps, fun q hq => ?_⟩
      rcases List.mem_or_eq_of_mem_set hq with hq | rfl
      · exact mostN_ge ps q hq
      · rw [hp]; exact mostN_0 ps
    · rw [mostN_iff]
      refine ⟨mostN_0 _, fun q hq => ?_⟩
      by_cases e : q.s = 0
      · rw [e]; exact mostN_0 _
      · exact mostN_ge _ q (mem_set_ne hu hq (by omega))
  · rcases least_spec ps h with ⟨e, h1⟩ | ⟨h1, ⟨q, hq, h2⟩, h3⟩
    · rcases least_spec _ h' with ⟨e', _⟩ | ⟨h1', ⟨q, hq, h2'⟩, _⟩
      · rw [e, e']
      · rcases List.mem_or_eq_of_mem_set hq with hq | rfl
        · have := h1 q hq; omega
        · omega
    · have hq' : q ∈ ps.set u p := mem_set_ne hu hq (by omega)
      rcases least_spec _ h' with ⟨_, h1'⟩ | ⟨h1', ⟨q2, hq2, h2'⟩, h3'⟩
      · have := h1' q hq'; omega
      · have a1 := h3' q hq' (by omega)
        rcases List.mem_or_eq_of_mem_set hq2 with hq2 | rfl
        · have a2 := h3 q2 hq2 (by omega); omega
        · omega
/-- A number that is greater than all over a page without one. -/
theorem nums_new {ps : List Pg} {u : Nat} (hu : u < ps.length) (h0 : ps[u].s = 0) (h : ∀ p ∈ ps, 0 ≤ p.s) {p : Pg} (hp : ∀ q ∈ ps, q.s < p.s) : mostN (ps.set u p) = p.s ∧ (leastN (ps.set u p) = if leastN ps = 0 then p.s else leastN ps) := by
  have hp0 : 0 < p.s := by have := hp _ (List.getElem_mem hu); omega
  have h' : ∀ q ∈ ps.set u p, 0 ≤ q.s := fun q hq => by
    rcases List.mem_or_eq_of_mem_set hq with hq | rfl
    · exact h q hq
    · omega
  have hm : p ∈ ps.set u p := mem_set_self hu
  constructor
  · apply Int.le_antisymm
    · rw [mostN_iff]
      refine ⟨by omega, fun q hq => ?_⟩
      rcases List.mem_or_eq_of_mem_set hq with hq | rfl
      · have := hp q hq; omega
      · exact Int.le_refl _
    · exact mostN_ge _ p hm
  · rcases least_spec _ h' with ⟨_, h1'⟩ | ⟨h1', ⟨q2, hq2, h2'⟩, h3'⟩
    · have := h1' p hm; omega
    · rcases least_spec ps h with ⟨e, h1⟩ | ⟨h1, ⟨q, hq, h2⟩, h3⟩
      · rw [if_pos e]
        rcases List.mem_or_eq_of_mem_set hq2 with hq2 | rfl
        · have := h1 q2 hq2; omega
        · omega
      · rw [if_neg (by omega)]
        have a1 := h3' q (mem_set_ne hu hq (by omega)) (by omega)
        rcases List.mem_or_eq_of_mem_set hq2 with hq2 | rfl
        · have a2 := h3 q2 hq2 (by omega); omega
        · have := hp q hq; omega
theorem ord_parts {bs : List Bk} (h : ordB bs = true) {i k : Nat} (hi : i < 4) (hk : k < 4) (hne : i ≠ k) : ovB (bs.getD i zBk) (bs.getD k zBk) = false ∧ lateB (bs.getD i zBk) (bs.getD k zBk) = false := by
  have := (ordB_iff bs).1 h i hi k hk
  unfold badB at this
  have e : (i != k) = true := by simpa using hne
  rw [e, Bool.true_and, Bool.or_eq_false_iff] at this
  exact this
theorem ord_of {bs : List Bk} (h : ∀ i < 4, ∀ k < 4, i ≠ k → ovB (bs.getD i zBk) (bs.getD k zBk) = false ∧ lateB (bs.getD i zBk) (bs.getD k zBk) = false) : ordB bs = true := by
  rw [ordB_iff]
  intro i hi k hk
  unfold badB
  by_cases e : i = k
  · subst e; simp
  · obtain ⟨h1, h2⟩ := h i hi k hk e
    rw [h1, h2]; simp
theorem late_no {a b : Bk} (h : bgS a = false) : lateB a b = false := by unfold lateB; rw [h]; rfl
theorem ov_iff (a b : Bk) : ovB a b = false ↔ ¬ (0 < mostN a.ps ∧ 0 < mostN b.ps ∧ leastN a.ps < mostN b.ps ∧ leastN b.ps < mostN a.ps) := by
  rw [← Bool.not_eq_true]
  simp only [ovB, Bool.and_eq_true, decide_eq_true_eq, and_assoc]
theorem bg_iff (a : Bk) : bgS a = true ↔ 0 < cleanN a.ps ∧ cleanN a.ps < 4 := by
  simp only [bgS, Bool.and_eq_true, decide_eq_true_eq]
  omega
theorem late_iff (a b : Bk) : lateB a b = false ↔ ¬ (bgS a = true ∧ (bgS b = true ∨ (0 < mostN a.ps ∧ mostN a.ps < mostN b.ps))) := by
  rw [← Bool.not_eq_true]
  simp only [lateB, Bool.and_eq_true, Bool.or_eq_true, decide_eq_true_eq]
/-- What is written where one is to write is in order. -/
theorem ord_wr {bs : List Bk} (hok : okB bs = true) (ho : ordB bs = true) (kb : Nat) (hop : fopR bs = ((kb : Int), true)) (hk : kb < 4) (rk rs ra rv : Int) (hs : ∀ b ∈ bs, ∀ p ∈ b.ps, p.s < rs) (torn : Bool) : ordB (wrL bs kb (pgW torn rk rs ra rv)) = true := by
  have hl := ok_len hok
  have hkl : kb < bs.length := by omega
  have hg := getD_in bs kb hkl
  -- nobody else is begun
  have hspec := open_spec bs
  rw [← fop_ok hok, hop] at hspec
  obtain ⟨hc0, hnb⟩ : 0 < cN bs kb ∧ ∀ i < 4, i ≠ kb → bgS (bs.getD i zBk) = false := by
    rcases hspec with ⟨e, _⟩ | ⟨k, hk1, e, hc, hal⟩
    · exact absurd (Prod.mk.inj e).2 (by simp)
    · have hkk : k = kb := by have := (Prod.mk.inj e).1; omega
      subst hkk
      refine ⟨hc, fun i hi hne => ?_⟩
      rcases hal with ⟨h1, _⟩ | ⟨h1, _⟩
      · have hb : bgS (bs.getD k zBk) = true := (bg_iff _).2 ⟨hc, h1⟩
        have hlt := (ord_parts ho hk hi (fun e => hne e.symm)).2
        cases hx : bgS (bs.getD i zBk)
        · rfl
        · exact absurd ⟨hb, .inl hx⟩ ((late_iff _ _).1 hlt)
      · cases hx : bgS (bs.getD i zBk)
        · rfl
        · exact absurd ((bg_iff _).1 hx) (h1 i (by omega))
  -- the pages of the block
  have hu := (clean_eq hok kb hk).2.2
  have h4 : bs[kb].ps.length = 4 := (ok_fours hok).at kb hkl
  rw [hg] at hu
  have hul : usedN bs[kb].ps < bs[kb].ps.length := by omega
  have hpg : ∀ p ∈ bs[kb].ps, pgB p = true := ok_pages hok _ (List.getElem_mem hkl)
  have hnn : ∀ p ∈ bs[kb].ps, 0 ≤ p.s := fun p hp => by rcases pg_seq (hpg p hp) with h | h <;> omega
  have hcl : bs[kb].ps[usedN bs[kb].ps].st = 0 := by simpa [clB] using used_clean bs[kb].ps hul
  have hz : bs[kb].ps[usedN bs[kb].ps].s = 0 := by rcases pg_seq (hpg _ (List.getElem_mem hul)) with h | h <;> omega
  have hX : (wrL bs kb (pgW torn rk rs ra rv)).getD kb zBk = ⟨bs[kb].ps.set (usedN bs[kb].ps) (pgW torn rk rs ra rv), bs[kb].wn⟩ := by
    unfold wrL
    rw [hg, List.getD_eq_getElem?_getD, List.getElem?_set_self hkl]
    rfl
  have hXo : ∀ i, i ≠ kb → (wrL bs kb (pgW torn rk rs ra rv)).getD i zBk = bs.getD i zBk := fun i hi => by
    unfold wrL
    rw [List.getD_eq_getElem?_getD, List.getElem?_set_ne (fun e => hi e.symm), List.getD_eq_getElem?_getD]
  -- if it has numbers it was begun
  have hbeg : 0 < mostN bs[kb].ps → bgS bs[kb] = true := fun h => by
    rw [bg_iff]
    have hc : cN bs kb = cleanN bs[kb].ps := by unfold cN; rw [hg]
    refine ⟨by omega, ?_⟩
    by_cases h9 : usedN bs[kb].ps = 0
    · have hall := (usedN_zero _).1 h9
      rw [List.all_eq_true] at hall
      rcases mostN_at bs[kb].ps with e | ⟨p, hp, e⟩
      · omega
      · have : p.st = 0 := by simpa [clB] using hall p hp
        rcases pg_seq (hpg p hp) with h | h <;> omega
    · omega
  have hmk : ∀ i < 4, mostN (bs.getD i zBk).ps < rs := fun i hi => by
    have hil : i < bs.length := by omega
    rw [getD_in bs i hil]
    rcases mostN_at bs[i].ps with e | ⟨p, hp, e⟩
    · rw [e]
      have := hs _ (List.getElem_mem hkl) _ (List.getElem_mem hul)
      omega
    · rw [← e]; exact hs _ (List.getElem_mem hil) p hp
  have hlt : ∀ i < 4, i ≠ kb → 0 < mostN bs[kb].ps → ¬ mostN bs[kb].ps < mostN (bs.getD i zBk).ps := fun i hi hne h h9 => by
    have := (ord_parts ho hk hi (fun e => hne e.symm)).2
    rw [hg] at this
    exact (late_iff _ _).1 this ⟨hbeg h, .inr ⟨h, h9⟩⟩
  have hov : ∀ i < 4, i ≠ kb → ¬ (0 < mostN bs[kb].ps ∧ 0 < mostN (bs.getD i zBk).ps ∧ leastN bs[kb].ps < mostN (bs.getD i zBk).ps ∧ leastN (bs.getD i zBk).ps < mostN bs[kb].ps) := fun i hi hne => by
    have := (ord_parts ho hk hi (fun e => hne e.symm)).1
    rw [hg] at this
    exact (ov_iff _ _).1 this
  -- what the block's numbers are now
  obtain ⟨m', l', em, el, key⟩ : ∃ m' l', mostN (bs[kb].ps.set (usedN bs[kb].ps) (pgW torn rk rs ra rv)) = m' ∧ leastN (bs[kb].ps.set (usedN bs[kb].ps) (pgW torn rk rs ra rv)) = l' ∧
      ∀ i < 4, i ≠ kb → ¬ (0 < m' ∧ 0 < mostN (bs.getD i zBk).ps ∧ l' < mostN (bs.getD i zBk).ps ∧ leastN (bs.getD i zBk).ps < m') ∧ ¬ (0 < m' ∧ m' < mostN (bs.getD i zBk).ps) := by
    cases torn
    · obtain ⟨e1, e2⟩ := nums_new (p := pgW false rk rs ra rv) hul hz hnn (fun q hq => hs _ (List.getElem_mem hkl) q hq)
      have e1 : mostN (bs[kb].ps.set (usedN bs[kb].ps) (pgW false rk rs ra rv)) = rs := e1
      refine ⟨rs, _, e1, e2, fun i hi hne => ⟨fun ⟨_, h2, h3, h4⟩ => ?_, fun h => ?_⟩⟩
      · have h5 := hmk i hi
        have h6 : (pgW false rk rs ra rv).s = rs := rfl
        rw [h6] at h3
        by_cases h7 : leastN bs[kb].ps = 0
        · rw [if_pos h7] at h3; omega
        · rw [if_neg h7] at h3
          have hsp := spB_eq (b := bs[kb]) hpg
          have h8 : 0 < mostN bs[kb].ps := by omega
          have h9 := hlt i hi hne h8
          have h10 := hov i hi hne
          by_cases h11 : leastN (bs.getD i zBk).ps < mostN bs[kb].ps
          · exact h10 ⟨h8, h2, h3, h11⟩
          · have hil : i < bs.length := by omega
            have hsi := spB_eq (b := bs[i]) (ok_pages hok _ (List.getElem_mem hil))
            rw [getD_in bs i hil] at h11 h9 h2
            have hne' := apart_nums hok hil hkl hne (by rw [← getD_in bs i hil] at h2 ⊢; exact h2) h8
            omega
      · have := hmk i hi; omega
    · obtain ⟨e1, e2⟩ := nums_zero (p := pgW true rk rs ra rv) hul hz hnn rfl
      refine ⟨_, _, e1, e2, fun i hi hne => ⟨hov i hi hne, fun h => hlt i hi hne h.1 h.2⟩⟩
  refine ord_of fun i hi k hk' hne => ?_
  by_cases e1 : i = kb
  · subst e1
    have hki : k ≠ i := fun e => hne e.symm
    rw [hX, hXo k hki]
    obtain ⟨a1, a2⟩ := key k hk' hki
    refine ⟨(ov_iff _ _).2 ?_, (late_iff _ _).2 ?_⟩
    · show ¬ (0 < mostN (bs[i].ps.set _ _) ∧ _)
      rw [em, el]; exact a1
    · rintro ⟨_, h | h⟩
      · rw [hnb k hk' hki] at h; simp at h
      · have h : 0 < mostN (bs[i].ps.set (usedN bs[i].ps) (pgW torn rk rs ra rv)) ∧ mostN (bs[i].ps.set (usedN bs[i].ps) (pgW torn rk rs ra rv)) < mostN (bs.getD k zBk).ps := h
        rw [em] at h
        exact a2 h
  · rw [hXo i e1]
    refine ⟨?_, late_no (hnb i hi e1)⟩
    by_cases e2 : k = kb
    · subst e2
      rw [hX, ov_iff]
      obtain ⟨a1, _⟩ := key i hi e1
      show ¬ (0 < mostN (bs.getD i zBk).ps ∧ 0 < mostN (bs[k].ps.set _ _) ∧ leastN (bs.getD i zBk).ps < mostN (bs[k].ps.set _ _) ∧ leastN (bs[k].ps.set _ _) < mostN (bs.getD i zBk).ps)
      rw [em, el]
      exact fun ⟨b1, b2, b3, b4⟩ => a1 ⟨b2, b1, b4, b3⟩
    · rw [hXo k e2]
      exact (ord_parts ho hi hk' hne).1
/-- A wipe, when no page is clean, leaves blocks in order. -/
theorem ord_wi {bs : List Bk} (hok : okB bs = true) (ho : ordB bs = true) (h0 : ∀ j < 4, cN bs j = 0) (kb : Nat) (hk : kb < 4) (torn : Bool) : ordB (wiL bs kb torn) = true := by
  have hl := ok_len hok
  have hkl : kb < bs.length := by omega
  have hX : (wiL bs kb torn).getD kb zBk = wiB (bs.getD kb zBk) torn := by
    unfold wiL
    rw [List.getD_eq_getElem?_getD, List.getElem?_set_self hkl]
    rfl
  have hXo : ∀ i, i ≠ kb → (wiL bs kb torn).getD i zBk = bs.getD i zBk := fun i hi => by
    unfold wiL
    rw [List.getD_eq_getElem?_getD, List.getElem?_set_ne (fun e => hi e.symm), List.getD_eq_getElem?_getD]
  have hbg : ∀ i < 4, bgS ((wiL bs kb torn).getD i zBk) = false := fun i hi => by
    cases hb : bgS ((wiL bs kb torn).getD i zBk)
    · rfl
    · have h1 := (bg_iff _).1 hb
      by_cases e : i = kb
      · subst e
        rw [hX] at h1
        cases torn
        · exact absurd h1.2 (by show ¬ ((4 : Nat) < 4); omega)
        · exact absurd h1.1 (by show ¬ ((0 : Nat) < 0); omega)
      · rw [hXo i e] at h1
        have := h0 i hi
        unfold cN at this
        omega
  have hm : mostN (wiB (bs.getD kb zBk) torn).ps = 0 := mostN_wi torn
  refine ord_of fun i hi k hk' hne => ⟨?_, late_no (hbg i hi)⟩
  by_cases e1 : i = kb
  · subst e1
    rw [hX, ov_iff, hm]
    omega
  · by_cases e2 : k = kb
    · subst e2
      rw [hX, ov_iff, hm]
      omega
    · rw [hXo i e1, hXo k e2]
      exact (ord_parts ho hi hk' hne).1
end Go.Proofs.Ytkikeapfjpnkgaa.PlD
