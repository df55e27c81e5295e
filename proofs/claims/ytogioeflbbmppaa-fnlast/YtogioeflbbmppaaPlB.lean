/-
  Plain facts of numbers on pages, of the block that is to be written and of the one that is to be wiped, for the laws that draw.
-/
import Derived.Test.YtogioeflbbmppaaFindD
import Derived.Test.YtogioeflbbmppaaFindO
import Derived.Test.YtogioeflbbmppaaSpecX
import Derived.Test.YtogioeflbbmppaaOk2
namespace Go.Proofs.Ytogioeflbbmppaa.PlB
open Go.ChangeShapes Go.WideShapes Go.ChangeAt Go.RowKit OkA Big Fl ImplB ImplF ImplS ImplU SpecB SpecD SpecW SpecX SpecF SpecG SpecH FindP FindN FindD FindO Ok2
set_option linter.unusedVariables false
set_option linter.unusedSimpArgs false

theorem fold_le {α : Type} (f : α → Int) : ∀ (l : List α) (a m : Int), l.foldl (fun m x => mx m (f x)) a ≤ m ↔ a ≤ m ∧ ∀ x ∈ l, f x ≤ m
  | [], a, m => by simp
  | x :: r, a, m => by
    rw [List.foldl_cons, fold_le f r]
    have : mx a (f x) ≤ m ↔ a ≤ m ∧ f x ≤ m := by unfold mx; split <;> omega
    rw [this]; simp [and_assoc]
theorem fold_at {α : Type} (f : α → Int) : ∀ (l : List α) (a : Int), l.foldl (fun m x => mx m (f x)) a = a ∨ ∃ x ∈ l, f x = l.foldl (fun m x => mx m (f x)) a
  | [], a => .inl rfl
  | x :: r, a => by
    rw [List.foldl_cons]
    rcases fold_at f r (mx a (f x)) with h | ⟨y, hy, h⟩
    · rw [h]
      unfold mx
      split
      · exact .inr ⟨x, by simp, rfl⟩
      · exact .inl rfl
    · exact .inr ⟨y, by simp [hy], h⟩
theorem mostN_iff (ps : List Pg) (m : Int) : mostN ps ≤ m ↔ 0 ≤ m ∧ ∀ p ∈ ps, p.s ≤ m := fold_le (fun p : Pg => p.s) ps 0 m
theorem mostB_iff (bs : List Bk) (m : Int) : mostB bs ≤ m ↔ 0 ≤ m ∧ ∀ b ∈ bs, mostN b.ps ≤ m := fold_le (fun b : Bk => mostN b.ps) bs 0 m
theorem mostN_ge (ps : List Pg) : ∀ p ∈ ps, p.s ≤ mostN ps := ((mostN_iff ps _).1 (Int.le_refl _)).2
theorem mostB_ge (bs : List Bk) : ∀ b ∈ bs, mostN b.ps ≤ mostB bs := ((mostB_iff bs _).1 (Int.le_refl _)).2
theorem mostN_0 (ps : List Pg) : 0 ≤ mostN ps := ((mostN_iff ps _).1 (Int.le_refl _)).1
theorem mostB_0 (bs : List Bk) : 0 ≤ mostB bs := ((mostB_iff bs _).1 (Int.le_refl _)).1
theorem most_page (bs : List Bk) : ∀ b ∈ bs, ∀ p ∈ b.ps, p.s ≤ mostB bs := fun b hb p hp => Int.le_trans (mostN_ge _ p hp) (mostB_ge bs b hb)
theorem mostN_at (ps : List Pg) : mostN ps = 0 ∨ ∃ p ∈ ps, p.s = mostN ps := fold_at (fun p : Pg => p.s) ps 0
theorem mostB_at (bs : List Bk) : mostB bs = 0 ∨ ∃ b ∈ bs, ∃ p ∈ b.ps, p.s = mostB bs := by
  rcases fold_at (fun b : Bk => mostN b.ps) bs 0 with h | ⟨b, hb, h⟩
  · exact .inl h
  · rcases mostN_at b.ps with h' | ⟨p, hp, h'⟩
    · left; show List.foldl _ _ _ = _; rw [← h]; exact h'
    · right; exact ⟨b, hb, p, hp, by rw [h']; exact h⟩
theorem mostN_wi (torn : Bool) : mostN (List.replicate 4 (pgS torn)) = 0 := by cases torn <;> rfl
theorem mostB_wi (bs : List Bk) (k : Nat) (torn : Bool) : mostB (wiL bs k torn) ≤ mostB bs := by
  rw [mostB_iff]
  refine ⟨mostB_0 bs, fun b hb => ?_⟩
  rcases List.mem_or_eq_of_mem_set hb with h | rfl
  · exact mostB_ge bs b h
  · show mostN (List.replicate 4 (pgS torn)) ≤ _
    rw [mostN_wi]; exact mostB_0 bs
theorem wiR_yes {bs : List Bk} {b : Int} {torn : Bool} (h : wiO bs b = true) : wiR bs b torn = wiL bs b.toNat torn ∧ okB (wiL bs b.toNat torn) = true ∧ okB bs = true ∧ b.toNat < 4 ∧ 0 ≤ b ∧ b ≤ 3 ∧ wiN bs b.toNat = false := by
  unfold wiO at h
  simp only [Bool.and_eq_true, Bool.not_eq_true'] at h
  obtain ⟨⟨hok, hin⟩, hw⟩ := h
  obtain ⟨k, rfl, hk⟩ := in_range hin
  refine ⟨by simp only [wiR, hok, hin, hw]; simp, okB_wi bs _ (by simpa using hk) hok torn hw, hok, by simpa using hk, by omega, by omega, hw⟩
theorem wiR_no {bs : List Bk} {b : Int} {torn : Bool} (hok : okB bs = true) (h0 : 0 ≤ b) (h1 : b ≤ 3) (h : wiO bs b = false) : wiR bs b torn = bs ∧ wiN bs b.toNat = true := by
  have hin : inB b 0 3 = true := by simp [inB]; omega
  unfold wiO at h
  simp only [hok, hin, Bool.true_and, Bool.not_eq_false'] at h
  exact ⟨by simp only [wiR, hok, hin, h]; simp, h⟩
theorem next_wi {bs : List Bk} {b : Int} {torn : Bool} (h : wiO bs b = true) : nextR (wiR bs b torn) ≤ nextR bs ∧ 1 ≤ nextR (wiR bs b torn) := by
  obtain ⟨e, h1, h2, _⟩ := wiR_yes (torn := torn) h
  rw [e]
  simp only [nextR, h1, h2, if_true]
  have := mostB_wi bs b.toNat torn
  have := mostB_0 (wiL bs b.toNat torn)
  omega
theorem next_new : nextR zFs = 1 := by kernel_rfl

/-- How many pages of the j-th block are clean; how worn it is. -/
def cN (bs : List Bk) (j : Nat) : Nat := cleanN (bs.getD j zBk).ps
def wN (bs : List Bk) (j : Nat) : Int := (bs.getD j zBk).wn
def OpenS (bs : List Bk) (r : Int × Bool) : Prop :=
  (r = (0, false) ∧ ∀ j < bs.length, cN bs j = 0) ∨ ∃ k : Nat, k < bs.length ∧ r = ((k : Int), true) ∧ 0 < cN bs k ∧
    ((cN bs k < 4 ∧ ∀ j < k, ¬ (0 < cN bs j ∧ cN bs j < 4)) ∨ ((∀ j < bs.length, ¬ (0 < cN bs j ∧ cN bs j < 4)) ∧ ∀ j < bs.length, 0 < cN bs j → wN bs k ≤ wN bs j ∧ (j < k → wN bs k < wN bs j)))
theorem openF_spec (bs : List Bk) : ∀ (l : List Bk) (i : Nat) (out : Int), bs.drop i = l → i + l.length = bs.length → (∀ j < i, ¬ (0 < cN bs j ∧ cN bs j < 4)) →
    ((out = -1 ∧ ∀ j < i, cN bs j = 0) ∨ ∃ k : Nat, k < i ∧ out = (k : Int) ∧ 0 < cN bs k ∧ ∀ j < i, 0 < cN bs j → wN bs k ≤ wN bs j ∧ (j < k → wN bs k < wN bs j)) → OpenS bs (openF bs l i out)
  | [], i, out, _, hn, hp, h => by
    simp only [List.length_nil, Nat.add_zero] at hn
    subst hn
    rcases h with ⟨rfl, h⟩ | ⟨k, hk, rfl, h0, h1⟩
    · exact .inl ⟨rfl, h⟩
    · refine .inr ⟨k, hk, ?_, h0, .inr ⟨hp, h1⟩⟩
      simp only [openF]
      rw [if_neg (by omega)]
      simp
  | b :: r, i, out, hd, hn, hp, h => by
    have hi : i < bs.length := by simp at hn; omega
    have hb : bs.getD i zBk = b := by
      have : bs[i]? = some b := by rw [← List.head?_drop, hd]; rfl
      rw [List.getD_eq_getElem?_getD, this]; rfl
    have hc : cN bs i = cleanN b.ps := by unfold cN; rw [hb]
    have hw : wN bs i = b.wn := by unfold wN; rw [hb]
    have hd' : bs.drop (i + 1) = r := by rw [← List.drop_drop, hd]; rfl
    have hn' : i + 1 + r.length = bs.length := by simp at hn; omega
    unfold openF
    by_cases hq : 0 < cleanN b.ps ∧ cleanN b.ps < 4
    · rw [if_pos hq]
      exact .inr ⟨i, hi, rfl, by omega, .inl ⟨by omega, hp⟩⟩
    rw [if_neg hq]
    refine openF_spec bs r (i + 1) _ hd' hn' (fun j hj => ?_) ?_
    · by_cases e : j = i
      · subst e; rw [hc]; exact hq
      · exact hp j (by omega)
    by_cases hs : 0 < cleanN b.ps ∧ (out < 0 ∨ b.wn < (bs.getD out.toNat zBk).wn)
    · rw [if_pos hs]
      refine .inr ⟨i, by omega, rfl, by omega, fun j hj hj0 => ?_⟩
      by_cases e : j = i
      · subst e; exact ⟨Int.le_refl _, fun h => by omega⟩
      have hji : j < i := by omega
      rcases h with ⟨rfl, h⟩ | ⟨k, hk, rfl, h0, h1⟩
      · have := h j hji; omega
      · have h2 := h1 j hji hj0
        have h3 : b.wn < wN bs k := by
          rcases hs.2 with h | h
          · omega
          · unfold wN; simpa using h
        rw [hw]
        exact ⟨by omega, fun _ => by omega⟩
    · rw [if_neg hs]
      rcases h with ⟨rfl, h⟩ | ⟨k, hk, rfl, h0, h1⟩
      · refine .inl ⟨rfl, fun j hj => ?_⟩
        by_cases e : j = i
        · subst e
          rw [hc]
          have : ¬ 0 < cleanN b.ps := fun hh => hs ⟨hh, .inl (by omega)⟩
          omega
        · exact h j (by omega)
      · refine .inr ⟨k, by omega, rfl, h0, fun j hj hj0 => ?_⟩
        by_cases e : j = i
        · subst e
          rw [hc] at hj0
          have : ¬ b.wn < (bs.getD k zBk).wn := fun hh => hs ⟨hj0, .inr (by simpa using hh)⟩
          rw [hw]
          exact ⟨by unfold wN; omega, fun h => by omega⟩
        · exact h1 j (by omega) hj0
theorem open_spec (bs : List Bk) : OpenS bs (openR bs) := openF_spec bs bs 0 (-1) rfl (by simp) (fun _ h => by omega) (.inl ⟨rfl, fun _ h => by omega⟩)
theorem clean_eq {bs : List Bk} (hok : okB bs = true) (k : Nat) (hk : k < 4) : cleanR bs (k : Int) = (cN bs k : Int) ∧ cN bs k ≤ 4 ∧ cN bs k + usedN (bs.getD k zBk).ps = 4 := by
  have hl := ok_len hok
  have hg : bs.getD k zBk = bs[k]'(by omega) := getD_in bs k (by omega)
  have h4 : (bs[k]'(by omega)).ps.length = 4 := (ok_fours hok).at k (by omega)
  have hc := clean_used (bs[k]'(by omega)).ps (ok_tail hok k (by omega))
  have hin : inB (k : Int) 0 3 = true := by simp [inB]; omega
  unfold cleanR cN
  rw [hok, hin]
  simp only [Bool.and_self, if_true, Int.toNat_natCast, hg]
  omega
theorem fop_ok {bs : List Bk} (hok : okB bs = true) : fopR bs = openR bs := by unfold fopR; rw [if_pos hok]

/-- The block that is wiped next: none has a less number, and none ahead of it the same. -/
theorem old_spec (bs : List Bk) (k : Nat) : ∀ j ≤ k, mostN (bs.getD (oldN bs k) zBk).ps ≤ mostN (bs.getD j zBk).ps ∧ (j < oldN bs k → mostN (bs.getD (oldN bs k) zBk).ps < mostN (bs.getD j zBk).ps) := by
  induction k with
  | zero =>
    intro j hj
    obtain rfl : j = 0 := by omega
    refine ⟨Int.le_refl _, fun h => ?_⟩
    simp [oldN] at h
  | succ k ih =>
    intro j hj
    have hle := oldN_le bs k
    unfold oldN
    by_cases hq : mostN (bs.getD (k + 1) zBk).ps < mostN (bs.getD (oldN bs k) zBk).ps
    · rw [if_pos hq]
      by_cases e : j = k + 1
      · subst e; exact ⟨Int.le_refl _, fun h => by omega⟩
      · have := ih j (by omega); exact ⟨by omega, fun _ => by omega⟩
    · rw [if_neg hq]
      by_cases e : j = k + 1
      · subst e; exact ⟨by omega, fun h => by omega⟩
      · exact ih j (by omega)
theorem old_ok {bs : List Bk} (hok : okB bs = true) : oldR bs = ((oldN bs 3 : Nat) : Int) ∧ oldN bs 3 < 4 := by
  have := oldN_le bs 3
  exact ⟨by unfold oldR; rw [if_pos hok], by omega⟩
theorem mem_seqs {bs : List Bk} {q : Int} (h : q ∈ seqs bs) : ∃ b ∈ bs, ∃ p ∈ b.ps, p.st = 1 ∧ p.s = q := by
  unfold seqs at h
  rw [List.mem_flatMap] at h
  obtain ⟨b, hb, h⟩ := h
  unfold seqsP at h
  rw [List.mem_filterMap] at h
  obtain ⟨p, hp, h⟩ := h
  unfold seqP at h
  split at h
  · exact ⟨b, hb, p, hp, ‹_›, by simpa using h⟩
  · simp at h
theorem has_no {bs : List Bk} {q : Int} (h : ∀ b ∈ bs, ∀ p ∈ b.ps, p.s < q) : hasB bs q = false := by
  unfold hasB
  cases hc : (seqs bs).contains q
  · rfl
  · obtain ⟨b, hb, p, hp, _, e⟩ := mem_seqs (List.contains_iff_mem.1 hc)
    have := h b hb p hp
    omega
theorem wr_open {bs : List Bk} (hok : okB bs = true) (b : Nat) (hb : b < 4) (hc : 0 < cN bs b) (k s a v : Int) (hs : ∀ b ∈ bs, ∀ p ∈ b.ps, p.s < s) (hr : recB k s a v = true) : SpecD.wrB bs (b : Int) k s a v = true ∧ wrN bs b s = false := by
  have hin : inB (b : Int) 0 3 = true := by simp [inB]; omega
  have hu := (clean_eq hok b hb).2.2
  have hw : wrN bs b s = false := by
    unfold wrN
    have h9 : (usedN (bs.getD b zBk).ps == 4) = false := by rw [beq_eq_false_iff_ne]; omega
    rw [has_no hs, h9]
    rfl
  exact ⟨by unfold SpecD.wrB; rw [hok, hin, hr]; simp [hw], hw⟩
theorem wrR_yes {bs : List Bk} {b k s a v : Int} {torn : Bool} (h : SpecD.wrB bs b k s a v = true) : wrR bs b k s a v torn = wrL bs b.toNat (pgW torn k s a v) ∧ okB (wrL bs b.toNat (pgW torn k s a v)) = true ∧ okB bs = true ∧ b.toNat < 4 ∧ 0 ≤ b ∧ b ≤ 3 ∧ recB k s a v = true ∧ wrN bs b.toNat s = false := by
  unfold SpecD.wrB at h
  simp only [Bool.and_eq_true, Bool.not_eq_true'] at h
  obtain ⟨⟨⟨hok, hin⟩, hr⟩, hw⟩ := h
  obtain ⟨n, rfl, hk⟩ := in_range hin
  refine ⟨by simp only [wrR, hok, hin, hw, hr]; simp, okB_wr bs _ (by simpa using hk) hok torn k s a v hr hw, hok, by simpa using hk, by omega, by omega, hr, hw⟩
theorem fop_cases {bs : List Bk} (hok : okB bs = true) : (fopR bs = (0, false) ∧ ∀ j < 4, cN bs j = 0) ∨ ∃ k : Nat, k < 4 ∧ fopR bs = ((k : Int), true) ∧ 0 < cN bs k := by
  rw [fop_ok hok]
  have hl := ok_len hok
  rcases open_spec bs with ⟨h1, h2⟩ | ⟨k, h1, h2, h3, _⟩
  · exact .inl ⟨h1, fun j hj => h2 j (by omega)⟩
  · exact .inr ⟨k, by omega, h2, h3⟩
theorem page_lt {bs : List Bk} : ∀ b ∈ bs, ∀ p ∈ b.ps, p.s < mostB bs + 1 := fun b hb p hp => by have := most_page bs b hb p hp; omega
theorem next_ok {bs : List Bk} (hok : okB bs = true) : nextR bs = mostB bs + 1 ∧ 1 ≤ nextR bs ∧ nextR bs ≤ 601 := by
  have h1 := mostB_le bs (ok_pages hok)
  unfold nextR
  rw [if_pos hok]
  omega
theorem cN_wi {bs : List Bk} (hl : bs.length = 4) (k : Nat) (hk : k < 4) (torn : Bool) (j : Nat) : cN (wiL bs k torn) j = if j = k then (if torn then 0 else 4) else cN bs j := by
  unfold cN wiL
  by_cases e : j = k
  · subst e
    rw [if_pos rfl, List.getD_eq_getElem?_getD, List.getElem?_set_self (by omega)]
    cases torn <;> rfl
  · rw [if_neg e, List.getD_eq_getElem?_getD, List.getElem?_set_ne (fun h => e h.symm), List.getD_eq_getElem?_getD]
theorem fop_wi {bs : List Bk} (k : Nat) (h : wiO bs (k : Int) = true) (h0 : ∀ j < 4, cN bs j = 0) : fopR (wiR bs (k : Int) false) = ((k : Int), true) := by
  obtain ⟨e, hok, hok0, hk, _⟩ := wiR_yes (torn := false) h
  rw [e]
  simp only [Int.toNat_natCast] at hok hk ⊢
  have hl := ok_len hok0
  rcases fop_cases hok with ⟨_, h2⟩ | ⟨k', h1, h2, h3⟩
  · have := h2 k hk
    rw [cN_wi hl k hk] at this
    simp at this
  · rw [cN_wi hl k hk] at h3
    by_cases e : k' = k
    · rw [h2, e]
    · rw [if_neg e, h0 k' h1] at h3; omega
end Go.Proofs.Ytogioeflbbmppaa.PlB
