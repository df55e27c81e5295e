/-
  Plain lists: the written pages one behind the other, and what is reckoned of them: the last record of an address, the least and the greatest number of each block. Nothing here walks the program.
-/
import Derived.Test.YtogioeflbbmppaaPl
namespace Go.Proofs.Ytogioeflbbmppaa.FindP
open Go.ChangeShapes Go.WideShapes Go.ChangeAt Go.RowKit OkA Big Fl ImplB ImplF ImplS Own ImplT ImplU SpecA SpecB SpecC SpecD SpecW SpecF SpecG SpecH Ok2 Pl
set_option linter.unusedVariables false
set_option linter.unusedSimpArgs false

/-- A page that is written, and on which block. -/
abbrev Wr := Fin 4 × Rc
def wrO (i : Fin 4) (p : Pg) : List Wr := if p.st = 1 then [(i, pgRc p)] else []
def wrP (i : Fin 4) (ps : List Pg) : List Wr := ps.flatMap (wrO i)
def blks (bs : List Bk) : List (Fin 4 × Bk) := (List.finRange 4).zip bs
def wrA (l : List (Fin 4 × Bk)) : List Wr := l.flatMap fun x => wrP x.1 x.2.ps
theorem wrP_take (i : Fin 4) (ps : List Pg) (j : Nat) (hj : j < ps.length) : wrP i (ps.take (j + 1)) = wrP i (ps.take j) ++ wrO i ps[j] := by
  unfold wrP
  rw [List.take_succ_eq_append_getElem hj, List.flatMap_append]; simp
theorem wrA_take (l : List (Fin 4 × Bk)) (k : Nat) (hk : k < l.length) : wrA (l.take (k + 1)) = wrA (l.take k) ++ wrP l[k].1 l[k].2.ps := by
  unfold wrA
  rw [List.take_succ_eq_append_getElem hk, List.flatMap_append]; simp
theorem blks_len (bs : List Bk) (h : bs.length = 4) : (blks bs).length = 4 := by simp [blks, h]
theorem blks_at (bs : List Bk) (h : bs.length = 4) (k : Nat) (hk : k < 4) : (blks bs)[k]'(by rw [blks_len bs h]; exact hk) = (⟨k, hk⟩, bs[k]'(by omega)) := by
  simp [blks]
theorem wrO_len (i : Fin 4) (p : Pg) : (wrO i p).length ≤ 1 := by unfold wrO; split <;> simp
theorem wrP_len (i : Fin 4) (ps : List Pg) : (wrP i ps).length ≤ ps.length := by
  induction ps with
  | nil => simp [wrP]
  | cons p r ih =>
    have := wrO_len i p
    simp only [wrP, List.flatMap_cons, List.length_append, List.length_cons] at ih ⊢
    omega
theorem wrA_len (l : List (Fin 4 × Bk)) (n : Nat) (h : ∀ x ∈ l, x.2.ps.length ≤ n) : (wrA l).length ≤ l.length * n := by
  induction l with
  | nil => simp [wrA]
  | cons x r ih =>
    have h1 := wrP_len x.1 x.2.ps
    have h2 := h x (by simp)
    have h3 := ih fun y hy => h y (by simp [hy])
    simp only [wrA, List.flatMap_cons, List.length_append, List.length_cons, Nat.add_mul] at h3 ⊢
    omega

/-! The last record of an address. -/
def lstS (addr : Int) (o r : Rc) : Rc := if r.a = addr ∧ o.s < r.s then r else o
def lstW (addr : Int) (o : Rc) (l : List Wr) : Rc := l.foldl (fun o x => lstS addr o x.2) o
theorem lstW_app (addr : Int) (o : Rc) (l m : List Wr) : lstW addr o (l ++ m) = lstW addr (lstW addr o l) m := by simp [lstW]
theorem lstW_one (addr : Int) (o : Rc) (l : List Wr) (x : Wr) : lstW addr o (l ++ [x]) = lstS addr (lstW addr o l) x.2 := by simp [lstW]
theorem lstW_P (addr : Int) (i : Fin 4) (ps : List Pg) : ∀ o, lstW addr o (wrP i ps) = lastP addr o ps := by
  induction ps with
  | nil => intro o; rfl
  | cons p r ih =>
    intro o
    have e : wrP i (p :: r) = wrO i p ++ wrP i r := rfl
    rw [e, lstW_app, ih]
    show lastP addr (lstW addr o (wrO i p)) r = lastP addr (lastS addr o p) r
    congr 1
    unfold wrO lastS laterB
    by_cases h1 : p.st = 1
    · rw [if_pos h1]
      simp only [lstW, List.foldl_cons, List.foldl_nil, lstS]
      by_cases h2 : (pgRc p).a = addr ∧ o.s < (pgRc p).s
      · rw [if_pos h2, if_pos (by simp [h1]; exact h2)]
      · rw [if_neg h2, if_neg (by simp [h1]; intro h; have := fun h' => h2 ⟨h, h'⟩; simpa [pgRc] using this)]
    · rw [if_neg h1, if_neg (by simp [h1])]; rfl
theorem lstW_A (addr : Int) (l : List (Fin 4 × Bk)) : ∀ o, lstW addr o (wrA l) = lastF addr o (l.map (·.2)) := by
  induction l with
  | nil => intro o; rfl
  | cons x r ih =>
    intro o
    have e : wrA (x :: r) = wrP x.1 x.2.ps ++ wrA r := rfl
    rw [e, lstW_app, ih, lstW_P]; rfl
theorem blks_map (bs : List Bk) (h : bs.length = 4) : (blks bs).map (·.2) = bs := by
  unfold blks
  rw [List.map_snd_zip]
  simp [h]
theorem lstW_all (addr : Int) (bs : List Bk) (h : bs.length = 4) : lstW addr zRc (wrA (blks bs)) = lastR bs addr := by
  rw [lstW_A, blks_map bs h]; rfl

/-! The least and the greatest number of each block. -/
abbrev Sp := Int × Int
def spC (x : Sp) : List Value := [.int .i64 x.1, .int .i64 x.2]
def spsC (l : List Sp) : List Value := l.flatMap spC
theorem len_spsC (l : List Sp) : (spsC l).length = l.length * 2 := by
  unfold spsC; induction l with
  | nil => rfl
  | cons x r ih => simp only [List.flatMap_cons, List.length_append, ih, List.length_cons, spC, List.length_nil]; omega
def withS (x : Sp) (s : Int) : Sp := if x.2 = 0 then (s, s) else (if s < x.1 then s else x.1, if x.2 < s then s else x.2)
def spS (l : List Sp) (x : Wr) : List Sp := l.set x.1 (withS (l.getD x.1 (0, 0)) x.2.s)
def spW (l : List Sp) (xs : List Wr) : List Sp := xs.foldl spS l
def zSp : List Sp := [(0, 0), (0, 0), (0, 0), (0, 0)]
theorem spW_one (l : List Sp) (xs : List Wr) (x : Wr) : spW l (xs ++ [x]) = spS (spW l xs) x := by simp [spW]
theorem spW_app (l : List Sp) (xs ys : List Wr) : spW l (xs ++ ys) = spW (spW l xs) ys := by simp [spW]
theorem spS_len (l : List Sp) (x : Wr) : (spS l x).length = l.length := by simp [spS]
theorem spW_len (l : List Sp) (xs : List Wr) : (spW l xs).length = l.length := by
  unfold spW
  induction xs generalizing l with
  | nil => rfl
  | cons x r ih => rw [List.foldl_cons, ih, spS_len]
/-- What one block's numbers are, from which to which. -/
def spP (x : Sp) (ps : List Pg) : Sp := (seqsP ps).foldl withS x
def spB (b : Bk) : Sp := spP (0, 0) b.ps
theorem spW_P (i : Fin 4) (ps : List Pg) : ∀ l : List Sp, l.length = 4 → spW l (wrP i ps) = l.set i (spP (l.getD i (0, 0)) ps) := by
  induction ps with
  | nil =>
    intro l h
    have hi : (i : Nat) < l.length := by omega
    show l = l.set i ((seqsP []).foldl withS (l.getD i (0, 0)))
    simp [seqsP, hi]
  | cons p r ih =>
    intro l h
    have hi : (i : Nat) < l.length := by omega
    have e : wrP i (p :: r) = wrO i p ++ wrP i r := rfl
    rw [e, spW_app]
    unfold wrO
    by_cases h1 : p.st = 1
    · rw [if_pos h1]
      have e2 : spW l [(i, pgRc p)] = l.set i (withS (l.getD i (0, 0)) p.s) := rfl
      rw [e2, ih _ (by simpa using h)]
      simp [spP, seqsP, List.filterMap_cons, seqP_w h1, hi]
    · rw [if_neg h1]
      have e2 : spW l [] = l := rfl
      rw [e2, ih _ h]
      simp [spP, seqsP, List.filterMap_cons, seqP_n h1]
theorem spW_all (bs : List Bk) (h : bs.length = 4) : spW zSp (wrA (blks bs)) = bs.map spB := by
  obtain ⟨a, b, c, d, rfl⟩ := list_four h
  have e : wrA (blks [a, b, c, d]) = wrP 0 a.ps ++ (wrP 1 b.ps ++ (wrP 2 c.ps ++ (wrP 3 d.ps ++ []))) := rfl
  rw [e, List.append_nil, spW_app, spW_P 0 a.ps zSp rfl, spW_app, spW_P 1 b.ps _ (by simp [zSp]), spW_app, spW_P 2 c.ps _ (by simp [zSp]), spW_P 3 d.ps _ (by simp [zSp])]
  rfl

/-! The same, as the specification reckons it. -/
def lsS (n s : Int) : Int := if 0 < s ∧ (n = 0 ∨ s < n) then s else n
def leastN (ps : List Pg) : Int := ps.foldl (fun n p => lsS n p.s) 0
theorem leastN_take (ps : List Pg) (j : Nat) (hj : j < ps.length) : leastN (ps.take (j + 1)) = lsS (leastN (ps.take j)) ps[j].s := by
  unfold leastN
  rw [List.take_succ_eq_append_getElem hj, List.foldl_append]; rfl
/-- A page of an ok block has a number just if it is written. -/
theorem pg_seq {p : Pg} (h : pgB p = true) : (p.st = 1 ∧ 1 ≤ p.s ∧ p.s ≤ 600) ∨ (p.st ≠ 1 ∧ p.s = 0) := by
  unfold pgB at h
  by_cases h1 : p.st = 1
  · rw [if_pos h1] at h
    simp [recB, numB, inB] at h
    exact .inl ⟨h1, by omega, by omega⟩
  · rw [if_neg h1] at h
    have hn : noB p = true := by
      by_cases h0 : p.st = 0
      · rwa [if_pos h0] at h
      · rw [if_neg h0] at h
        by_cases h2 : p.st = 2
        · rwa [if_pos h2] at h
        · rw [if_neg h2] at h; cases h
    simp [noB] at hn
    exact .inr ⟨h1, by omega⟩
theorem sp_fold (ps : List Pg) (h : ∀ p ∈ ps, pgB p = true) : ∀ (n m : Int), 0 ≤ n → n ≤ m → (n = 0 ↔ m = 0) →
    spP (n, m) ps = (ps.foldl (fun n p => lsS n p.s) n, ps.foldl (fun m p => mx m p.s) m) ∧ 0 ≤ (spP (n, m) ps).1 ∧ (spP (n, m) ps).1 ≤ (spP (n, m) ps).2 ∧ ((spP (n, m) ps).1 = 0 ↔ (spP (n, m) ps).2 = 0) := by
  induction ps with
  | nil => intro n m h0 h1 h2; exact ⟨rfl, h0, h1, h2⟩
  | cons p r ih =>
    intro n m h0 h1 h2
    have ih' := ih fun q hq => h q (by simp [hq])
    rcases pg_seq (h p (by simp)) with ⟨hp, hs, _⟩ | ⟨hp, hs⟩
    · have e : spP (n, m) (p :: r) = spP (withS (n, m) p.s) r := by simp [spP, seqsP, List.filterMap_cons, seqP_w hp]
      have e1 : withS (n, m) p.s = (lsS n p.s, mx m p.s) := by
        unfold withS lsS mx
        by_cases hm : m = 0
        · have hn : n = 0 := h2.2 hm
          subst hm hn
          simp only [if_true]
          rw [if_pos (by refine ⟨by omega, ?_⟩; simp), if_pos (by omega)]
        · have hn : n ≠ 0 := fun q => hm (h2.1 q)
          simp only [hm, if_false]
          congr 1
          by_cases hl : p.s < n
          · rw [if_pos hl, if_pos ⟨by omega, .inr hl⟩]
          · rw [if_neg hl, if_neg (by omega)]
      rw [e, e1]
      simp only [List.foldl_cons]
      refine ih' _ _ ?_ ?_ ?_
      · unfold lsS; split <;> omega
      · unfold lsS mx; split <;> split <;> omega
      · unfold lsS mx; split <;> split <;> omega
    · have e : spP (n, m) (p :: r) = spP (n, m) r := by simp [spP, seqsP, List.filterMap_cons, seqP_n hp]
      have e1 : lsS n p.s = n := by unfold lsS; rw [if_neg (by omega)]
      have e2 : mx m p.s = m := by unfold mx; rw [if_neg (by omega)]
      rw [e]
      simp only [List.foldl_cons, e1, e2]
      exact ih' n m h0 h1 h2
theorem spB_eq {b : Bk} (h : ∀ p ∈ b.ps, pgB p = true) : spB b = (leastN b.ps, mostN b.ps) ∧ 0 ≤ leastN b.ps ∧ leastN b.ps ≤ mostN b.ps ∧ (leastN b.ps = 0 ↔ mostN b.ps = 0) := by
  have := sp_fold b.ps h 0 0 (by omega) (by omega) (by simp)
  have e : spB b = (leastN b.ps, mostN b.ps) := this.1
  have e2 : spP (0, 0) b.ps = (leastN b.ps, mostN b.ps) := this.1
  rw [e2] at this
  exact ⟨e, this.2⟩
theorem ok_pages {bs : List Bk} (h : okB bs = true) : ∀ b ∈ bs, ∀ p ∈ b.ps, pgB p = true := fun b hb => ((bkB_iff b).1 (((okB_iff bs).1 h).2.1 b hb)).2.2.1
end Go.Proofs.Ytogioeflbbmppaa.FindP
