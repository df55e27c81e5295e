/-
  Texts that belong together, one behind the other: Rnd, FindP, Iter.
-/
import Derived.Test.YtkikeapfjpnkgaaRows
import Derived.RangeFuncNested
import Derived.RangeFuncBound
import Derived.RangeFuncCalls
import Derived.RangeFuncLeaves
import Derived.Shelf.Abstract
import Derived.Shelf.RegionOpen
import Derived.WalkKit
import Derived.OwnWalkIn
import Derived.TacticsInMore
import Derived.LoopNIn
import Derived.LoopIn
import Derived.OrdersHeld
import Derived.Test.YtkikeapfjpnkgaaBaL

/-
  Code within a round of a range over a function: what is walked out of a round is walked within one, where nothing is deferred. Nothing here speaks of the program.
-/
namespace Go.Proofs.Ytkikeapfjpnkgaa.Rnd
open Go.RowKit Go.Shelf
set_option linter.unusedVariables false
variable {P : Program} {ops : Array Oper} {Q : Exit → Act → World → Prop} {a : Act} {w : World} {o : Oper} {n : Nat}

theorem rows_in (l : Nat) {row : String} {args : Array Value} {w : World} {R : Value → World → Prop} (h : Rows P row args w R) : RowsIn (Fence.wide.inRound l) n P row args w R := by
  intro c cs _
  obtain ⟨v, w', r, s⟩ := h c cs
  exact ⟨v, w', r, stepsIn_wide.2 s⟩
theorem oper_in (l : Nat) (hd : ∀ c, o.op ≠ .defer c) {K : Act → World → Prop} (h : o.wp P a w K Q) : o.wpIn (Fence.wide.inRound l) n P a w K Q := by
  refine ⟨fun f _ => trivial, ?_⟩
  have e : Oper.semAt (Fence.wide.inRound l).round a.eval o = execOp a.eval o := Oper.semAt_eq _ _ _ hd
  rw [e]
  unfold Oper.wp at h
  generalize (execOp a.eval o).run P w = r at h
  unfold Oper.upon at h
  unfold Oper.uponIn
  split at h
  · exact h
  · exact h
  · exact h
  · exact ⟨(fun hh => by cases hh), CallsIn.inRound l (callsIn_wide.2 h)⟩
  · exact ⟨(fun hh => by cases hh), rows_in l h⟩
  · exact h
  · exact h.elim
theorem ops_in (l : Nat) (hd : ∀ (i : Nat) (o : Oper), ops[i]? = some o → ∀ c, o.op ≠ .defer c) (hL : ¬ LetsOut Q) : ∀ (is : List Nat) (a : Act) (w : World), wpOps P ops Q is a w → wpOpsIn (Fence.wide.inRound l) n P ops Q is a w
  | [], a, w, h => h
  | i :: rest, a, w, h => by
    unfold wpOps at h
    unfold wpOpsIn
    cases ho : ops[i]? with
    | none => simp only [ho] at h ⊢; exact ops_in l hd hL rest a w h
    | some o =>
      simp only [ho] at h ⊢
      split at h
      · rename_i hw
        rw [if_pos hw]
        rcases h with h | ⟨_, h⟩
        · exact oper_in l (hd i o ho) (Oper.wp_mono (fun a w h => ops_in l hd hL rest a w h) h)
        · exact absurd h hL
      · rename_i hw
        rw [if_neg hw]
        exact ⟨fun f _ => trivial, ops_in l hd hL rest _ w h⟩
theorem list_in (l : Nat) (hL : ¬ LetsOut Q) : ∀ (os : List Oper) (a : Act) (w : World), (∀ o ∈ os, ∀ c, o.op ≠ .defer c) → wpList P ops Q os a w → wpListIn (Fence.wide.inRound l) n P ops Q os a w
  | [], a, w, _, h => h
  | o :: rest, a, w, hd, h => by
    unfold wpList at h
    unfold wpListIn
    split at h
    · rename_i hw
      rw [if_pos hw]
      rcases h with h | ⟨_, h⟩
      · exact oper_in l (hd o (by simp)) (Oper.wp_mono (fun a w h => list_in l hL rest a w (fun o ho => hd o (by simp [ho])) h) h)
      · exact absurd h hL
    · rename_i hw
      rw [if_neg hw]
      exact ⟨fun f _ => trivial, list_in l hL rest _ w (fun o ho => hd o (by simp [ho])) h⟩
/-- No operation of the region is a deferred call. -/
def plainOps (ops : Array Oper) : Bool := ops.all fun o => match o.op with | .defer _ => false | _ => true
theorem plainOps_spec (h : plainOps ops = true) (i : Nat) (o : Oper) (ho : ops[i]? = some o) (c) : o.op ≠ .defer c := by
  intro e
  have := (Array.all_eq_true_iff_forall_mem.1 h) o (Array.mem_of_getElem? ho)
  simp [e] at this
theorem region_held_in {id l : Nat} {S : World → Prop} (hm : P.follows .mixedOrders = true) (hp : plainOps ops = true) (hL : ¬ LetsOut Q) (hS : S w.drew)
    (h : S w.drew → wpAnyH P .any ops Q S ops.size (Array.replicate ops.size false) a w.drew) : (Code.region id ops true).wpIn (Fence.wide.inRound l) n P Q a w :=
  wpIn_region_draw fun t => by
    refine ops_in l (fun i o ho => plainOps_spec hp i o ho) hL _ _ _ ?_
    simp only [Region.schedule, hm, Bool.true_or, if_true]
    exact wpAny_sound ops.size t _ a _ (wpAny_of_held _ _ _ _ (h hS))
/-- A region in its order: walked as out of a round. -/
theorem region_in {id l : Nat} {os : List Oper} (hp : plainOps os.toArray = true) (hL : ¬ LetsOut Q) (h : wpList P os.toArray Q os a w) : (Code.region id os.toArray false).wpIn (Fence.wide.inRound l) n P Q a w :=
  wpIn_region_lit (list_in l hL os a w (fun o ho c => by
    obtain ⟨i, hi, rfl⟩ := List.getElem_of_mem ho
    exact plainOps_spec hp i os[i] (by simp [hi]) c) h)

/-- One operation by a law of the walk out of a fence. -/
theorem one_in {F : Fence} {rest : List Oper} (hF : F = Fence.wide ∨ ∃ l, F = Fence.wide.inRound l) (hg : o.guard = none) (hd : ∀ c, o.op ≠ .defer c) {a' : Act} {w' : World}
    (h : ∀ Q' : Exit → Act → World → Prop, Q' .normal a' w' → wpList P ops Q' [o] a w) (hr : wpListIn F n P ops Q rest a' w') : wpListIn F n P ops Q (o :: rest) a w := by
  refine wpListIn_plain hg fun K hK => ?_
  have h1 := h (fun e x y => e = .normal ∧ x = a' ∧ y = w') ⟨rfl, rfl, rfl⟩
  have hw : Region.wanted o (yielded ops a.tmps) = true := by simp only [Region.wanted, hg]
  unfold wpList at h1
  rw [if_pos hw] at h1
  have hL : ¬ LetsOut (fun (e : Exit) (x : Act) (y : World) => e = .normal ∧ x = a' ∧ y = w') := by
    rintro ⟨x, y, e, _⟩; cases e
  rcases h1 with h1 | ⟨_, h1⟩
  · have h2 : o.wp P a w K (fun e x y => e = .normal ∧ x = a' ∧ y = w') := Oper.wp_mono (fun x y hxy => by
      obtain ⟨_, rfl, rfl⟩ := (show _ = _ ∧ _ = _ ∧ _ = _ from hxy)
      exact hK _ _ hr) h1
    have e : Oper.semAt F.round a.eval o = execOp a.eval o := Oper.semAt_eq _ _ _ hd
    have hfn : ∀ f, F.fn f := by rcases hF with rfl | ⟨l, rfl⟩ <;> exact fun _ => trivial
    have hdp : F.depth = none := by rcases hF with rfl | ⟨l, rfl⟩ <;> rfl
    refine ⟨fun f _ => hfn f, ?_⟩
    rw [e]
    unfold Oper.wp at h2
    generalize (execOp a.eval o).run P w = r at h2
    unfold Oper.upon at h2
    unfold Oper.uponIn
    split at h2
    · exact h2
    · exact h2
    · exact h2
    · rename_i f args w1
      refine ⟨(fun hh => by rw [hdp] at hh; cases hh), ?_⟩
      have h3 : Calls P f args w1 fun x y => match x with | .returned v => K (a.put o.dst v) y | .panicked ch => Q (.panic ch) a y | .outgrown => LetsOut Q := Calls.mono h2 fun x y hxy => by
        cases x with
        | returned v => exact hxy
        | panicked ch => obtain ⟨q, _⟩ := (show _ = _ ∧ _ from hxy); cases q
        | outgrown => exact absurd hxy hL
      have h4 : CallsIn Fence.wide (n - 1) P f args w1 fun x y => match x with | .returned v => K (a.put o.dst v) y | .panicked ch => Q (.panic ch) a y | .outgrown => LetsOut Q := callsIn_wide.2 h3
      rcases hF with rfl | ⟨l, rfl⟩
      · exact h4.mono fun x y hxy => by cases x <;> exact hxy
      · exact CallsIn.inRound l (h4.mono fun x y hxy => by cases x <;> exact hxy)
    · refine ⟨(fun hh => by rw [hdp] at hh; cases hh), ?_⟩
      rcases hF with rfl | ⟨l, rfl⟩
      · exact rows_in 0 h2
      · exact rows_in l h2
    · obtain ⟨q, _⟩ := (show _ = _ ∧ _ from h2); cases q
    · exact h2.elim
  · exact absurd h1 hL
theorem wide_in : Fence.wide = Fence.wide ∨ ∃ l, Fence.wide = Fence.wide.inRound l := .inl rfl
theorem round_in (l : Nat) : Fence.wide.inRound l = Fence.wide ∨ ∃ k, Fence.wide.inRound l = Fence.wide.inRound k := .inr ⟨l, rfl⟩
end Go.Proofs.Ytkikeapfjpnkgaa.Rnd

/-
  Plain lists: the written pages one behind the other, and what is reckoned of them: the last record of an address, the least and the greatest number of each block. Nothing here walks the program.
-/
namespace Go.Proofs.Ytkikeapfjpnkgaa.FindP
open Go.ChangeShapes Go.WideShapes Go.ChangeAt Go.RowKit OkA Big Fl ImplB ImplF ImplS _root_.Go.Proofs.Ytkikeapfjpnkgaa.Own ImplT ImplU SpecA SpecB SpecC SpecD SpecW SpecF SpecG SpecH Ok2 Pl
set_option linter.unusedVariables false
set_option linter.unusedSimpArgs false

/-- A page that is written, and on which block. -/
abbrev Wr := Fin 4 × Rc
def wrO (i : Fin 4) (p : Pg) : List Wr := if p.st = 1 then [(i, pgRc p)] else []
def wrP (i : Fin 4) (ps : List Pg) : List Wr := ps.flatMap (wrO i)
def blks (bs : List Bk) : List (Fin 4 × Bk) := (List.finRange 4).zip bs
def wrA (l : List (Fin 4 × Bk)) : List Wr := l.flatMap fun x => wrP x.1 x.2.ps
theorem wrP_take (i : Fin 4) (ps : List Pg) (j : Nat) (hj : j < ps.length) : wrP i (ps.take (j + 1)) = wrP i (ps.take j) ++ wrO i ps[j] := by
  unfold wrP
  rw [List.take_succ_eq_append_getElem hj, List.flatMap_append]; simp
theorem wrA_take (l : List (Fin 4 × Bk)) (k : Nat) (hk : k < l.length) : wrA (l.take (k + 1)) = wrA (l.take k) ++ wrP l[k].1 l[k].2.ps := by
  unfold wrA
  rw [List.take_succ_eq_append_getElem hk, List.flatMap_append]; simp
theorem blks_len (bs : List Bk) (h : bs.length = 4) : (blks bs).length = 4 := by simp [blks, h]
theorem blks_at (bs : List Bk) (h : bs.length = 4) (k : Nat) (hk : k < 4) : (blks bs)[k]'(by rw [blks_len bs h]; exact hk) = (⟨k, hk⟩, bs[k]'(by omega)) := by
  simp [blks]
theorem wrO_len (i : Fin 4) (p : Pg) : (wrO i p).length ≤ 1 := by unfold wrO; split <;> simp
theorem wrP_len (i : Fin 4) (ps : List Pg) : (wrP i ps).length ≤ ps.length := by
  induction ps with
  | nil => simp [wrP]
  | cons p r ih =>
    have := wrO_len i p
    simp only [wrP, List.flatMap_cons, List.length_append, List.length_cons] at ih ⊢
    omega
theorem wrA_len (l : List (Fin 4 × Bk)) (n : Nat) (h : ∀ x ∈ l, x.2.ps.length ≤ n) : (wrA l).length ≤ l.length * n := by
  induction l with
  | nil => simp [wrA]
  | cons x r ih =>
    have h1 := wrP_len x.1 x.2.ps
    have h2 := h x (by simp)
    have h3 := ih fun y hy => h y (by simp [hy])
    simp only [wrA, List.flatMap_cons, List.length_append, List.length_cons, Nat.add_mul] at h3 ⊢
    omega

/-! The last record of an address. -/
def lstS (addr : Int) (o r : Rc) : Rc := if r.a = addr ∧ o.s < r.s then r else o
def lstW (addr : Int) (o : Rc) (l : List Wr) : Rc := l.foldl (fun o x => lstS addr o x.2) o
theorem lstW_app (addr : Int) (o : Rc) (l m : List Wr) : lstW addr o (l ++ m) = lstW addr (lstW addr o l) m := by simp [lstW]
theorem lstW_one (addr : Int) (o : Rc) (l : List Wr) (x : Wr) : lstW addr o (l ++ [x]) = lstS addr (lstW addr o l) x.2 := by simp [lstW]
theorem lstW_P (addr : Int) (i : Fin 4) (ps : List Pg) : ∀ o, lstW addr o (wrP i ps) = lastP addr o ps := by
  induction ps with
  | nil => intro o; rfl
  | cons p r ih =>
    intro o
    have e : wrP i (p :: r) = wrO i p ++ wrP i r := rfl
    rw [e, lstW_app, ih]
    show lastP addr (lstW addr o (wrO i p)) r = lastP addr (lastS addr o p) r
    congr 1
    unfold wrO lastS laterB
    by_cases h1 : p.st = 1
    · rw [if_pos h1]
      simp only [lstW, List.foldl_cons, List.foldl_nil, lstS]
      by_cases h2 : (pgRc p).a = addr ∧ o.s < (pgRc p).s
      · rw [if_pos h2, if_pos (by simp [h1]; exact h2)]
      · rw [if_neg h2, if_neg (by simp [h1]; intro h; have := fun h' => h2 ⟨h, h'⟩; simpa [pgRc] using this)]
    · rw [if_neg h1, if_neg (by simp [h1])]; rfl
theorem lstW_A (addr : Int) (l : List (Fin 4 × Bk)) : ∀ o, lstW addr o (wrA l) = lastF addr o (l.map (·.2)) := by
  induction l with
  | nil => intro o; rfl
  | cons x r ih =>
    intro o
    have e : wrA (x :: r) = wrP x.1 x.2.ps ++ wrA r := rfl
    rw [e, lstW_app, ih, lstW_P]; rfl
theorem blks_map (bs : List Bk) (h : bs.length = 4) : (blks bs).map (·.2) = bs := by
  unfold blks
  rw [List.map_snd_zip]
  simp [h]
theorem lstW_all (addr : Int) (bs : List Bk) (h : bs.length = 4) : lstW addr zRc (wrA (blks bs)) = lastR bs addr := by
  rw [lstW_A, blks_map bs h]; rfl

/-! The least and the greatest number of each block. -/
abbrev Sp := Int × Int
def spC (x : Sp) : List Value := [.int .i64 x.1, .int .i64 x.2]
def spsC (l : List Sp) : List Value := l.flatMap spC
theorem len_spsC (l : List Sp) : (spsC l).length = l.length * 2 := by
  unfold spsC; induction l with
  | nil => rfl
  | cons x r ih => simp only [List.flatMap_cons, List.length_append, ih, List.length_cons, spC, List.length_nil]; omega
def withS (x : Sp) (s : Int) : Sp := if x.2 = 0 then (s, s) else (if s < x.1 then s else x.1, if x.2 < s then s else x.2)
def spS (l : List Sp) (x : Wr) : List Sp := l.set x.1 (withS (l.getD x.1 (0, 0)) x.2.s)
def spW (l : List Sp) (xs : List Wr) : List Sp := xs.foldl spS l
def zSp : List Sp := [(0, 0), (0, 0), (0, 0), (0, 0)]
theorem spW_one (l : List Sp) (xs : List Wr) (x : Wr) : spW l (xs ++ [x]) = spS (spW l xs) x := by simp [spW]
theorem spW_app (l : List Sp) (xs ys : List Wr) : spW l (xs ++ ys) = spW (spW l xs) ys := by simp [spW]
theorem spS_len (l : List Sp) (x : Wr) : (spS l x).length = l.length := by simp [spS]
theorem spW_len (l : List Sp) (xs : List Wr) : (spW l xs).length = l.length := by
  unfold spW
  induction xs generalizing l with
  | nil => rfl
  | cons x r ih => rw [List.foldl_cons, ih, spS_len]
/-- What one block's numbers are, from which to which. -/
def spP (x : Sp) (ps : List Pg) : Sp := (seqsP ps).foldl withS x
def spB (b : Bk) : Sp := spP (0, 0) b.ps
theorem spW_P (i : Fin 4) (ps : List Pg) : ∀ l : List Sp, l.length = 4 → spW l (wrP i ps) = l.set i (spP (l.getD i (0, 0)) ps) := by
  induction ps with
  | nil =>
    intro l h
    have hi : (i : Nat) < l.length := by omega
    show l = l.set i ((seqsP []).foldl withS (l.getD i (0, 0)))
    simp [seqsP, hi]
  | cons p r ih =>
    intro l h
    have hi : (i : Nat) < l.length := by omega
    have e : wrP i (p :: r) = wrO i p ++ wrP i r := rfl
    rw [e, spW_app]
    unfold wrO
    by_cases h1 : p.st = 1
    · rw [if_pos h1]
      have e2 : spW l [(i, pgRc p)] = l.set i (withS (l.getD i (0, 0)) p.s) := rfl
      rw [e2, ih _ (by simpa using h)]
      simp [spP, seqsP, List.filterMap_cons, seqP_w h1, hi]
    · rw [if_neg h1]
      have e2 : spW l [] = l := rfl
      rw [e2, ih _ h]
      simp [spP, seqsP, List.filterMap_cons, seqP_n h1]
theorem spW_all (bs : List Bk) (h : bs.length = 4) : spW zSp (wrA (blks bs)) = bs.map spB := by
  obtain ⟨a, b, c, d, rfl⟩ := list_four h
  have e : wrA (blks [a, b, c, d]) = wrP 0 a.ps ++ (wrP 1 b.ps ++ (wrP 2 c.ps ++ (wrP 3 d.ps ++ []))) := rfl
  rw [e, List.append_nil, spW_app, spW_P 0 a.ps zSp rfl, spW_app, spW_P 1 b.ps _ (by simp [zSp]), spW_app, spW_P 2 c.ps _ (by simp [zSp]), spW_P 3 d.ps _ (by simp [zSp])]
  rfl

/-! The same, as the specification reckons it. -/
def lsS (n s : Int) : Int := if 0 < s ∧ (n = 0 ∨ s < n) then s else n
def leastN (ps : List Pg) : Int := ps.foldl (fun n p => lsS n p.s) 0
theorem leastN_take (ps : List Pg) (j : Nat) (hj : j < ps.length) : leastN (ps.take (j + 1)) = lsS (leastN (ps.take j)) ps[j].s := by
  unfold leastN
  rw [List.take_succ_eq_append_getElem hj, List.foldl_append]; rfl
/-- A page of an ok block has a number just if it is written. -/
theorem pg_seq {p : Pg} (h : pgB p = true) : (p.st = 1 ∧ 1 ≤ p.s ∧ p.s ≤ 600) ∨ (p.st ≠ 1 ∧ p.s = 0) := by
  unfold pgB at h
  by_cases h1 : p.st = 1
  · rw [if_pos h1] at h
    simp [recB, numB, inB] at h
    exact .inl ⟨h1, by omega, by omega⟩
  · rw [if_neg h1] at h
    have hn : noB p = true := by
      by_cases h0 : p.st = 0
      · rwa [if_pos h0] at h
      · rw [if_neg h0] at h
        by_cases h2 : p.st = 2
        · rwa [if_pos h2] at h
        · rw [if_neg h2] at h; cases h
    simp [noB] at hn
    exact .inr ⟨h1, by omega⟩
theorem sp_fold (ps : List Pg) (h : ∀ p ∈ ps, pgB p = true) : ∀ (n m : Int), 0 ≤ n → n ≤ m → (n = 0 ↔ m = 0) →
    spP (n, m) ps = (ps.foldl (fun n p => lsS n p.s) n, ps.foldl (fun m p => mx m p.s) m) ∧ 0 ≤ (spP (n, m) ps).1 ∧ (spP (n, m) ps).1 ≤ (spP (n, m) ps).2 ∧ ((spP (n, m) ps).1 = 0 ↔ (spP (n, m) ps).2 = 0) := by
  induction ps with
  | nil => intro n m h0 h1 h2; exact ⟨rfl, h0, h1, h2⟩
  | cons p r ih =>
    intro n m h0 h1 h2
    have ih' := ih fun q hq => h q (by simp [hq])
    rcases pg_seq (h p (by simp)) with ⟨hp, hs, _⟩ | ⟨hp, hs⟩
    · have e : spP (n, m) (p :: r) = spP (withS (n, m) p.s) r := by simp [spP, seqsP, List.filterMap_cons, seqP_w hp]
      have e1 : withS (n, m) p.s = (lsS n p.s, mx m p.s) := by
        unfold withS lsS mx
        by_cases hm : m = 0
        · have hn : n = 0 := h2.2 hm
          subst hm hn
          simp only [if_true]
          rw [if_pos (by refine ⟨by omega, ?_⟩; simp), if_pos (by omega)]
        · have hn : n ≠ 0 := fun q => hm (h2.1 q)
          simp only [hm, if_false]
          congr 1
          by_cases hl : p.s < n
          · rw [if_pos hl, if_pos ⟨by omega, .inr hl⟩]
          · rw [if_neg hl, if_neg (by omega)]
      rw [e, e1]
      simp only [List.foldl_cons]
      refine ih' _ _ ?_ ?_ ?_
      · unfold lsS; split <;> omega
      · unfold lsS mx; split <;> split <;> omega
      · unfold lsS mx; split <;> split <;> omega
    · have e : spP (n, m) (p :: r) = spP (n, m) r := by simp [spP, seqsP, List.filterMap_cons, seqP_n hp]
      have e1 : lsS n p.s = n := by unfold lsS; rw [if_neg (by omega)]
      have e2 : mx m p.s = m := by unfold mx; rw [if_neg (by omega)]
      rw [e]
      simp only [List.foldl_cons, e1, e2]
      exact ih' n m h0 h1 h2
theorem spB_eq {b : Bk} (h : ∀ p ∈ b.ps, pgB p = true) : spB b = (leastN b.ps, mostN b.ps) ∧ 0 ≤ leastN b.ps ∧ leastN b.ps ≤ mostN b.ps ∧ (leastN b.ps = 0 ↔ mostN b.ps = 0) := by
  have := sp_fold b.ps h 0 0 (by omega) (by omega) (by simp)
  have e : spB b = (leastN b.ps, mostN b.ps) := this.1
  have e2 : spP (0, 0) b.ps = (leastN b.ps, mostN b.ps) := this.1
  rw [e2] at this
  exact ⟨e, this.2⟩
theorem ok_pages {bs : List Bk} (h : okB bs = true) : ∀ b ∈ bs, ∀ p ∈ b.ps, pgB p = true := fun b hb => ((bkB_iff b).1 (((okB_iff bs).1 h).2.1 b hb)).2.2.1
end Go.Proofs.Ytkikeapfjpnkgaa.FindP

/-
  The program's iterator over the pages that are written: for every list of blocks that are kept, whatever is done with each.
-/
namespace Go.Proofs.Ytkikeapfjpnkgaa.Iter
open Go.ChangeShapes Go.WideShapes Go.ChangeAt Go.RowKit Go.Shelf OkA Big Fl ImplB ImplF ImplS _root_.Go.Proofs.Ytkikeapfjpnkgaa.Own ImplT ImplU SpecA SpecB SpecC SpecD SpecW SpecF SpecG SpecH Ok2 Pl FindP Rnd
set_option linter.unusedVariables false
set_option linter.unusedSimpArgs false
attribute [local go_sem] Oper.semAt_some
attribute [local go_sem ↓] Go.wp_at_zero Go.wp_at_succ

theorem written_any (bs : List Bk) (w : World) :
    Calls Try.prog 85 #[.agg (fsC bs).toArray] w fun e w' => e = .returned (.func (.func 106) #[] #[.pointer (some ⟨w.heap.size, 0, none⟩)]) ∧ w' = w.alloc (.cells (fsC bs).toArray 75) := by
  have hmf : ∀ (fn : Fn) (first cap : Array Value) (w : World), (Instr.makeFunc fn first cap).run Try.prog w = .ok (.func fn first cap) w := fun _ _ _ _ => rfl
  go_enter Try.func85, Try.ntmps85
  go_wp2_with (refine wpList_box_big rfl _ _ rfl (fsC bs).toArray rfl ?_)
  go_ret
  exact ⟨rfl, rfl⟩

def encW (x : Wr) : Array Value := #[.int .i64 (x.1 : Nat), .agg (rcC x.2).toArray]
theorem abides_new {β : Type} {B : Nat} {J : β → World → Prop} (h : AbidesFrom B J) {s : β} {W : World} (hs : J s W) (o : Obj) : J s (W.alloc o) := h s W _ none hs (World.grownBy_alloc W o none) (fun r e => by cases e)

set_option maxRecDepth 100000 in
set_option maxHeartbeats 2000000 in
theorem written1_in (n l kb : Nat) (bs : List Bk) (h4 : bs.length = 4) (hF : Fours bs) (J Jx : List Wr → World → Prop) (B : Nat) (hJ : AbidesFrom B J) (hJx : AbidesFrom B Jx)
    (hY : ∀ pre x W, J pre W → pre.length < 17 → YieldAt Fence.wide (n - 1) Try.prog l (encW x) W fun e W' =>
      (e = .returned (.bool true) ∧ J (pre ++ [x]) W' ∧ True) ∨ (e = .returned (.bool false) ∧ Jx (pre ++ [x]) W'))
    (W : World) (hr : W.rangeAt kb 0 (fsC bs)) (h0 : J [] W) :
    CallsIn Fence.wide n Try.prog 106 #[.func (.yield l) #[] #[], .pointer (some ⟨kb, 0, none⟩)] W fun e W' => (∃ v, e = .returned v) ∧
      ((∃ xs, xs = wrA (blks bs) ∧ J xs W') ∨ (∃ pre, True ∧ Jx pre W')) := by
  refine callsIn_of_wp Try.func106 rfl trivial ?_ rfl
  simp only [Try.ntmps106, List.size_toArray, List.length_cons, List.length_nil, Nat.reduceAdd, Nat.reduceSub, Array.replicate_succ, Array.replicate_zero, List.push_toArray, List.append_toArray, List.nil_append, List.cons_append]
  have HY := hide hY
  have HR0 := hide hr
  clear hY hr
  have HS := hide (size_fsl hF h4)
  gi_wp2_with (refine one_in wide_in rfl (by intro c h; cases h) (fun Q' hq => wpList_load_mid rfl 75 _ rfl kb 0 rfl (fsC bs) _ (unhide HR0) Try.underlying75 rfl (unhide HS) hq) ?_)
  clear HR0 HS
  gi_loopw [8] (fun i w' => ∃ k : Nat, k ≤ 4 ∧ i = .int .i64 k ∧ J (wrA ((blks bs).take k)) w') (fun i _ => 4 - (intOf i).toNat)
  case atStart => exact ⟨0, by omega, rfl, h0⟩
  case round =>
    obtain ⟨k, hk, rfl, hJk⟩ := hrel
    by_cases h0 : k = 4
    · subst h0
      have hj2 : J (wrA (blks bs)) wr := by rw [List.take_of_length_le (by rw [blks_len bs h4]; exact Nat.le_refl _)] at hJk; exact hJk
      gi_wp2
      go_end0
      exact ⟨⟨_, rfl⟩, .inl ⟨_, rfl, hj2⟩⟩
    · have hlt : (k : Int) < 4 := by omega
      have hk4 : k < 4 := by omega
      have hkb : k < bs.length := by omega
      have hlo : (0 : Int) ≤ (k : Int) := by omega
      have HE := hide (ext_fs hF k hkb)
      have hb4 : bs[k].ps.length = 4 := hF.at k hkb
      have HLEN : Hid (∀ j, (wrA ((blks bs).take k) ++ wrP ⟨k, hk4⟩ (bs[k].ps.take j)).length < 17) := fun j => by
        have l1 := wrA_len ((blks bs).take k) 4 (fun x hx => by
          have := List.mem_of_mem_take hx
          obtain ⟨i, hi, rfl⟩ := List.getElem_of_mem this
          rw [blks_len bs h4] at hi
          rw [blks_at bs h4 i hi]
          exact Nat.le_of_eq (hF.at i (by omega)))
        have l2 := wrP_len ⟨k, hk4⟩ (bs[k].ps.take j)
        have l3 : ((blks bs).take k).length ≤ k := List.length_take_le _ _
        have l4 : (bs[k].ps.take j).length ≤ 4 := by rw [List.length_take]; omega
        rw [List.length_append]
        have l5 : ((blks bs).take k).length * 4 ≤ k * 4 := Nat.mul_le_mul_right _ l3
        omega
      have HT : Hid (wrA ((blks bs).take (k + 1)) = wrA ((blks bs).take k) ++ wrP ⟨k, hk4⟩ bs[k].ps) := by
        show _ = _
        have h8 : k < (blks bs).length := by rw [blks_len bs h4]; exact hk4
        rw [wrA_take _ k h8, blks_at bs h4 k hk4]
      generalize wrA ((blks bs).take k) = pre at *
      generalize bs[k] = b at *
      have rb := range_bk (rangeAt_new wr (bkC b) 73)
      have HSB := hide (size_bk hb4)
      have HSM := hide (same_bk hb4)
      have HSP := hide (size_psl hb4)
      gi_wp2_with (first | (refine one_in wide_in rfl (by intro c h; cases h) (fun Q' hq => wpList_index_big rfl 75 _ _ rfl (fsC bs).toArray _ (k : Int) rfl rfl 73 4 21 _ Try.underlying75 Try.underlying73 rfl (by kernel_rfl) hlo hlt (unhide HE) hq) ?_) | (refine one_in wide_in rfl (by intro c h; cases h) (fun Q' hq => wpList_alloc_big rfl 73 rfl (bkC zBk).toArray zero_bk hq) ?_) | (refine one_in wide_in rfl (by intro c h; cases h) (fun Q' hq => wpList_store_new rfl 73 _ _ rfl wr (bkC zBk).toArray (bkC b).toArray rfl rfl rfl (unhide HSB) (unhide HSM) (one_bk b) hq) ?_) | (refine one_in wide_in rfl (by intro c h; cases h) (fun Q' hq => wpList_load_mid rfl 69 _ rfl wr.heap.size 0 rfl (psC b.ps) _ rb Try.underlying69 rfl (unhide HSP) hq) ?_))
      have hJ2 := abides_new hJ hJk (.cells (bkC b).toArray 73)
      clear rb HSB HSM HSP HE hJk
      generalize wr.alloc (.cells (bkC b).toArray 73) = w2 at *
      gi_loopw [15] (fun i w' => ∃ j : Nat, j ≤ 4 ∧ i = .int .i64 j ∧ J (pre ++ wrP ⟨k, hk4⟩ (b.ps.take j)) w') (fun i _ => 4 - (intOf i).toNat)
      case atStart => exact ⟨0, by omega, rfl, by simpa [wrP] using hJ2⟩
      case round =>
        obtain ⟨j, hj, rfl, hJj⟩ := hrel
        clear hJ2
        by_cases h0 : j = 4
        · subst h0
          have hj2 : J (wrA ((blks bs).take (k + 1))) wr := by rw [unhide HT]; rw [List.take_of_length_le (l := b.ps) (by omega)] at hJj; exact hJj
          clear HT hJj
          gi_wp2
          go_roundw
          case rel => exact ⟨k + 1, by omega, by first | rfl | go_num, hj2⟩
          case measure => simp [intOf]; omega
        · have hjt : (j : Int) < 4 := by omega
          have hjb : j < b.ps.length := by omega
          have hjo : (0 : Int) ≤ (j : Int) := by omega
          have HEY := hide (ext_ps b.ps j hjb)
          have HPT := hide (wrP_take ⟨k, hk4⟩ b.ps j hjb)
          have hl17 := unhide HLEN j
          generalize b.ps[j] = p at *
          have hJ3 := abides_new hJ hJj (.cells (pgC p).toArray 33)
          clear hJj
          by_cases hp1 : p.st = 1
          · have g1 : (p.st == 1) = true := by simpa using hp1
            have HO : Hid (pre ++ wrP ⟨k, hk4⟩ (b.ps.take (j + 1)) = (pre ++ wrP ⟨k, hk4⟩ (b.ps.take j)) ++ [(⟨k, hk4⟩, pgRc p)]) := by
              show _ = _
              rw [unhide HPT, wrO, if_pos hp1, List.append_assoc]
            clear hp1 HPT
            obtain ⟨fn, tmps, assign, body, hy, hR⟩ := unhide HY _ (⟨k, hk4⟩, pgRc p) _ hJ3 hl17
            rw [← unhide HO] at hR
            have hy' : (Instr.yield l #[.int .i64 (k : Nat), .agg #[.int .i64 p.k, .int .i64 p.s, .int .i64 p.a, .int .i64 p.v]]).run Try.prog (wr.alloc (.cells #[.int .i64 p.st, .int .i64 p.k, .int .i64 p.s, .int .i64 p.a, .int .i64 p.v] 33)) = .ok (.round l fn tmps assign body) (wr.alloc (.cells #[.int .i64 p.st, .int .i64 p.k, .int .i64 p.s, .int .i64 p.a, .int .i64 p.v] 33)) := hy
            clear hy HO
            gi_wp2_with (first | (refine one_in wide_in rfl (by intro c h; cases h) (fun Q' hq => wpList_index_big rfl 69 _ _ rfl (psC b.ps).toArray _ (j : Int) rfl rfl 33 4 5 _ Try.underlying69 Try.underlying33 rfl (by kernel_rfl) hjo hjt (unhide HEY) hq) ?_))
            refine ⟨(fun h => by cases h), hR.mono ?_⟩
            rintro e W3 (⟨rfl, hJ4, _⟩ | ⟨rfl, hJx4⟩)
            · gi_wp2
              go_roundw
              case rel => exact ⟨j + 1, by omega, by first | rfl | go_num, hJ4⟩
              case measure => simp [intOf]; omega
            · gi_wp2
              refine bodyPost_ret (results_none rfl _ _ _) rfl ?_
              exact ⟨⟨_, rfl⟩, .inr ⟨_, trivial, hJx4⟩⟩
          · have g1 : (p.st == 1) = false := by simpa using hp1
            have HO : Hid (pre ++ wrP ⟨k, hk4⟩ (b.ps.take (j + 1)) = pre ++ wrP ⟨k, hk4⟩ (b.ps.take j)) := by
              show _ = _
              rw [unhide HPT, wrO, if_neg hp1, List.append_nil]
            clear hp1 HPT
            rw [← unhide HO] at hJ3
            clear HO
            gi_wp2_with (first | (refine one_in wide_in rfl (by intro c h; cases h) (fun Q' hq => wpList_index_big rfl 69 _ _ rfl (psC b.ps).toArray _ (j : Int) rfl rfl 33 4 5 _ Try.underlying69 Try.underlying33 rfl (by kernel_rfl) hjo hjt (unhide HEY) hq) ?_))
            refine ⟨(fun _ _ => trivial), ?_⟩
            gi_wp2
            go_roundw
            case rel => exact ⟨j + 1, by omega, by first | rfl | go_num, hJ3⟩
            case measure => simp [intOf]; omega
theorem written_stops (n kb : Nat) (bs : List Bk) (h4 : bs.length = 4) (hF : Fours bs) (w : World) (hk : kb < w.heap.size) (hr : w.rangeAt kb 0 (fsC bs)) :
    SeqStopsK Fence.wide n Try.prog 106 #[.pointer (some ⟨kb, 0, none⟩)] encW (fun _ _ => True) (fun xs => xs = wrA (blks bs)) (fun _ => True) 17 w := fun l J Jx W hW hJ hJx hY h0 =>
  written1_in n l kb bs h4 hF J Jx W.heap.size hJ hJx hY W (rangeAt_below hr hW hk) h0
end Go.Proofs.Ytkikeapfjpnkgaa.Iter
