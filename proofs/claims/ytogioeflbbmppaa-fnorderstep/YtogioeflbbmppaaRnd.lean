/-
  Code within a round of a range over a function: what is walked out of a round is walked within one, where nothing is deferred. Nothing here speaks of the program.
-/
import Derived.Test.YtogioeflbbmppaaRows
import Derived.RangeFuncNested
import Derived.RangeFuncBound
import Derived.RangeFuncCalls
import Derived.RangeFuncLeaves
import Derived.Shelf.Abstract
import Derived.Shelf.RegionOpen
import Derived.WalkKit
import Derived.OwnWalkIn
import Derived.TacticsInMore
import Derived.LoopNIn
import Derived.LoopIn
import Derived.OrdersHeld
namespace Go.Proofs.Ytogioeflbbmppaa.Rnd
open Go.RowKit Go.Shelf
set_option linter.unusedVariables false
variable {P : Program} {ops : Array Oper} {Q : Exit → Act → World → Prop} {a : Act} {w : World} {o : Oper} {n : Nat}

theorem rows_in (l : Nat) {row : String} {args : Array Value} {w : World} {R : Value → World → Prop} (h : Rows P row args w R) : RowsIn (Fence.wide.inRound l) n P row args w R := by
  intro c cs _
  obtain ⟨v, w', r, s⟩ := h c cs
  exact ⟨v, w', r, stepsIn_wide.2 s⟩
theorem oper_in (l : Nat) (hd : ∀ c, o.op ≠ .defer c) {K : Act → World → Prop} (h : o.wp P a w K Q) : o.wpIn (Fence.wide.inRound l) n P a w K Q := by
  refine ⟨fun f _ => trivial, ?_⟩
  have e : Oper.semAt (Fence.wide.inRound l).round a.eval o = execOp a.eval o := Oper.semAt_eq _ _ _ hd
  rw [e]
  unfold Oper.wp at h
  generalize (execOp a.eval o).run P w = r at h
  unfold Oper.upon at h
  unfold Oper.uponIn
  split at h
  · exact h
  · exact h
  · exact h
  · exact ⟨(fun hh => by cases hh), CallsIn.inRound l (callsIn_wide.2 h)⟩
  · exact ⟨(fun hh => by cases hh), rows_in l h⟩
  · exact h
  · exact h.elim
theorem ops_in (l : Nat) (hd : ∀ (i : Nat) (o : Oper), ops[i]? = some o → ∀ c, o.op ≠ .defer c) (hL : ¬ LetsOut Q) : ∀ (is : List Nat) (a : Act) (w : World), wpOps P ops Q is a w → wpOpsIn (Fence.wide.inRound l) n P ops Q is a w
  | [], a, w, h => h
  | i :: rest, a, w, h => by
    unfold wpOps at h
    unfold wpOpsIn
    cases ho : ops[i]? with
    | none => simp only [ho] at h ⊢; exact ops_in l hd hL rest a w h
    | some o =>
      simp only [ho] at h ⊢
      split at h
      · rename_i hw
        rw [if_pos hw]
        rcases h with h | ⟨_, h⟩
        · exact oper_in l (hd i o ho) (Oper.wp_mono (fun a w h => ops_in l hd hL rest a w h) h)
        · exact absurd h hL
      · rename_i hw
        rw [if_neg hw]
        exact ⟨fun f _ => trivial, ops_in l hd hL rest _ w h⟩
theorem list_in (l : Nat) (hL : ¬ LetsOut Q) : ∀ (os : List Oper) (a : Act) (w : World), (∀ o ∈ os, ∀ c, o.op ≠ .defer c) → wpList P ops Q os a w → wpListIn (Fence.wide.inRound l) n P ops Q os a w
  | [], a, w, _, h => h
  | o :: rest, a, w, hd, h => by
    unfold wpList at h
    unfold wpListIn
    split at h
    · rename_i hw
      rw [if_pos hw]
      rcases h with h | ⟨_, h⟩
      · exact oper_in l (hd o (by simp)) (Oper.wp_mono (fun a w h => list_in l hL rest a w (fun o ho => hd o (by simp [ho])) h) h)
      · exact absurd h hL
    · rename_i hw
      rw [if_neg hw]
      exact ⟨fun f _ => trivial, list_in l hL rest _ w (fun o ho => hd o (by simp [ho])) h⟩
/-- No operation of the region is a deferred call. -/
def plainOps (ops : Array Oper) : Bool := ops.all fun o => match o.op with | .defer _ => false | _ => true
theorem plainOps_spec (h : plainOps ops = true) (i : Nat) (o : Oper) (ho : ops[i]? = some o) (c) : o.op ≠ .defer c := by
  intro e
  have := (Array.all_eq_true_iff_forall_mem.1 h) o (Array.mem_of_getElem? ho)
  simp [e] at this
theorem region_held_in {id l : Nat} {S : World → Prop} (hm : P.follows .mixedOrders = true) (hp : plainOps ops = true) (hL : ¬ LetsOut Q) (hS : S w.drew)
    (h : S w.drew → wpAnyH P .any ops Q S ops.size (Array.replicate ops.size false) a w.drew) : (Code.region id ops true).wpIn (Fence.wide.inRound l) n P Q a w :=
  wpIn_region_draw fun t => by
    refine ops_in l (fun i o ho => plainOps_spec hp i o ho) hL _ _ _ ?_
    simp only [Region.schedule, hm, Bool.true_or, if_true]
    exact wpAny_sound ops.size t _ a _ (wpAny_of_held _ _ _ _ (h hS))
/-- A region in its order: walked as out of a round. -/
theorem region_in {id l : Nat} {os : List Oper} (hp : plainOps os.toArray = true) (hL : ¬ LetsOut Q) (h : wpList P os.toArray Q os a w) : (Code.region id os.toArray false).wpIn (Fence.wide.inRound l) n P Q a w :=
  wpIn_region_lit (list_in l hL os a w (fun o ho c => by
    obtain ⟨i, hi, rfl⟩ := List.getElem_of_mem ho
    exact plainOps_spec hp i os[i] (by simp [hi]) c) h)

/-- One operation by a law of the walk out of a fence. -/
theorem one_in {F : Fence} {rest : List Oper} (hF : F = Fence.wide ∨ ∃ l, F = Fence.wide.inRound l) (hg : o.guard = none) (hd : ∀ c, o.op ≠ .defer c) {a' : Act} {w' : World}
    (h : ∀ Q' : Exit → Act → World → Prop, Q' .normal a' w' → wpList P ops Q' [o] a w) (hr : wpListIn F n P ops Q rest a' w') : wpListIn F n P ops Q (o :: rest) a w := by
  refine wpListIn_plain hg fun K hK => ?_
  have h1 := h (fun e x y => e = .normal ∧ x = a' ∧ y = w') ⟨rfl, rfl, rfl⟩
  have hw : Region.wanted o (yielded ops a.tmps) = true := by simp only [Region.wanted, hg]
  unfold wpList at h1
  rw [if_pos hw] at h1
  have hL : ¬ LetsOut (fun (e : Exit) (x : Act) (y : World) => e = .normal ∧ x = a' ∧ y = w') := by
    rintro ⟨x, y, e, _⟩; cases e
  rcases h1 with h1 | ⟨_, h1⟩
  · have h2 : o.wp P a w K (fun e x y => e = .normal ∧ x = a' ∧ y = w') := Oper.wp_mono (fun x y hxy => by
      obtain ⟨_, rfl, rfl⟩ := (show _ = _ ∧ _ = _ ∧ _ = _ from hxy)
      exact hK _ _ hr) h1
    have e : Oper.semAt F.round a.eval o = execOp a.eval o := Oper.semAt_eq _ _ _ hd
    have hfn : ∀ f, F.fn f := by rcases hF with rfl | ⟨l, rfl⟩ <;> exact fun _ => trivial
    have hdp : F.depth = none := by rcases hF with rfl | ⟨l, rfl⟩ <;> rfl
    refine ⟨fun f _ => hfn f, ?_⟩
    rw [e]
    unfold Oper.wp at h2
    generalize (execOp a.eval o).run P w = r at h2
    unfold Oper.upon at h2
    unfold Oper.uponIn
    split at h2
    · exact h2
    · exact h2
    · exact h2
    · rename_i f args w1
      refine ⟨(fun hh => by rw [hdp] at hh; cases hh), ?_⟩
      have h3 : Calls P f args w1 fun x y => match x with | .returned v => K (a.put o.dst v) y | .panicked ch => Q (.panic ch) a y | .outgrown => LetsOut Q := Calls.mono h2 fun x y hxy => by
        cases x with
        | returned v => exact hxy
        | panicked ch => obtain ⟨q, _⟩ := (show _ = _ ∧ _ from hxy); cases q
        | outgrown => exact absurd hxy hL
      have h4 : CallsIn Fence.wide (n - 1) P f args w1 fun x y => match x with | .returned v => K (a.put o.dst v) y | .panicked ch => Q (.panic ch) a y | .outgrown => LetsOut Q := callsIn_wide.2 h3
      rcases hF with rfl | ⟨l, rfl⟩
      · exact h4.mono fun x y hxy => by cases x <;> exact hxy
      · exact CallsIn.inRound l (h4.mono fun x y hxy => by cases x <;> exact hxy)
    · refine ⟨(fun hh => by rw [hdp] at hh; cases hh), ?_⟩
      rcases hF with rfl | ⟨l, rfl⟩
      · exact rows_in 0 h2
      · exact rows_in l h2
    · obtain ⟨q, _⟩ := (show _ = _ ∧ _ from h2); cases q
    · exact h2.elim
  · exact absurd h1 hL
theorem wide_in : Fence.wide = Fence.wide ∨ ∃ l, Fence.wide = Fence.wide.inRound l := .inl rfl
theorem round_in (l : Nat) : Fence.wide.inRound l = Fence.wide ∨ ∃ k, Fence.wide.inRound l = Fence.wide.inRound k := .inr ⟨l, rfl⟩
end Go.Proofs.Ytogioeflbbmppaa.Rnd
