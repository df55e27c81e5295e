/-
  Texts that belong together, one behind the other: Rnd, Iter, ImplL, FindL.
-/
import Derived.Test.YtcmklcfedeeahaaQ10
import Derived.RangeFuncNested
import Derived.RangeFuncBound
import Derived.RangeFuncCalls
import Derived.RangeFuncLeaves
import Derived.Shelf.Abstract
import Derived.Shelf.RegionOpen
import Derived.WalkKit
import Derived.OwnWalkIn
import Derived.TacticsInMore
import Derived.LoopNIn
import Derived.LoopIn
import Derived.OrdersHeld
import Derived.Test.YtcmklcfedeeahaaRows

/-
  Code within a round of a range over a function: what is walked out of a round is walked within one, where nothing is deferred. Nothing here speaks of the program.
-/
namespace Go.Proofs.Ytcmklcfedeeahaa.Rnd
open Go.RowKit Go.Shelf
set_option linter.unusedVariables false
variable {P : Program} {ops : Array Oper} {Q : Exit → Act → World → Prop} {a : Act} {w : World} {o : Oper} {n : Nat}

theorem rows_in (l : Nat) {row : String} {args : Array Value} {w : World} {R : Value → World → Prop} (h : Rows P row args w R) : RowsIn (Fence.wide.inRound l) n P row args w R := by
  intro c cs _
  obtain ⟨v, w', r, s⟩ := h c cs
  exact ⟨v, w', r, stepsIn_wide.2 s⟩
theorem oper_in (l : Nat) (hd : ∀ c, o.op ≠ .defer c) {K : Act → World → Prop} (h : o.wp P a w K Q) : o.wpIn (Fence.wide.inRound l) n P a w K Q := by
  refine ⟨fun f _ => trivial, ?_⟩
  have e : Oper.semAt (Fence.wide.inRound l).round a.eval o = execOp a.eval o := Oper.semAt_eq _ _ _ hd
  rw [e]
  unfold Oper.wp at h
  generalize (execOp a.eval o).run P w = r at h
  unfold Oper.upon at h
  unfold Oper.uponIn
  split at h
  · exact h
  · exact h
  · exact h
  · exact ⟨(fun hh => by cases hh), CallsIn.inRound l (callsIn_wide.2 h)⟩
  · exact ⟨(fun hh => by cases hh), rows_in l h⟩
  · exact h
  · exact h.elim
theorem ops_in (l : Nat) (hd : ∀ (i : Nat) (o : Oper), ops[i]? = some o → ∀ c, o.op ≠ .defer c) (hL : ¬ LetsOut Q) : ∀ (is : List Nat) (a : Act) (w : World), wpOps P ops Q is a w → wpOpsIn (Fence.wide.inRound l) n P ops Q is a w
  | [], a, w, h => h
  | i :: rest, a, w, h => by
    unfold wpOps at h
    unfold wpOpsIn
    cases ho : ops[i]? with
    | none => simp only [ho] at h ⊢; exact ops_in l hd hL rest a w h
    | some o =>
      simp only [ho] at h ⊢
      split at h
      · rename_i hw
        rw [if_pos hw]
        rcases h with h | ⟨_, h⟩
        · exact oper_in l (hd i o ho) (Oper.wp_mono (fun a w h => ops_in l hd hL rest a w h) h)
        · exact absurd h hL
      · rename_i hw
        rw [if_neg hw]
        exact ⟨fun f _ => trivial, ops_in l hd hL rest _ w h⟩
theorem list_in (l : Nat) (hL : ¬ LetsOut Q) : ∀ (os : List Oper) (a : Act) (w : World), (∀ o ∈ os, ∀ c, o.op ≠ .defer c) → wpList P ops Q os a w → wpListIn (Fence.wide.inRound l) n P ops Q os a w
  | [], a, w, _, h => h
  | o :: rest, a, w, hd, h => by
    unfold wpList at h
    unfold wpListIn
    split at h
    · rename_i hw
      rw [if_pos hw]
      rcases h with h | ⟨_, h⟩
      · exact oper_in l (hd o (by simp)) (Oper.wp_mono (fun a w h => list_in l hL rest a w (fun o ho => hd o (by simp [ho])) h) h)
      · exact absurd h hL
    · rename_i hw
      rw [if_neg hw]
      exact ⟨fun f _ => trivial, list_in l hL rest _ w (fun o ho => hd o (by simp [ho])) h⟩
/-- No operation of the region is a deferred call. -/
def plainOps (ops : Array Oper) : Bool := ops.all fun o => match o.op with | .defer _ => false | _ => true
theorem plainOps_spec (h : plainOps ops = true) (i : Nat) (o : Oper) (ho : ops[i]? = some o) (c) : o.op ≠ .defer c := by
  intro e
  have := (Array.all_eq_true_iff_forall_mem.1 h) o (Array.mem_of_getElem? ho)
  simp [e] at this
theorem region_held_in {id l : Nat} {S : World → Prop} (hm : P.follows .mixedOrders = true) (hp : plainOps ops = true) (hL : ¬ LetsOut Q) (hS : S w.drew)
    (h : S w.drew → wpAnyH P .any ops Q S ops.size (Array.replicate ops.size false) a w.drew) : (Code.region id ops true).wpIn (Fence.wide.inRound l) n P Q a w :=
  wpIn_region_draw fun t => by
    refine ops_in l (fun i o ho => plainOps_spec hp i o ho) hL _ _ _ ?_
    simp only [Region.schedule, hm, Bool.true_or, if_true]
    exact wpAny_sound ops.size t _ a _ (wpAny_of_held _ _ _ _ (h hS))
/-- A region in its order: walked as out of a round. -/
theorem region_in {id l : Nat} {os : List Oper} (hp : plainOps os.toArray = true) (hL : ¬ LetsOut Q) (h : wpList P os.toArray Q os a w) : (Code.region id os.toArray false).wpIn (Fence.wide.inRound l) n P Q a w :=
  wpIn_region_lit (list_in l hL os a w (fun o ho c => by
    obtain ⟨i, hi, rfl⟩ := List.getElem_of_mem ho
    exact plainOps_spec hp i os[i] (by simp [hi]) c) h)

/-- One operation by a law of the walk out of a fence. -/
theorem one_in {F : Fence} {rest : List Oper} (hF : F = Fence.wide ∨ ∃ l, F = Fence.wide.inRound l) (hg : o.guard = none) (hd : ∀ c, o.op ≠ .defer c) {a' : Act} {w' : World}
    (h : ∀ Q' : Exit → Act → World → Prop, Q' .normal a' w' → wpList P ops Q' [o] a w) (hr : wpListIn F n P ops Q rest a' w') : wpListIn F n P ops Q (o :: rest) a w := by
  refine wpListIn_plain hg fun K hK => ?_
  have h1 := h (fun e x y => e = .normal ∧ x = a' ∧ y = w') ⟨rfl, rfl, rfl⟩
  have hw : Region.wanted o (yielded ops a.tmps) = true := by simp only [Region.wanted, hg]
  unfold wpList at h1
  rw [if_pos hw] at h1
  have hL : ¬ LetsOut (fun (e : Exit) (x : Act) (y : World) => e = .normal ∧ x = a' ∧ y = w') := by
    rintro ⟨x, y, e, _⟩; cases e
  rcases h1 with h1 | ⟨_, h1⟩
  · have h2 : o.wp P a w K (fun e x y => e = .normal ∧ x = a' ∧ y = w') := Oper.wp_mono (fun x y hxy => by
      obtain ⟨_, rfl, rfl⟩ := (show _ = _ ∧ _ = _ ∧ _ = _ from hxy)
      exact hK _ _ hr) h1
    have e : Oper.semAt F.round a.eval o = execOp a.eval o := Oper.semAt_eq _ _ _ hd
    have hfn : ∀ f, F.fn f := by rcases hF with rfl | ⟨l, rfl⟩ <;> exact fun _ => trivial
    have hdp : F.depth = none := by rcases hF with rfl | ⟨l, rfl⟩ <;> rfl
    refine ⟨fun f _ => hfn f, ?_⟩
    rw [e]
    unfold Oper.wp at h2
    generalize (execOp a.eval o).run P w = r at h2
    unfold Oper.upon at h2
    unfold Oper.uponIn
    split at h2
    · exact h2
    · exact h2
    · exact h2
    · rename_i f args w1
      refine ⟨(fun hh => by rw [hdp] at hh; cases hh), ?_⟩
      have h3 : Calls P f args w1 fun x y => match x with | .returned v => K (a.put o.dst v) y | .panicked ch => Q (.panic ch) a y | .outgrown => LetsOut Q := Calls.mono h2 fun x y hxy => by
        cases x with
        | returned v => exact hxy
        | panicked ch => obtain ⟨q, _⟩ := (show _ = _ ∧ _ from hxy); cases q
        | outgrown => exact absurd hxy hL
      have h4 : CallsIn Fence.wide (n - 1) P f args w1 fun x y => match x with | .returned v => K (a.put o.dst v) y | .panicked ch => Q (.panic ch) a y | .outgrown => LetsOut Q := callsIn_wide.2 h3
      rcases hF with rfl | ⟨l, rfl⟩
      · exact h4.mono fun x y hxy => by cases x <;> exact hxy
      · exact CallsIn.inRound l (h4.mono fun x y hxy => by cases x <;> exact hxy)
    · refine ⟨(fun hh => by rw [hdp] at hh; cases hh), ?_⟩
      rcases hF with rfl | ⟨l, rfl⟩
      · exact rows_in 0 h2
      · exact rows_in l h2
    · obtain ⟨q, _⟩ := (show _ = _ ∧ _ from h2); cases q
    · exact h2.elim
  · exact absurd h1 hL
theorem wide_in : Fence.wide = Fence.wide ∨ ∃ l, Fence.wide = Fence.wide.inRound l := .inl rfl
theorem round_in (l : Nat) : Fence.wide.inRound l = Fence.wide ∨ ∃ k, Fence.wide.inRound l = Fence.wide.inRound k := .inr ⟨l, rfl⟩
end Go.Proofs.Ytcmklcfedeeahaa.Rnd

/-
  The program's iterator over the pages that are written: for every list of blocks that are kept, whatever is done with each.
-/
namespace Go.Proofs.Ytcmklcfedeeahaa.Iter
open Go.ChangeShapes Go.WideShapes Go.ChangeAt Go.RowKit Go.Shelf OkA Big Fl ImplB ImplF ImplS _root_.Go.Proofs.Ytcmklcfedeeahaa.Own ImplT ImplU SpecA SpecB SpecC SpecD SpecW SpecF SpecG SpecH Ok2 Pl FindP Rnd
set_option linter.unusedVariables false
set_option linter.unusedSimpArgs false
attribute [local go_sem] Oper.semAt_some
attribute [local go_sem ↓] Go.wp_at_zero Go.wp_at_succ

theorem written_any (bs : List Bk) (w : World) :
    Calls Try.prog 144 #[.agg (fsC bs).toArray] w fun e w' => e = .returned (.func (.func 156) #[] #[.pointer (some ⟨w.heap.size, 0, none⟩)]) ∧ w' = w.alloc (.cells (fsC bs).toArray 82) := by
  have hmf : ∀ (fn : Fn) (first cap : Array Value) (w : World), (Instr.makeFunc fn first cap).run Try.prog w = .ok (.func fn first cap) w := fun _ _ _ _ => rfl
  go_enter Try.func144, Try.ntmps144
  go_wp2_with (refine wpList_box_big rfl _ _ rfl (fsC bs).toArray rfl ?_)
  go_ret
  exact ⟨rfl, rfl⟩

def encW (x : Wr) : Array Value := #[.int .i64 (x.1 : Nat), .agg (rcC x.2).toArray]
theorem abides_new {β : Type} {B : Nat} {J : β → World → Prop} (h : AbidesFrom B J) {s : β} {W : World} (hs : J s W) (o : Obj) : J s (W.alloc o) := h s W _ none hs (World.grownBy_alloc W o none) (fun r e => by cases e)

set_option maxRecDepth 100000 in
set_option maxHeartbeats 2000000 in
theorem written1_in (n l kb : Nat) (bs : List Bk) (h4 : bs.length = 4) (hF : Fours bs) (J Jx : List Wr → World → Prop) (B : Nat) (hJ : AbidesFrom B J) (hJx : AbidesFrom B Jx)
    (hY : ∀ pre x W, J pre W → pre.length < 17 → YieldAt Fence.wide (n - 1) Try.prog l (encW x) W fun e W' =>
      (e = .returned (.bool true) ∧ J (pre ++ [x]) W' ∧ True) ∨ (e = .returned (.bool false) ∧ Jx (pre ++ [x]) W'))
    (W : World) (hr : W.rangeAt kb 0 (fsC bs)) (h0 : J [] W) :
    CallsIn Fence.wide n Try.prog 156 #[.func (.yield l) #[] #[], .pointer (some ⟨kb, 0, none⟩)] W fun e W' => (∃ v, e = .returned v) ∧
      ((∃ xs, xs = wrA (blks bs) ∧ J xs W') ∨ (∃ pre, True ∧ Jx pre W')) := by
  refine callsIn_of_wp Try.func156 rfl trivial ?_ rfl
  simp only [Try.ntmps156, List.size_toArray, List.length_cons, List.length_nil, Nat.reduceAdd, Nat.reduceSub, Array.replicate_succ, Array.replicate_zero, List.push_toArray, List.append_toArray, List.nil_append, List.cons_append]
  have HY := hide hY
  have HR0 := hide hr
  clear hY hr
  have HS := hide (size_fsl hF h4)
  gi_wp2_with (refine one_in wide_in rfl (by intro c h; cases h) (fun Q' hq => wpList_load_mid rfl 82 _ rfl kb 0 rfl (fsC bs) _ (unhide HR0) Try.underlying82 rfl (unhide HS) hq) ?_)
  clear HR0 HS
  gi_loopw [8] (fun i w' => ∃ k : Nat, k ≤ 4 ∧ i = .int .i64 k ∧ J (wrA ((blks bs).take k)) w') (fun i _ => 4 - (intOf i).toNat)
  case atStart => exact ⟨0, by omega, rfl, h0⟩
  case round =>
    obtain ⟨k, hk, rfl, hJk⟩ := hrel
    by_cases h0 : k = 4
    · subst h0
      have hj2 : J (wrA (blks bs)) wr := by rw [List.take_of_length_le (by rw [blks_len bs h4]; exact Nat.le_refl _)] at hJk; exact hJk
      gi_wp2
      go_end0
      exact ⟨⟨_, rfl⟩, .inl ⟨_, rfl, hj2⟩⟩
    · have hlt : (k : Int) < 4 := by omega
      have hk4 : k < 4 := by omega
      have hkb : k < bs.length := by omega
      have hlo : (0 : Int) ≤ (k : Int) := by omega
      have HE := hide (ext_fs hF k hkb)
      have hb4 : bs[k].ps.length = 4 := hF.at k hkb
      have HLEN : Hid (∀ j, (wrA ((blks bs).take k) ++ wrP ⟨k, hk4⟩ (bs[k].ps.take j)).length < 17) := fun j => by
        have l1 := wrA_len ((blks bs).take k) 4 (fun x hx => by
          have := List.mem_of_mem_take hx
          obtain ⟨i, hi, rfl⟩ := List.getElem_of_mem this
          rw [blks_len bs h4] at hi
          rw [blks_at bs h4 i hi]
          exact Nat.le_of_eq (hF.at i (by omega)))
        have l2 := wrP_len ⟨k, hk4⟩ (bs[k].ps.take j)
        have l3 : ((blks bs).take k).length ≤ k := List.length_take_le _ _
        have l4 : (bs[k].ps.take j).length ≤ 4 := by rw [List.length_take]; omega
        rw [List.length_append]
        have l5 : ((blks bs).take k).length * 4 ≤ k * 4 := Nat.mul_le_mul_right _ l3
        omega
      have HT : Hid (wrA ((blks bs).take (k + 1)) = wrA ((blks bs).take k) ++ wrP ⟨k, hk4⟩ bs[k].ps) := by
        show _ = _
        have h8 : k < (blks bs).length := by rw [blks_len bs h4]; exact hk4
        rw [wrA_take _ k h8, blks_at bs h4 k hk4]
      generalize wrA ((blks bs).take k) = pre at *
      generalize bs[k] = b at *
      have rb := range_bk (rangeAt_new wr (bkC b) 80)
      have HSB := hide (size_bk hb4)
      have HSM := hide (same_bk hb4)
      have HSP := hide (size_psl hb4)
      gi_wp2_with (first | (refine one_in wide_in rfl (by intro c h; cases h) (fun Q' hq => wpList_index_big rfl 82 _ _ rfl (fsC bs).toArray _ (k : Int) rfl rfl 80 4 21 _ Try.underlying82 Try.underlying80 rfl (by kernel_rfl) hlo hlt (unhide HE) hq) ?_) | (refine one_in wide_in rfl (by intro c h; cases h) (fun Q' hq => wpList_alloc_big rfl 80 rfl (bkC zBk).toArray zero_bk hq) ?_) | (refine one_in wide_in rfl (by intro c h; cases h) (fun Q' hq => wpList_store_new rfl 80 _ _ rfl wr (bkC zBk).toArray (bkC b).toArray rfl rfl rfl (unhide HSB) (unhide HSM) (one_bk b) hq) ?_) | (refine one_in wide_in rfl (by intro c h; cases h) (fun Q' hq => wpList_load_mid rfl 76 _ rfl wr.heap.size 0 rfl (psC b.ps) _ rb Try.underlying76 rfl (unhide HSP) hq) ?_))
      have hJ2 := abides_new hJ hJk (.cells (bkC b).toArray 80)
      clear rb HSB HSM HSP HE hJk
      generalize wr.alloc (.cells (bkC b).toArray 80) = w2 at *
      gi_loopw [15] (fun i w' => ∃ j : Nat, j ≤ 4 ∧ i = .int .i64 j ∧ J (pre ++ wrP ⟨k, hk4⟩ (b.ps.take j)) w') (fun i _ => 4 - (intOf i).toNat)
      case atStart => exact ⟨0, by omega, rfl, by simpa [wrP] using hJ2⟩
      case round =>
        obtain ⟨j, hj, rfl, hJj⟩ := hrel
        clear hJ2
        by_cases h0 : j = 4
        · subst h0
          have hj2 : J (wrA ((blks bs).take (k + 1))) wr := by rw [unhide HT]; rw [List.take_of_length_le (l := b.ps) (by omega)] at hJj; exact hJj
          clear HT hJj
          gi_wp2
          go_roundw
          case rel => exact ⟨k + 1, by omega, by first | rfl | go_num, hj2⟩
          case measure => simp [intOf]; omega
        · have hjt : (j : Int) < 4 := by omega
          have hjb : j < b.ps.length := by omega
          have hjo : (0 : Int) ≤ (j : Int) := by omega
          have HEY := hide (ext_ps b.ps j hjb)
          have HPT := hide (wrP_take ⟨k, hk4⟩ b.ps j hjb)
          have hl17 := unhide HLEN j
          generalize b.ps[j] = p at *
          have hJ3 := abides_new hJ hJj (.cells (pgC p).toArray 75)
          clear hJj
          by_cases hp1 : p.st = 1
          · have g1 : (p.st == 1) = true := by simpa using hp1
            have HO : Hid (pre ++ wrP ⟨k, hk4⟩ (b.ps.take (j + 1)) = (pre ++ wrP ⟨k, hk4⟩ (b.ps.take j)) ++ [(⟨k, hk4⟩, pgRc p)]) := by
              show _ = _
              rw [unhide HPT, wrO, if_pos hp1, List.append_assoc]
            clear hp1 HPT
            obtain ⟨fn, tmps, assign, body, hy, hR⟩ := unhide HY _ (⟨k, hk4⟩, pgRc p) _ hJ3 hl17
            rw [← unhide HO] at hR
            have hy' : (Instr.yield l #[.int .i64 (k : Nat), .agg #[.int .i64 p.k, .int .i64 p.s, .int .i64 p.a, .int .i64 p.v]]).run Try.prog (wr.alloc (.cells #[.int .i64 p.st, .int .i64 p.k, .int .i64 p.s, .int .i64 p.a, .int .i64 p.v] 75)) = .ok (.round l fn tmps assign body) (wr.alloc (.cells #[.int .i64 p.st, .int .i64 p.k, .int .i64 p.s, .int .i64 p.a, .int .i64 p.v] 75)) := hy
            clear hy HO
            gi_wp2_with (first | (refine one_in wide_in rfl (by intro c h; cases h) (fun Q' hq => wpList_index_big rfl 76 _ _ rfl (psC b.ps).toArray _ (j : Int) rfl rfl 75 4 5 _ Try.underlying76 Try.underlying75 rfl (by kernel_rfl) hjo hjt (unhide HEY) hq) ?_))
            refine ⟨(fun h => by cases h), hR.mono ?_⟩
            rintro e W3 (⟨rfl, hJ4, _⟩ | ⟨rfl, hJx4⟩)
            · gi_wp2
              go_roundw
              case rel => exact ⟨j + 1, by omega, by first | rfl | go_num, hJ4⟩
              case measure => simp [intOf]; omega
            · gi_wp2
              refine bodyPost_ret (results_none rfl _ _ _) rfl ?_
              exact ⟨⟨_, rfl⟩, .inr ⟨_, trivial, hJx4⟩⟩
          · have g1 : (p.st == 1) = false := by simpa using hp1
            have HO : Hid (pre ++ wrP ⟨k, hk4⟩ (b.ps.take (j + 1)) = pre ++ wrP ⟨k, hk4⟩ (b.ps.take j)) := by
              show _ = _
              rw [unhide HPT, wrO, if_neg hp1, List.append_nil]
            clear hp1 HPT
            rw [← unhide HO] at hJ3
            clear HO
            gi_wp2_with (first | (refine one_in wide_in rfl (by intro c h; cases h) (fun Q' hq => wpList_index_big rfl 76 _ _ rfl (psC b.ps).toArray _ (j : Int) rfl rfl 75 4 5 _ Try.underlying76 Try.underlying75 rfl (by kernel_rfl) hjo hjt (unhide HEY) hq) ?_))
            refine ⟨(fun _ _ => trivial), ?_⟩
            gi_wp2
            go_roundw
            case rel => exact ⟨j + 1, by omega, by first | rfl | go_num, hJ3⟩
            case measure => simp [intOf]; omega
theorem written_stops (n kb : Nat) (bs : List Bk) (h4 : bs.length = 4) (hF : Fours bs) (w : World) (hk : kb < w.heap.size) (hr : w.rangeAt kb 0 (fsC bs)) :
    SeqStopsK Fence.wide n Try.prog 156 #[.pointer (some ⟨kb, 0, none⟩)] encW (fun _ _ => True) (fun xs => xs = wrA (blks bs)) (fun _ => True) 17 w := fun l J Jx W hW hJ hJx hY h0 =>
  written1_in n l kb bs h4 hF J Jx W.heap.size hJ hJx hY W (rangeAt_below hr hW hk) h0
end Go.Proofs.Ytcmklcfedeeahaa.Iter

/-
  The program's last record of an address: the pages that are written, gone by by the iterator.
-/
namespace Go.Proofs.Ytcmklcfedeeahaa.ImplL
open Go.ChangeShapes Go.WideShapes Go.ChangeAt Go.RowKit Go.Shelf OkA Big Fl ImplB ImplF ImplS _root_.Go.Proofs.Ytcmklcfedeeahaa.Own ImplT ImplU SpecA SpecB SpecC SpecD SpecW SpecF SpecG SpecH Ok2 Pl FindP Rnd Iter
set_option linter.unusedVariables false
set_option linter.unusedSimpArgs false
attribute [local go_sem] Oper.semAt_some
attribute [local go_sem ↓] Go.wp_at_zero Go.wp_at_succ

/-- Cells that fill a block from its beginning, and may be written. -/
structure CsAt (w : World) (b : Nat) (cs : List Value) : Prop where
  cells : w.rangeAt b 0 cs
  free : w.there b 0 cs.length
theorem CsAt.below {w w' : World} {b B : Nat} {cs : List Value} (h : CsAt w b cs) (hb : Below B w w') (hl : b < B) : CsAt w' b cs := ⟨rangeAt_below h.cells hb hl, there_below h.free hb hl⟩
theorem CsAt.new (w : World) (cs : List Value) (T : TypeId) : CsAt (w.alloc (.cells cs.toArray T)) w.heap.size cs :=
  ⟨rangeAt_new w _ _, fun j hj => by
    have e := rangeAt_new w cs T j _ (List.getElem?_eq_getElem hj)
    refine ⟨by rw [e]; rfl, ?_⟩
    have e2 := World.alloc_heap_new w (.cells cs.toArray T)
    simp only [World.frozen?, e2]
    simp⟩
theorem CsAt.cell {w : World} {b : Nat} {cs : List Value} (h : CsAt w b cs) (j : Nat) (v : Value) (hv : cs[j]? = some v) : w.cell? ⟨b, j, none⟩ = some v := by have := h.cells j v hv; rwa [Nat.zero_add] at this
theorem CsAt.frozen {w : World} {b : Nat} {cs : List Value} (h : CsAt w b cs) (j : Nat) (hj : j < cs.length) : w.frozen? ⟨b, j, none⟩ = false := by have := (h.free j hj).2; rwa [Nat.zero_add] at this
theorem CsAt.lt {w : World} {b : Nat} {cs : List Value} (h : CsAt w b cs) (hc : 0 < cs.length) : b < w.heap.size := cell_lt (h.cell 0 _ (List.getElem?_eq_getElem hc))
theorem CsAt.put {w : World} {b : Nat} {cs : List Value} (h : CsAt w b cs) (ds : List Value) (hl : ds.length = cs.length) : CsAt (w.setCells b 0 ds) b ds :=
  ⟨fun j v hv => by
    obtain ⟨hj, rfl⟩ := List.getElem?_eq_some_iff.1 hv
    exact cell_setCells_eq (vs := ds) (hl ▸ h.free) j hj, hl ▸ World.there_setCells h.free _ _ _⟩
theorem CsAt.other {w : World} {b : Nat} {cs : List Value} (h : CsAt w b cs) {d : Nat} (hn : b ≠ d) (o : Nat) (ds : List Value) : CsAt (w.setCells d o ds) b cs :=
  ⟨World.rangeAt_setCells_apart h.cells _ _ _ (.inl hn), World.there_setCells h.free _ _ _⟩
theorem CsAt.alloc {w : World} {b : Nat} {cs : List Value} (h : CsAt w b cs) (hl : b < w.heap.size) (o : Obj) : CsAt (w.alloc o) b cs := h.below ((Below.refl w.heap.size w).alloc (Nat.le_refl _) o) hl
theorem CsAt.kept {w w' : World} {row : Option Nat} {b : Nat} {cs : List Value} (h : CsAt w b cs) (hg : w.grownBy w' row) (hr : ∀ r, row = some r → ∃ o : Obj, w.heap[r]? = some o ∧ o.isCells = false) : CsAt w' b cs :=
  ⟨fun j v hv => cell_kept (h.cells j v hv) hg hr, fun j hj => by
    have e := h.cells j _ (List.getElem?_eq_getElem hj)
    exact ⟨by rw [cell_kept e hg hr]; rfl, (frozen_kept e hg hr).trans (h.free j hj).2⟩⟩
theorem own_cs {β : Type} (b : Nat) (f : β → List Value) : Go.Own (fun s W => CsAt W b (f s)) := fun s A B row hs hg hr => hs.kept hg hr
theorem ownFrom_size {β : Type} {B : Nat} (k : Nat) : OwnFrom B (fun (_ : β) W => k ≤ W.heap.size) := fun _ _ _ _ hs hg _ => Nat.le_trans hs hg.size

theorem keeps_setCells (b : Nat) : ∀ (ds : List Value) (o : Nat) (w : World), KeepsOthers w (w.setCells b o ds)
  | [], _, w => KeepsOthers.refl w
  | v :: r, o, w => (KeepsOthers.setCell w ⟨b, o, none⟩ v).trans (keeps_setCells b r (o + 1) _)
def LsPost (w : World) (r : Rc) (e : Ending) (w' : World) : Prop := e = .returned (.agg (rcC r).toArray) ∧ Below w.heap.size w w'

set_option maxRecDepth 100000 in
set_option maxHeartbeats 2000000 in
theorem last_in (bs : List Bk) (addr : Int) (h4 : bs.length = 4) (hF : Fours bs) (w : World) :
    CallsIn Fence.wide 9 Try.prog 114 #[.agg (fsC bs).toArray, .int .i64 addr] w fun e w' => LsPost w (lastR bs addr) e w' := by
  have HLR : Hid (lstW addr zRc (wrA (blks bs)) = lastR bs addr) := lstW_all addr bs h4
  generalize lastR bs addr = R at *
  refine callsIn_of_wp_marks Try.func114 rfl trivial ?_ rfl
  simp only [Try.ntmps114, List.size_toArray, List.length_cons, List.length_nil, Nat.reduceAdd, Nat.reduceSub, Array.replicate_succ, Array.replicate_zero, List.push_toArray, List.append_toArray, List.nil_append, List.cons_append]
  have HS := hide (size_fsl hF h4)
  have r0 := rangeAt_new w (fsC bs) 82
  have B1 : Below w.heap.size w ((((w.alloc (.cells (fsC bs).toArray 82)).alloc (.cells #[.int .i64 addr] 3)).alloc (.cells (rcC zRc).toArray 59)).alloc (.cells (rcC zRc).toArray 59)) := ((((Below.refl _ _).alloc (Nat.le_refl _) _).alloc (by simp) _).alloc (by simp; omega) _).alloc (by simp; omega) _
  have r1 : ((((w.alloc (.cells (fsC bs).toArray 82)).alloc (.cells #[.int .i64 addr] 3)).alloc (.cells (rcC zRc).toArray 59)).alloc (.cells (rcC zRc).toArray 59)).rangeAt w.heap.size 0 (fsC bs) := by
    refine rangeAt_below r0 (B := w.heap.size + 1) ?_ (by omega)
    exact (((Below.refl _ _).alloc (by simp) _).alloc (by simp) _).alloc (by simp) _
  have cA : CsAt ((((w.alloc (.cells (fsC bs).toArray 82)).alloc (.cells #[.int .i64 addr] 3)).alloc (.cells (rcC zRc).toArray 59)).alloc (.cells (rcC zRc).toArray 59)) (w.heap.size + 1) [.int .i64 addr] := by
    have := ((CsAt.new (w.alloc (.cells (fsC bs).toArray 82)) [.int .i64 addr] 3).alloc (by simp) (.cells (rcC zRc).toArray 59)).alloc (by simp) (.cells (rcC zRc).toArray 59)
    rwa [World.size_alloc] at this
  have cR : CsAt ((((w.alloc (.cells (fsC bs).toArray 82)).alloc (.cells #[.int .i64 addr] 3)).alloc (.cells (rcC zRc).toArray 59)).alloc (.cells (rcC zRc).toArray 59)) (w.heap.size + 1 + 1) (rcC zRc) := by
    have := (CsAt.new ((w.alloc (.cells (fsC bs).toArray 82)).alloc (.cells #[.int .i64 addr] 3)) (rcC zRc) 59).alloc (by simp) (.cells (rcC zRc).toArray 59)
    rwa [World.size_alloc, World.size_alloc] at this
  have cL : CsAt ((((w.alloc (.cells (fsC bs).toArray 82)).alloc (.cells #[.int .i64 addr] 3)).alloc (.cells (rcC zRc).toArray 59)).alloc (.cells (rcC zRc).toArray 59)) (w.heap.size + 1 + 1 + 1) (rcC zRc) := by
    have := CsAt.new (((w.alloc (.cells (fsC bs).toArray 82)).alloc (.cells #[.int .i64 addr] 3)).alloc (.cells (rcC zRc).toArray 59)) (rcC zRc) 59
    rwa [World.size_alloc, World.size_alloc, World.size_alloc] at this
  have s1 : ((((w.alloc (.cells (fsC bs).toArray 82)).alloc (.cells #[.int .i64 addr] 3)).alloc (.cells (rcC zRc).toArray 59)).alloc (.cells (rcC zRc).toArray 59)).heap.size = w.heap.size + 1 + 1 + 1 + 1 := by simp
  rw [show (rcC zRc).toArray = #[Value.int .i64 0, .int .i64 0, .int .i64 0, .int .i64 0] from rfl] at B1 r1 cA cR cL s1
  gi_wp2_with (first | (refine one_in wide_in rfl (by intro c h; cases h) (fun Q' hq => wpList_box_big rfl _ _ rfl (fsC bs).toArray rfl hq) ?_) | (refine one_in wide_in rfl (by intro c h; cases h) (fun Q' hq => wpList_load_mid rfl 82 _ rfl w.heap.size 0 rfl (fsC bs) _ r1 Try.underlying82 rfl (unhide HS) hq) ?_) | (gi_at_call 144; refine (callsIn_wide.2 (written_any bs _)).mono ?_; rintro e w' ⟨rfl, rfl⟩))
  clear r0
  generalize (((w.alloc (.cells (fsC bs).toArray 82)).alloc (.cells #[.int .i64 addr] 3)).alloc (.cells #[Value.int .i64 0, .int .i64 0, .int .i64 0, .int .i64 0] 59)).alloc (.cells #[Value.int .i64 0, .int .i64 0, .int .i64 0, .int .i64 0] 59) = w1 at *
  refine ⟨trivial, (callsIn_wide.2 (written_any bs _)).mono ?_⟩
  rintro e w' ⟨rfl, rfl⟩
  gi_wp2
  have rK := rangeAt_new w1 (fsC bs) 82
  have B2 := B1.alloc B1.size (.cells (fsC bs).toArray 82)
  have cA2 := cA.alloc (by omega) (.cells (fsC bs).toArray 82)
  have cR2 := cR.alloc (by omega) (.cells (fsC bs).toArray 82)
  have cL2 := cL.alloc (by omega) (.cells (fsC bs).toArray 82)
  have s2 : (w1.alloc (.cells (fsC bs).toArray 82)).heap.size = w.heap.size + 5 := by rw [World.size_alloc, s1]
  have hk : w1.heap.size < (w1.alloc (.cells (fsC bs).toArray 82)).heap.size := by rw [World.size_alloc]; omega
  rw [s1] at rK hk
  clear B1 cA cR cL r1
  generalize w1.alloc (.cells (fsC bs).toArray 82) = w2 at *
  generalize hsz : w.heap.size = sz at *
  refine wpIn_rangeFunc_ownH (α := Wr) rfl (by omega) (gf := 156) (lb := #[.pointer (some ⟨sz + 1 + 1 + 1 + 1, 0, none⟩)]) rfl trivial (enters_of Try.func156 (by kernel_rfl) rfl)
    (written_stops 8 (sz + 1 + 1 + 1 + 1) bs h4 hF w2 hk rK) (fun _ _ => trivial) (fun _ _ _ _ _ _ _ _ => trivial) (Below.refl _ _) (fun _ => rfl)
    (fun pre W => CsAt W (sz + 1 + 1 + 1) (rcC (lstW addr zRc pre)) ∧ CsAt W (sz + 1) [.int .i64 addr] ∧ CsAt W (sz + 1 + 1) (rcC zRc) ∧ Below sz w W ∧ sz + 5 ≤ W.heap.size)
    (fun _ _ _ => False)
    (OwnFrom.and (Own.from (own_cs (sz + 1 + 1 + 1) (fun pre => rcC (lstW addr zRc pre))) _) (OwnFrom.and (Own.from (own_cs (sz + 1) (fun _ => [.int .i64 addr])) _) (OwnFrom.and (Own.from (own_cs (sz + 1 + 1) (fun _ => rcC zRc)) _) (OwnFrom.and (ownFrom_below (by omega) (by omega)) (ownFrom_size (sz + 5))))))
    (fun _ _ _ _ _ hs _ _ => hs)
    ⟨cL2, cA2, cR2, B2, by omega⟩
    (fun x a' W => ∃ Bx, sz + 5 ≤ Bx ∧ CsAt W Bx (rcC x.2) ∧ a' = { tmps := #[.agg (fsC bs).toArray, .int .i64 addr, .pointer (some ⟨sz, 0, none⟩), .pointer (some ⟨sz + 1, 0, none⟩), .pointer (some ⟨sz + 1 + 1, 0, none⟩), .pointer (some ⟨sz + 1 + 1 + 1, 0, none⟩), undef, .pointer (some ⟨Bx, 0, none⟩), .agg (fsC bs).toArray, .func (.func 156) #[] #[.pointer (some ⟨sz + 1 + 1 + 1 + 1, 0, none⟩)], .int .i64 (x.1 : Nat), .agg (rcC x.2).toArray, undef, undef, undef, undef, undef, undef, undef, undef, undef, undef, undef, undef, undef], defers := [] })
    (fun x a' => Own.from (fun _ A B row hs hg hr => by obtain ⟨Bx, h1, h2, h3⟩ := hs; exact ⟨Bx, h1, h2.kept hg hr, h3⟩) _) ?assign ?body ?done ?stop
  case assign =>
    rintro l pre x W K ⟨hL, hA, hR, hB, hs⟩ hK
    rw [show encW x = #[.int .i64 (x.1 : Nat), .agg #[.int .i64 x.2.k, .int .i64 x.2.s, .int .i64 x.2.a, .int .i64 x.2.v]] from rfl]
    gi_wp2
    exact hK _ _ ((KeepsOthers.alloc _ _).from _) trivial ⟨hL.alloc (by omega) _, hA.alloc (by omega) _, hR.alloc (by omega) _, hB.alloc (by omega) _, by rw [World.size_alloc]; omega⟩ ⟨W.heap.size, hs, CsAt.new W (rcC x.2) 59, rfl⟩
  case body =>
    rintro l pre x a' W hl _ ⟨hL, hA, hR, hB, hs⟩ ⟨Bx, hBx, hX, rfl⟩ hlt
    have HN := hide (lstW_one addr zRc pre x)
    generalize lstW addr zRc pre = o at *
    have ca := hA.cell 0 _ rfl
    have x0 := hX.cell 0 _ rfl
    have x1 := hX.cell 1 _ rfl
    have x2 := hX.cell 2 _ rfl
    have x3 := hX.cell 3 _ rfl
    have o1 := hL.cell 1 _ rfl
    by_cases t1 : x.2.a = addr
    · have g1 : (x.2.a == addr) = true := by simpa using t1
      by_cases t2 : o.s < x.2.s
      · have HE : Hid (lstW addr zRc (pre ++ [x]) = x.2) := by show _ = _; rw [unhide HN, lstS, if_pos ⟨t1, t2⟩]
        clear t1 HN
        have o0 := hL.cell 0 _ rfl
        have o2 := hL.cell 2 _ rfl
        have o3 := hL.cell 3 _ rfl
        have f0 := hL.frozen 0 (by simp [rcC])
        have f1 := hL.frozen 1 (by simp [rcC])
        have f2 := hL.frozen 2 (by simp [rcC])
        have f3 := hL.frozen 3 (by simp [rcC])
        have kp : KeepsFrom w2.heap.size W (W.setCells (sz + 1 + 1 + 1) 0 (rcC x.2)) := (keeps_setCells _ _ _ _).from _
        have pL := hL.put (rcC x.2) rfl
        have pA := hA.other (show sz + 1 ≠ sz + 1 + 1 + 1 by omega) 0 (rcC x.2)
        have pR := hR.other (show sz + 1 + 1 ≠ sz + 1 + 1 + 1 by omega) 0 (rcC x.2)
        have pB := below_setCells (sz + 1 + 1 + 1) (show sz ≤ sz + 1 + 1 + 1 by omega) (rcC x.2) 0 W hB
        have pS : sz + 5 ≤ (W.setCells (sz + 1 + 1 + 1) 0 (rcC x.2)).heap.size := by rw [size_setCells]; exact hs
        gi_wp2
        exact ⟨kp, trivial, by rw [unhide HE]; exact pL, pA, pR, pB, pS⟩
      · have HE : Hid (lstW addr zRc (pre ++ [x]) = o) := by show _ = _; rw [unhide HN, lstS, if_neg (fun h => t2 h.2)]
        clear t1 HN
        gi_wp2
        exact ⟨KeepsFrom.refl _ _, trivial, by rw [unhide HE]; exact hL, hA, hR, hB, hs⟩
    · have g1 : (x.2.a == addr) = false := by simpa using t1
      have HE : Hid (lstW addr zRc (pre ++ [x]) = o) := by show _ = _; rw [unhide HN, lstS, if_neg (fun h => t1 h.1)]
      clear t1 HN
      gi_wp2
      exact ⟨KeepsFrom.refl _ _, trivial, by rw [unhide HE]; exact hL, hA, hR, hB, hs⟩
  case done =>
    rintro D ys W hD rfl ⟨hL, hA, hR, hB, hs⟩ hK
    rw [unhide HLR] at hL
    have c0 := hL.cell 0 _ rfl
    have c1 := hL.cell 1 _ rfl
    have c2 := hL.cell 2 _ rfl
    have c3 := hL.cell 3 _ rfl
    have d0 := hR.cell 0 _ rfl
    have d1 := hR.cell 1 _ rfl
    have d2 := hR.cell 2 _ rfl
    have d3 := hR.cell 3 _ rfl
    have f0 := hR.frozen 0 (by simp [rcC])
    have f1 := hR.frozen 1 (by simp [rcC])
    have f2 := hR.frozen 2 (by simp [rcC])
    have f3 := hR.frozen 3 (by simp [rcC])
    have pR := hR.put (rcC R) rfl
    have pB := below_setCells (sz + 1 + 1) (show sz ≤ sz + 1 + 1 by omega) (rcC R) 0 W hB
    have hK2 := (keeps_setCells (sz + 1 + 1) (rcC R) 0 W).same D _ hK rfl
    gi_wp2
    refine ⟨by simp, .inl ⟨_, _, rfl, run_takeDeferred hK2, ?_⟩⟩
    have pR2 := pR.kept (grownBy_putObj' _ D (.deferred none)) (fun r e => by cases e; exact ⟨_, hK2, rfl⟩)
    refine ⟨.agg (rcC R).toArray, ?_, rfl, ?_⟩
    · exact res_cell_mid Try.results114 _ _ (sz + 1 + 1) (rcC R) _ rfl pR2.cells Try.underlying59 rfl (SpecL.size_rc R)
    · rw [hsz]
      exact pB.trans (belowK_b (w := w) (by omega) _ D _ _ (by omega) hK2 rfl rfl)
  case stop =>
    rintro D c pre W _ _ h _
    exact h.elim
end Go.Proofs.Ytcmklcfedeeahaa.ImplL

/-
  FindLast, of the program and of the specification: both answer the same.
-/
namespace Go.Proofs.Ytcmklcfedeeahaa.FindL
open Go.ChangeShapes Go.WideShapes Go.ChangeAt Go.RowKit Go.Shelf OkA Big Fl ImplB ImplF ImplS _root_.Go.Proofs.Ytcmklcfedeeahaa.Own ImplT ImplU SpecA SpecB SpecC SpecD SpecW SpecF SpecG SpecH Ok2 Pl FindP SpecX ImplL
set_option linter.unusedVariables false
set_option linter.unusedSimpArgs false
attribute [local go_sem ↓] Go.wp_at_zero Go.wp_at_succ

/-! Plain lists. -/
/-- Nothing, or a record of the address that is ok. -/
def Lst (addr : Int) (r : Rc) : Prop := r = zRc ∨ (recB r.k r.s r.a r.v = true ∧ r.a = addr)
theorem lastS_ok (addr : Int) (o : Rc) (p : Pg) (h : Lst addr o) (hp : pgB p = true) : Lst addr (lastS addr o p) := by
  unfold lastS
  cases hl : laterB addr o p
  · exact h
  · simp only [if_true]
    simp [laterB] at hl
    refine .inr ⟨?_, hl.1.2⟩
    have : pgB p = recB p.k p.s p.a p.v := by unfold pgB; rw [if_pos hl.1.1]
    rw [this] at hp; exact hp
theorem lastP_ok (addr : Int) (ps : List Pg) : ∀ o, Lst addr o → (∀ p ∈ ps, pgB p = true) → Lst addr (lastP addr o ps) := by
  induction ps with
  | nil => intro o h _; exact h
  | cons p r ih => intro o h hp; exact ih _ (lastS_ok addr o p h (hp p (by simp))) fun x hx => hp x (by simp [hx])
theorem lastF_ok (addr : Int) (bs : List Bk) : ∀ o, Lst addr o → (∀ b ∈ bs, ∀ p ∈ b.ps, pgB p = true) → Lst addr (lastF addr o bs) := by
  induction bs with
  | nil => intro o h _; exact h
  | cons b r ih => intro o h hp; exact ih _ (lastP_ok addr b.ps o h (hp b (by simp))) fun x hx => hp x (by simp [hx])
theorem lastR_ok (bs : List Bk) (addr : Int) (h : okB bs = true) : Lst addr (lastR bs addr) := lastF_ok addr bs zRc (.inl rfl) (ok_pages h)
def noRc (r : Rc) : Bool := r.k == 0 && r.s == 0 && r.a == 0 && r.v == 0
theorem lst_no {addr : Int} {r : Rc} (h : Lst addr r) : (!noRc r) = decide (0 < r.s) := by
  rcases h with rfl | ⟨h, _⟩
  · rfl
  · simp [recB, numB, inB] at h
    have e1 : noRc r = false := by unfold noRc; simp; omega
    rw [e1]; simp; omega
theorem lst_out {addr : Int} {r : Rc} (h : Lst addr r) (ha : inB addr 1 6 = false) : r = zRc := by
  rcases h with h | ⟨h, rfl⟩
  · exact h
  · simp [recB, numB, ha] at h
/-- What FindLast answers. -/
def flR (bs : List Bk) (addr : Int) : Rc := if okB bs && inB addr 1 6 then lastR bs addr else zRc
def flO (bs : List Bk) (addr : Int) : Bool := okB bs && inB addr 1 6 && lastO bs addr
theorem flR_ok {bs : List Bk} {addr : Int} (h : okB bs = true) : flR bs addr = lastR bs addr := by
  unfold flR; rw [h, Bool.true_and]
  cases ha : inB addr 1 6
  · rw [if_neg (by simp), lst_out (lastR_ok bs addr h) ha]
  · rfl
theorem flO_ok {bs : List Bk} {addr : Int} (h : okB bs = true) : flO bs addr = !noRc (lastR bs addr) := by
  unfold flO; rw [h, Bool.true_and]
  cases ha : inB addr 1 6
  · rw [lst_out (lastR_ok bs addr h) ha]; rfl
  · rw [lst_no (lastR_ok bs addr h)]; rfl
def FlPost (w : World) (r : Rc) (o : Bool) (e : Ending) (w' : World) : Prop := e = .returned (.tuple #[.agg (rcC r).toArray, .bool o]) ∧ Below w.heap.size w w'

set_option maxRecDepth 100000 in
set_option maxHeartbeats 400000 in
theorem specLast_any (a : Option Addr) (cap : Nat) (addr : Int) (bs : List Bk) (w : World) (hf : FsAt w a bs) (hm : bs.length ≤ 1048576) (hp : ∀ b ∈ bs, b.ps.length ≤ 1048576) :
    Calls Try.prog 65 #[.slice a bs.length cap, .int .i64 addr] w fun e w' => FlPost w (flR bs addr) (flO bs addr) e w' := by
  have cR := CsAt.new w (rcC zRc) 59
  have B0 : Below w.heap.size w (w.alloc (.cells #[.int .i64 0, .int .i64 0, .int .i64 0, .int .i64 0] 59)) := (Below.refl _ _).alloc (Nat.le_refl _) _
  have HC := hide (specFlashOk_any a cap bs _ (hf.below B0) hm)
  have HF := hide (hf.below B0)
  have HI := hide (fun (w' : World) => l6In_any addr 1 6 w')
  have HLA := hide (fun (w' : World) (h : FsAt w' a bs) => SpecL.last_any a cap bs addr w' h hm hp)
  clear hf
  have HR : Hid (flR bs addr = if okB bs && inB addr 1 6 then lastR bs addr else zRc) := rfl
  have HO : Hid (flO bs addr = (okB bs && inB addr 1 6 && lastO bs addr)) := rfl
  have hcz : CsAt (w.alloc (.cells #[.int .i64 0, .int .i64 0, .int .i64 0, .int .i64 0] 59)) w.heap.size (rcC zRc) := cR
  have hs0 : w.heap.size < (w.alloc (.cells #[.int .i64 0, .int .i64 0, .int .i64 0, .int .i64 0] 59)).heap.size := by simp
  clear cR
  generalize flR bs addr = r at *
  generalize flO bs addr = o at *
  go_enter Try.func65, Try.ntmps65
  cases hok : okB bs
  · rw [hok] at HC HR HO
    simp only [Bool.false_and, Bool.false_eq_true, if_false] at HR HO
    go_wp2_with fail
    refine (unhide HC).mono ?_
    rintro e w1 ⟨rfl, b1⟩
    have c1 := hcz.below b1 hs0
    have B1 := B0.trans (b1.mono B0.size)
    clear b1
    have d0 := c1.cell 0 _ rfl
    have d1 := c1.cell 1 _ rfl
    have d2 := c1.cell 2 _ rfl
    have d3 := c1.cell 3 _ rfl
    have f0 := c1.frozen 0 (by simp [rcC])
    have f1 := c1.frozen 1 (by simp [rcC])
    have f2 := c1.frozen 2 (by simp [rcC])
    have f3 := c1.frozen 3 (by simp [rcC])
    have p1 := c1.put (rcC zRc) rfl
    have pB := below_setCells w.heap.size (Nat.le_refl _) (rcC zRc) 0 _ B1
    go_wp2
    refine bodyPost_ret (res_cell_tmp Try.results65 _ _ w.heap.size (rcC zRc) _ rfl p1.cells Try.underlying59 rfl (SpecL.size_rc zRc)) rfl ?_
    exact ⟨by rw [unhide HR, unhide HO]; rfl, pB⟩
  · cases hin : inB addr 1 6
    · rw [hok, hin] at HR HO
      rw [hin] at HI
      rw [hok] at HC
      simp only [Bool.true_and, Bool.false_and, Bool.false_eq_true, if_false] at HR HO
      go_wp2_with fail
      refine (unhide HC).mono ?_
      rintro e w1 ⟨rfl, b1⟩
      have c1 := hcz.below b1 hs0
      have B1 := B0.trans (b1.mono B0.size)
      clear b1
      go_wp2_with fail
      refine (unhide HI _).mono ?_
      rintro e w2 ⟨rfl, hw2⟩
      obtain rfl := hw2.symm
      have d0 := c1.cell 0 _ rfl
      have d1 := c1.cell 1 _ rfl
      have d2 := c1.cell 2 _ rfl
      have d3 := c1.cell 3 _ rfl
      have f0 := c1.frozen 0 (by simp [rcC])
      have f1 := c1.frozen 1 (by simp [rcC])
      have f2 := c1.frozen 2 (by simp [rcC])
      have f3 := c1.frozen 3 (by simp [rcC])
      have p1 := c1.put (rcC zRc) rfl
      have pB := below_setCells w.heap.size (Nat.le_refl _) (rcC zRc) 0 _ B1
      go_wp2
      refine bodyPost_ret (res_cell_tmp Try.results65 _ _ w.heap.size (rcC zRc) _ rfl p1.cells Try.underlying59 rfl (SpecL.size_rc zRc)) rfl ?_
      exact ⟨by rw [unhide HR, unhide HO]; rfl, pB⟩
    · rw [hok, hin] at HR HO
      rw [hin] at HI
      rw [hok] at HC
      simp only [Bool.true_and, if_true] at HR HO
      go_wp2_with fail
      refine (unhide HC).mono ?_
      rintro e w1 ⟨rfl, b1⟩
      have c1 := hcz.below b1 hs0
      have hs1 := Nat.lt_of_lt_of_le hs0 b1.size
      have F1 := hide ((unhide HF).below b1)
      have B1 := B0.trans (b1.mono B0.size)
      clear b1
      go_wp2_with fail
      refine (unhide HI _).mono ?_
      rintro e w2 ⟨rfl, hw2⟩
      obtain rfl := hw2.symm
      go_wp2_with fail
      refine (unhide HLA _ (unhide F1)).mono ?_
      rintro e w3 ⟨rfl, b3⟩
      rw [← unhide HR, ← unhide HO]
      have c3 := c1.below b3 hs1
      have B3 := B1.trans (b3.mono B1.size)
      clear b3 c1
      have d0 := c3.cell 0 _ rfl
      have d1 := c3.cell 1 _ rfl
      have d2 := c3.cell 2 _ rfl
      have d3 := c3.cell 3 _ rfl
      have f0 := c3.frozen 0 (by simp [rcC])
      have f1 := c3.frozen 1 (by simp [rcC])
      have f2 := c3.frozen 2 (by simp [rcC])
      have f3 := c3.frozen 3 (by simp [rcC])
      have p1 := c3.put (rcC r) rfl
      have pB := below_setCells w.heap.size (Nat.le_refl _) (rcC r) 0 _ B3
      rw [show (rcC r).toArray = #[.int .i64 r.k, .int .i64 r.s, .int .i64 r.a, .int .i64 r.v] from rfl]
      go_wp2
      refine bodyPost_ret (res_cell_tmp Try.results65 _ _ w.heap.size (rcC r) _ rfl p1.cells Try.underlying59 rfl (SpecL.size_rc r)) rfl ?_
      exact ⟨rfl, pB⟩

set_option maxRecDepth 100000 in
set_option maxHeartbeats 1000000 in
theorem implLast_any (a : Option Addr) (cap : Nat) (addr : Int) (bs : List Bk) (w : World) (hf : FsAt w a bs) (hm : bs.length ≤ 9223372036854775807) :
    Calls Try.prog 66 #[.slice a bs.length cap, .int .i64 addr] w fun e w' => FlPost w (flR bs addr) (flO bs addr) e w' := by
  obtain ⟨zf, hz, hz84⟩ := zrow
  have HZ := hide hz
  clear hz
  have cR : CsAt (w.alloc (.cells #[.int .i64 0, .int .i64 0, .int .i64 0, .int .i64 0] 59)) w.heap.size (rcC zRc) := CsAt.new w (rcC zRc) 59
  have B0 : Below w.heap.size w (w.alloc (.cells #[.int .i64 0, .int .i64 0, .int .i64 0, .int .i64 0] 59)) := (Below.refl _ _).alloc (Nat.le_refl _) _
  have hs0 : w.heap.size < (w.alloc (.cells #[.int .i64 0, .int .i64 0, .int .i64 0, .int .i64 0] 59)).heap.size := by simp
  have HF := hide (hf.below B0)
  clear hf
  have HR : Hid (okB bs = false → flR bs addr = zRc) := fun h => by unfold flR; rw [h]; rfl
  have HO : Hid (okB bs = false → flO bs addr = false) := fun h => by unfold flO; rw [h]; rfl
  have HR2 : Hid (okB bs = true → flR bs addr = lastR bs addr) := fun h => flR_ok h
  have HO2 : Hid (okB bs = true → flO bs addr = !noRc (lastR bs addr)) := fun h => flO_ok h
  generalize flR bs addr = r at *
  generalize flO bs addr = o at *
  go_enter Try.func66, Try.ntmps66
  go_wp2_with fail
  refine (ofz_any a cap bs _ (unhide HF) hm).mono ?_
  rintro e w1 ⟨ks, rfl, hk4, hkF, hke, b1⟩
  have hsz : zf.size = (fsC ks).toArray.size := by rw [hz84, List.size_toArray, len_fsC _ hkF, hk4]
  have r1 := rangeAt_new w1 (fsC ks) 82
  have c1 := (cR.below b1 hs0).alloc (Nat.lt_of_lt_of_le hs0 b1.size) (.cells (fsC ks).toArray 82)
  have hs1 : w.heap.size < (w1.alloc (.cells (fsC ks).toArray 82)).heap.size := by have := Nat.lt_of_lt_of_le hs0 b1.size; simp; omega
  have B1 := (B0.trans (b1.mono B0.size)).alloc (B0.trans (b1.mono B0.size)).size (.cells (fsC ks).toArray 82)
  clear b1 B0 cR
  cases hs : okB bs
  · have HR := hide (unhide HR hs)
    have HO := hide (unhide HO hs)
    clear hs hke
    have d0 := c1.cell 0 _ rfl
    have d1 := c1.cell 1 _ rfl
    have d2 := c1.cell 2 _ rfl
    have d3 := c1.cell 3 _ rfl
    have f0 := c1.frozen 0 (by simp [rcC])
    have f1 := c1.frozen 1 (by simp [rcC])
    have f2 := c1.frozen 2 (by simp [rcC])
    have f3 := c1.frozen 3 (by simp [rcC])
    have p1 := c1.put (rcC zRc) rfl
    have pB := below_setCells w.heap.size (Nat.le_refl _) (rcC zRc) 0 _ B1
    go_wp2_with (first | (refine wpList_alloc_big rfl 82 rfl zf (unhide HZ) ?_) | (refine wpList_store_new rfl 82 _ _ rfl w1 zf (fsC ks).toArray rfl rfl rfl (size_fsa hkF hk4) hsz (one_fs ks) ?_))
    refine bodyPost_ret (res_cell_tmp Try.results66 _ _ w.heap.size (rcC zRc) _ rfl p1.cells Try.underlying59 rfl (SpecL.size_rc zRc)) rfl ?_
    exact ⟨by rw [unhide HR, unhide HO]; rfl, pB⟩
  · obtain rfl := hke hs
    have HR := hide (unhide HR2 hs)
    have HO := hide (unhide HO2 hs)
    clear hs hke
    go_wp2_with (first | (refine wpList_alloc_big rfl 82 rfl zf (unhide HZ) ?_) | (refine wpList_store_new rfl 82 _ _ rfl w1 zf (fsC ks).toArray rfl rfl rfl (size_fsa hkF hk4) hsz (one_fs ks) ?_) | (refine wpList_load_mid rfl 82 _ rfl w1.heap.size 0 rfl (fsC ks) _ r1 Try.underlying82 rfl (size_fsl hkF hk4) ?_))
    refine (callsIn_wide.1 (last_in ks addr hk4 hkF _)).mono ?_
    rintro e w2 ⟨rfl, b2⟩
    clear r1
    rw [← unhide HR] at HO ⊢
    have c2 := c1.below b2 hs1
    have hs2 := Nat.lt_of_lt_of_le hs1 b2.size
    have B2 := B1.trans (b2.mono B1.size)
    clear b2 B1 c1
    have c3 := c2.alloc hs2 (.cells (rcC r).toArray 59)
    have B3 := B2.alloc B2.size (.cells (rcC r).toArray 59)
    have cX := CsAt.new w2 (rcC r) 59
    have hne : w.heap.size ≠ w2.heap.size := by omega
    rw [show (rcC r).toArray = #[.int .i64 r.k, .int .i64 r.s, .int .i64 r.a, .int .i64 r.v] from rfl] at *
    go_wp2
    generalize w2.alloc (.cells #[.int .i64 r.k, .int .i64 r.s, .int .i64 r.a, .int .i64 r.v] 59) = w3 at *
    generalize w2.heap.size = Bx at *
    clear B2 c2
    have HS := hide (SpecL.size_rc r)
    have HSA := hide (SpecL.size_rca r)
    have HO1 := hide (SpecL.one_rc r)
    refine wp_region_noPanic ?_
    refine wp_region_held_drew (S := fun w' => CsAt w' Bx (rcC r)) (by kernel_rfl) (⟨fun j v hv => cX.cells j v hv, fun j hj => cX.free j hj⟩) (fun hHeld => ?_)
    refine takeL 0 (_) rfl (by kernel_rfl) (by kernel_rfl) (by kernel_rfl) (fun _ _ _ h => h) (yieldsIf_load_mid rfl 59 _ rfl Bx 0 rfl (rcC r) _ (fun _ h => h.cells) Try.underlying59 rfl (unhide HS)) hHeld ?_
    try simp only [Act.put, List.setIfInBounds_toArray, List.set_cons_zero, List.set_cons_succ]
    refine takeL 1 (_) rfl (by kernel_rfl) (by kernel_rfl) (by kernel_rfl) (fun _ _ _ h => h) (yieldsIf_load_mid rfl 59 _ rfl Bx 0 rfl (rcC r) _ (fun _ h => h.cells) Try.underlying59 rfl (unhide HS)) hHeld ?_
    try simp only [Act.put, List.setIfInBounds_toArray, List.set_cons_zero, List.set_cons_succ]
    refine takeL 2 (.agg #[.int .i64 0, .int .i64 0, .int .i64 0, .int .i64 0]) rfl (by kernel_rfl) (by kernel_rfl) (by kernel_rfl) (fun _ _ _ h => h) (Or.inl ⟨rfl, fun w9 hSw => by go_simp⟩) hHeld ?_
    try simp only [Act.put, List.setIfInBounds_toArray, List.set_cons_zero, List.set_cons_succ]
    refine takeL 3 (.bool (!noRc r)) rfl (by kernel_rfl) (by kernel_rfl) (by kernel_rfl) (fun _ _ _ h => h) (Or.inl ⟨rfl, fun w9 hSw => by unfold noRc rcC; go_simp; by_cases q1 : r.k = 0 <;> by_cases q2 : r.s = 0 <;> by_cases q3 : r.a = 0 <;> by_cases q4 : r.v = 0 <;> simp [q1, q2, q3, q4]⟩) hHeld ?_
    try simp only [Act.put, List.setIfInBounds_toArray, List.set_cons_zero, List.set_cons_succ]
    refine oneL 4 rfl (by kernel_rfl) rfl (fun K hK => ?_)
    refine wp_store_mid 59 _ _ rfl w.heap.size 0 (rcC r).toArray rfl rfl ((World.there_drew _ _ _ _).2 c3.free) (unhide HSA) (unhide HO1) ?_
    refine hK.out _ _ (hHeld.other (by omega) _ _) (fun hHeld => ?_)
    clear hK K
    try simp only [Act.put, List.setIfInBounds_toArray, List.set_cons_zero, List.set_cons_succ]
    refine takeL 5 (.bool (!noRc r)) rfl (by kernel_rfl) (by kernel_rfl) (by kernel_rfl) (fun _ _ _ h => h) (Or.inl ⟨rfl, fun _ _ => rfl⟩) hHeld ?_
    try simp only [Act.put, List.setIfInBounds_toArray, List.set_cons_zero, List.set_cons_succ]
    refine wpAnyH_done (by kernel_rfl) ?_ _
    refine NoPanic.normal ?_
    go_wp2_with fail
    refine bodyPost_ret (res_cell_tmp Try.results66 _ _ w.heap.size (rcC r) _ rfl (World.rangeAt_setCells_same _ _ _ _ ((World.there_drew _ _ _ _).2 c3.free)) Try.underlying59 rfl (unhide HS)) rfl (unhide ?_)
    exact ⟨by rw [unhide HO]; rfl, below_setCells _ (Nat.le_refl _) _ _ _ B3.drew⟩
end Go.Proofs.Ytcmklcfedeeahaa.FindL
