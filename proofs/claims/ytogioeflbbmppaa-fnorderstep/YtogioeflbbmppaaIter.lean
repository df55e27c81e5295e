/-
  The program's iterator over the pages that are written: for every list of blocks that are kept, whatever is done with each.
-/
import Derived.Test.YtogioeflbbmppaaFindP
import Derived.Test.YtogioeflbbmppaaRnd
namespace Go.Proofs.Ytogioeflbbmppaa.Iter
open Go.ChangeShapes Go.WideShapes Go.ChangeAt Go.RowKit Go.Shelf OkA Big Fl ImplB ImplF ImplS _root_.Go.Proofs.Ytogioeflbbmppaa.Own ImplT ImplU SpecA SpecB SpecC SpecD SpecW SpecF SpecG SpecH Ok2 Pl FindP Rnd
set_option linter.unusedVariables false
set_option linter.unusedSimpArgs false
attribute [local go_sem] Oper.semAt_some
attribute [local go_sem ↓] Go.wp_at_zero Go.wp_at_succ

theorem written_any (bs : List Bk) (w : World) :
    Calls Try.prog 99 #[.agg (fsC bs).toArray] w fun e w' => e = .returned (.func (.func 111) #[] #[.pointer (some ⟨w.heap.size, 0, none⟩)]) ∧ w' = w.alloc (.cells (fsC bs).toArray 73) := by
  have hmf : ∀ (fn : Fn) (first cap : Array Value) (w : World), (Instr.makeFunc fn first cap).run Try.prog w = .ok (.func fn first cap) w := fun _ _ _ _ => rfl
  go_enter Try.func99, Try.ntmps99
  go_wp2_with (refine wpList_box_big rfl _ _ rfl (fsC bs).toArray rfl ?_)
  go_ret
  exact ⟨rfl, rfl⟩

def encW (x : Wr) : Array Value := #[.int .i64 (x.1 : Nat), .agg (rcC x.2).toArray]
theorem abides_new {β : Type} {B : Nat} {J : β → World → Prop} (h : AbidesFrom B J) {s : β} {W : World} (hs : J s W) (o : Obj) : J s (W.alloc o) := h s W _ none hs (World.grownBy_alloc W o none) (fun r e => by cases e)

set_option maxRecDepth 100000 in
set_option maxHeartbeats 2000000 in
theorem written1_in (n l kb : Nat) (bs : List Bk) (h4 : bs.length = 4) (hF : Fours bs) (J Jx : List Wr → World → Prop) (B : Nat) (hJ : AbidesFrom B J) (hJx : AbidesFrom B Jx)
    (hY : ∀ pre x W, J pre W → pre.length < 17 → YieldAt Fence.wide (n - 1) Try.prog l (encW x) W fun e W' =>
      (e = .returned (.bool true) ∧ J (pre ++ [x]) W' ∧ True) ∨ (e = .returned (.bool false) ∧ Jx (pre ++ [x]) W'))
    (W : World) (hr : W.rangeAt kb 0 (fsC bs)) (h0 : J [] W) :
    CallsIn Fence.wide n Try.prog 111 #[.func (.yield l) #[] #[], .pointer (some ⟨kb, 0, none⟩)] W fun e W' => (∃ v, e = .returned v) ∧
      ((∃ xs, xs = wrA (blks bs) ∧ J xs W') ∨ (∃ pre, True ∧ Jx pre W')) := by
  refine callsIn_of_wp Try.func111 rfl trivial ?_ rfl
  simp only [Try.ntmps111, List.size_toArray, List.length_cons, List.length_nil, Nat.reduceAdd, Nat.reduceSub, Array.replicate_succ, Array.replicate_zero, List.push_toArray, List.append_toArray, List.nil_append, List.cons_append]
  have HY := hide hY
  have HR0 := hide hr
  clear hY hr
  have HS := hide (size_fsl hF h4)
  gi_wp2_with (refine one_in wide_in rfl (by intro c h; cases h) (fun Q' hq => wpList_load_mid rfl 73 _ rfl kb 0 rfl (fsC bs) _ (unhide HR0) Try.underlying73 rfl (unhide HS) hq) ?_)
  clear HR0 HS
  gi_loopw [8] (fun i w' => ∃ k : Nat, k ≤ 4 ∧ i = .int .i64 k ∧ J (wrA ((blks bs).take k)) w') (fun i _ => 4 - (intOf i).toNat)
  case atStart => exact ⟨0, by omega, rfl, h0⟩
  case round =>
    obtain ⟨k, hk, rfl, hJk⟩ := hrel
    by_cases h0 : k = 4
    · subst h0
      have hj2 : J (wrA (blks bs)) wr := by rw [List.take_of_length_le (by rw [blks_len bs h4]; exact Nat.le_refl _)] at hJk; exact hJk
      gi_wp2
      go_end0
      exact ⟨⟨_, rfl⟩, .inl ⟨_, rfl, hj2⟩⟩
    · have hlt : (k : Int) < 4 := by omega
      have hk4 : k < 4 := by omega
      have hkb : k < bs.length := by omega
      have hlo : (0 : Int) ≤ (k : Int) := by omega
      have HE := hide (ext_fs hF k hkb)
      have hb4 : bs[k].ps.length = 4 := hF.at k hkb
      have HLEN : Hid (∀ j, (wrA ((blks bs).take k) ++ wrP ⟨k, hk4⟩ (bs[k].ps.take j)).length < 17) := fun j => by
        have l1 := wrA_len ((blks bs).take k) 4 (fun x hx => by
          have := List.mem_of_mem_take hx
          obtain ⟨i, hi, rfl⟩ := List.getElem_of_mem this
          rw [blks_len bs h4] at hi
          rw [blks_at bs h4 i hi]
          exact Nat.le_of_eq (hF.at i (by omega)))
        have l2 := wrP_len ⟨k, hk4⟩ (bs[k].ps.take j)
        have l3 : ((blks bs).take k).length ≤ k := List.length_take_le _ _
        have l4 : (bs[k].ps.take j).length ≤ 4 := by rw [List.length_take]; omega
        rw [List.length_append]
        have l5 : ((blks bs).take k).length * 4 ≤ k * 4 := Nat.mul_le_mul_right _ l3
        omega
      have HT : Hid (wrA ((blks bs).take (k + 1)) = wrA ((blks bs).take k) ++ wrP ⟨k, hk4⟩ bs[k].ps) := by
        show _ = _
        have h8 : k < (blks bs).length := by rw [blks_len bs h4]; exact hk4
        rw [wrA_take _ k h8, blks_at bs h4 k hk4]
      generalize wrA ((blks bs).take k) = pre at *
      generalize bs[k] = b at *
      have rb := range_bk (rangeAt_new wr (bkC b) 71)
      have HSB := hide (size_bk hb4)
      have HSM := hide (same_bk hb4)
      have HSP := hide (size_psl hb4)
      gi_wp2_with (first | (refine one_in wide_in rfl (by intro c h; cases h) (fun Q' hq => wpList_index_big rfl 73 _ _ rfl (fsC bs).toArray _ (k : Int) rfl rfl 71 4 21 _ Try.underlying73 Try.underlying71 rfl (by kernel_rfl) hlo hlt (unhide HE) hq) ?_) | (refine one_in wide_in rfl (by intro c h; cases h) (fun Q' hq => wpList_alloc_big rfl 71 rfl (bkC zBk).toArray zero_bk hq) ?_) | (refine one_in wide_in rfl (by intro c h; cases h) (fun Q' hq => wpList_store_new rfl 71 _ _ rfl wr (bkC zBk).toArray (bkC b).toArray rfl rfl rfl (unhide HSB) (unhide HSM) (one_bk b) hq) ?_) | (refine one_in wide_in rfl (by intro c h; cases h) (fun Q' hq => wpList_load_mid rfl 67 _ rfl wr.heap.size 0 rfl (psC b.ps) _ rb Try.underlying67 rfl (unhide HSP) hq) ?_))
      have hJ2 := abides_new hJ hJk (.cells (bkC b).toArray 71)
      clear rb HSB HSM HSP HE hJk
      generalize wr.alloc (.cells (bkC b).toArray 71) = w2 at *
      gi_loopw [15] (fun i w' => ∃ j : Nat, j ≤ 4 ∧ i = .int .i64 j ∧ J (pre ++ wrP ⟨k, hk4⟩ (b.ps.take j)) w') (fun i _ => 4 - (intOf i).toNat)
      case atStart => exact ⟨0, by omega, rfl, by simpa [wrP] using hJ2⟩
      case round =>
        obtain ⟨j, hj, rfl, hJj⟩ := hrel
        clear hJ2
        by_cases h0 : j = 4
        · subst h0
          have hj2 : J (wrA ((blks bs).take (k + 1))) wr := by rw [unhide HT]; rw [List.take_of_length_le (l := b.ps) (by omega)] at hJj; exact hJj
          clear HT hJj
          gi_wp2
          go_roundw
          case rel => exact ⟨k + 1, by omega, by first | rfl | go_num, hj2⟩
          case measure => simp [intOf]; omega
        · have hjt : (j : Int) < 4 := by omega
          have hjb : j < b.ps.length := by omega
          have hjo : (0 : Int) ≤ (j : Int) := by omega
          have HEY := hide (ext_ps b.ps j hjb)
          have HPT := hide (wrP_take ⟨k, hk4⟩ b.ps j hjb)
          have hl17 := unhide HLEN j
          generalize b.ps[j] = p at *
          have hJ3 := abides_new hJ hJj (.cells (pgC p).toArray 33)
          clear hJj
          by_cases hp1 : p.st = 1
          · have g1 : (p.st == 1) = true := by simpa using hp1
            have HO : Hid (pre ++ wrP ⟨k, hk4⟩ (b.ps.take (j + 1)) = (pre ++ wrP ⟨k, hk4⟩ (b.ps.take j)) ++ [(⟨k, hk4⟩, pgRc p)]) := by
              show _ = _
              rw [unhide HPT, wrO, if_pos hp1, List.append_assoc]
            clear hp1 HPT
            obtain ⟨fn, tmps, assign, body, hy, hR⟩ := unhide HY _ (⟨k, hk4⟩, pgRc p) _ hJ3 hl17
            rw [← unhide HO] at hR
            have hy' : (Instr.yield l #[.int .i64 (k : Nat), .agg #[.int .i64 p.k, .int .i64 p.s, .int .i64 p.a, .int .i64 p.v]]).run Try.prog (wr.alloc (.cells #[.int .i64 p.st, .int .i64 p.k, .int .i64 p.s, .int .i64 p.a, .int .i64 p.v] 33)) = .ok (.round l fn tmps assign body) (wr.alloc (.cells #[.int .i64 p.st, .int .i64 p.k, .int .i64 p.s, .int .i64 p.a, .int .i64 p.v] 33)) := hy
            clear hy HO
            gi_wp2_with (first | (refine one_in wide_in rfl (by intro c h; cases h) (fun Q' hq => wpList_index_big rfl 67 _ _ rfl (psC b.ps).toArray _ (j : Int) rfl rfl 33 4 5 _ Try.underlying67 Try.underlying33 rfl (by kernel_rfl) hjo hjt (unhide HEY) hq) ?_))
            refine ⟨(fun h => by cases h), hR.mono ?_⟩
            rintro e W3 (⟨rfl, hJ4, _⟩ | ⟨rfl, hJx4⟩)
            · gi_wp2
              go_roundw
              case rel => exact ⟨j + 1, by omega, by first | rfl | go_num, hJ4⟩
              case measure => simp [intOf]; omega
            · gi_wp2
              refine bodyPost_ret (results_none rfl _ _ _) rfl ?_
              exact ⟨⟨_, rfl⟩, .inr ⟨_, trivial, hJx4⟩⟩
          · have g1 : (p.st == 1) = false := by simpa using hp1
            have HO : Hid (pre ++ wrP ⟨k, hk4⟩ (b.ps.take (j + 1)) = pre ++ wrP ⟨k, hk4⟩ (b.ps.take j)) := by
              show _ = _
              rw [unhide HPT, wrO, if_neg hp1, List.append_nil]
            clear hp1 HPT
            rw [← unhide HO] at hJ3
            clear HO
            gi_wp2_with (first | (refine one_in wide_in rfl (by intro c h; cases h) (fun Q' hq => wpList_index_big rfl 67 _ _ rfl (psC b.ps).toArray _ (j : Int) rfl rfl 33 4 5 _ Try.underlying67 Try.underlying33 rfl (by kernel_rfl) hjo hjt (unhide HEY) hq) ?_))
            refine ⟨(fun _ _ => trivial), ?_⟩
            gi_wp2
            go_roundw
            case rel => exact ⟨j + 1, by omega, by first | rfl | go_num, hJ3⟩
            case measure => simp [intOf]; omega
theorem written_stops (n kb : Nat) (bs : List Bk) (h4 : bs.length = 4) (hF : Fours bs) (w : World) (hk : kb < w.heap.size) (hr : w.rangeAt kb 0 (fsC bs)) :
    SeqStopsK Fence.wide n Try.prog 111 #[.pointer (some ⟨kb, 0, none⟩)] encW (fun _ _ => True) (fun xs => xs = wrA (blks bs)) (fun _ => True) 17 w := fun l J Jx W hW hJ hJx hY h0 =>
  written1_in n l kb bs h4 hF J Jx W.heap.size hJ hJx hY W (rangeAt_below hr hW hk) h0
end Go.Proofs.Ytogioeflbbmppaa.Iter
