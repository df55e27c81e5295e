/-
  What is put, and flushed, step by step, as the laws ask it; plain facts of these steps.
-/
import Derived.Test.YtkikeapfjpnkgaaPx
import Derived.Test.YtkikeapfjpnkgaaDrF
import Derived.Test.YtkikeapfjpnkgaaTwM
import Derived.Test.YtkikeapfjpnkgaaDrwC
import Derived.Test.YtkikeapfjpnkgaaPlE
namespace Go.Proofs.Ytkikeapfjpnkgaa.Pw
open Go.ChangeShapes Go.WideShapes Go.ChangeAt Go.RowKit Go.Shelf OkA Big Fl ImplB ImplF ImplS ImplT ImplU SpecA SpecB SpecC SpecD SpecW SpecF SpecG SpecH FindP ImplL FindN FindL FindD FindO Pl Kp StA StB StC StD StE StF StG SpS SpT Sv RmA WrA FlA PlA PlB SpU TwC
set_option linter.unusedVariables false
set_option linter.unusedSimpArgs false

/-- A list of steps lies there. -/
def StAt (w : World) (a : Option Addr) (l : List Stp) : Prop := l = [] ∨ ∃ g, a = some ⟨g, 0, none⟩ ∧ g < w.heap.size ∧ w.rangeAt g 0 (stsC l)
theorem StAt.below {w w' : World} {a : Option Addr} {l : List Stp} (h : StAt w a l) (b : Below w.heap.size w w') : StAt w' a l := by
  rcases h with h | ⟨g, rfl, h1, h2⟩
  · exact .inl h
  · exact .inr ⟨g, rfl, Nat.lt_of_lt_of_le h1 b.size, rangeAt_below h2 b h1⟩
def SlPost (w : World) (l : List Stp) (e : Ending) (w' : World) : Prop := ∃ a cap, e = .returned (.slice a l.length cap) ∧ StAt w' a l ∧ Below w.heap.size w w'
theorem slForm {w : World} {l : List Stp} {e : Ending} {w' : World} (h : StpPost w l e w') : SlPost w l e w' := by
  obtain ⟨v, rfl, hs, b⟩ := h
  obtain ⟨a, cap, rfl, h2⟩ := stsForm hs
  refine ⟨a, cap, rfl, ?_, b⟩
  rcases h2 with h2 | ⟨g, rfl, _, h3, h4⟩
  · exact .inl h2
  · exact .inr ⟨g, rfl, h3, h4⟩
variable {fa da : Option Addr} {fc dc : Nat} {bs : List Bk} {dk : List Int}
theorem iPut (k v : Int) (w : World) (h : SAt w fa bs da dk) (h4 : bs.length ≤ 4) (h6 : dk.length ≤ 6) :
    Calls Try.prog 37 #[.agg #[.slice fa bs.length fc, .slice da dk.length dc], .int .i64 k, .int .i64 v] w fun e w' => SlPost w (putS bs dk k v) e w' := (implPut_any fa fc bs da dc dk k v w h (by omega) (by omega)).mono fun _ _ q => slForm q
theorem sPut (k v : Int) (w : World) (h : SAt w fa bs da dk) (h4 : bs.length ≤ 4) (h6 : dk.length ≤ 6) (hp : ∀ b ∈ bs, b.ps.length ≤ 4) :
    Calls Try.prog 38 #[.agg #[.slice fa bs.length fc, .slice da dk.length dc], .int .i64 k, .int .i64 v] w fun e w' => SlPost w (putS bs dk k v) e w' := (specPut_any fa fc bs da dc dk k v w h (by omega) (fun b hb => by have := hp b hb; omega) (by omega)).mono fun _ _ q => slForm q
/-- How many of the first j steps wipe. -/
def wpN (l : List Stp) (j : Nat) : Nat := ((l.take j).filter fun x => x.kind == 2).length
theorem wpN_succ (l : List Stp) (j : Nat) (hj : j < l.length) : wpN l (j + 1) = wpN l j + if l[j].kind = 2 then 1 else 0 := by
  unfold wpN
  rw [List.take_succ_eq_append_getElem hj, List.filter_append, List.length_append]
  by_cases e : l[j].kind = 2
  · rw [if_pos e]; simp [e]
  · rw [if_neg e]; simp [e]
theorem wpN_le (l : List Stp) (j : Nat) : wpN l j ≤ j := by
  unfold wpN
  refine Nat.le_trans (List.length_filter_le _ _) ?_
  rw [List.length_take]; omega
theorem put_form {a v : Int} (hne : putS bs dk a v ≠ []) : stB bs dk = true ∧ roomO bs = true ∧ recB 1 (mostB bs + 1) a v = true ∧ putS bs dk a v = roomL bs ++ [writeS (roomB bs) ⟨1, mostB bs + 1, a, v⟩] := by
  unfold putS at hne ⊢
  cases hs : stB bs dk
  · rw [hs] at hne; exact absurd rfl hne
  rw [hs] at hne
  rw [if_pos rfl] at hne ⊢
  unfold writeP at hne ⊢
  cases hc : roomO bs && recB 1 (mostB bs + 1) a v
  · rw [hc] at hne; exact absurd rfl hne
  · rw [Bool.and_eq_true] at hc
    exact ⟨rfl, hc.1, hc.2, rfl⟩
theorem tell_kind (ps : List Pg) : ∀ x ∈ tellP bs ps, x.kind = 1 := fun x hx => by
  unfold tellP at hx
  rw [List.mem_filterMap] at hx
  obtain ⟨p, _, e⟩ := hx
  split at e
  · simp at e; subst e; rfl
  · cases e
theorem put_wipes {a v : Int} (hne : putS bs dk a v ≠ []) : ((putS bs dk a v).length = 1 ↔ wpN (putS bs dk a v) (putS bs dk a v).length = 0) ∧ wpN (putS bs dk a v) (putS bs dk a v).length ≤ 1 := by
  obtain ⟨_, _, _, e⟩ := put_form hne
  rw [e]
  unfold wpN
  rw [List.take_length]
  unfold roomL
  split
  · simp [writeS]
  · have h0 : ((tellP bs (bs.getD (oldB bs) zBk).ps).filter fun x => x.kind == 2) = [] := List.filter_eq_nil_iff.2 fun x hx => by rw [tell_kind _ x hx]; decide
    rw [List.filter_append, List.filter_append, h0]
    simp [writeS, wipeS]
theorem put_len (a v : Int) : (putS bs dk a v).length ≤ 6 := by
  unfold putS
  cases hs : stB bs dk
  · simp
  · have hok := (st_parts hs).1
    rw [if_pos rfl]
    unfold writeP
    split
    · have := roomL_len bs (ok_fours hok) (ok_len hok)
      rw [List.length_append]; simp; omega
    · simp
theorem flush_len (a : Int) : (flushS bs dk a).length ≤ 7 := by
  unfold flushS
  cases hs : stB bs dk
  · simp
  · exact flushP_len bs dk a (st_parts hs).1
theorem put_can {a v : Int} (hs : stB bs dk = true) (h1 : 1 ≤ a) (h6 : a ≤ 6) (h0 : 0 ≤ v) (h9 : v ≤ 9) : decide (0 < (putS bs dk a v).length) = (decide (nextR bs ≤ 600) && ((fopR bs).2 || decide ((bs.getD (oldN bs 3) zBk).wn < 200))) := by
  have hok := (st_parts hs).1
  obtain ⟨e, n1, _⟩ := next_ok hok
  have hr : recB 1 (mostB bs + 1) a v = decide (nextR bs ≤ 600) := by
    rw [← e]
    rw [Bool.eq_iff_iff, decide_eq_true_iff]
    simp [recB, numB, inB]
    omega
  unfold putS
  rw [if_pos hs]
  unfold writeP
  rw [hr, fop_ok hok]
  have ho : roomO bs = ((openR bs).2 || decide ((bs.getD (oldN bs 3) zBk).wn < 200)) := rfl
  rw [← ho]
  cases roomO bs <;> cases decide (nextR bs ≤ 600) <;> simp
theorem here : True := trivial
end Go.Proofs.Ytkikeapfjpnkgaa.Pw
