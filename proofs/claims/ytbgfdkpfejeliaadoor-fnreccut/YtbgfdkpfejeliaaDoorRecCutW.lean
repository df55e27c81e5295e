/-
  The walk of the law FnRecCut: whatever it is given it returns true, and nothing that was there turns.
-/
import Derived.Test.YtbgfdkpfejeliaaDoorReadAny
namespace Go.Proofs.YtbgfdkpfejeliaaDoor.RecCut
open Go.ChangeShapes Go.WideShapes Go.ChangeAt Go.RowKit Pick Draw DrawText OkA Dec RText SpecText Plain Kit Words RRead ReadAny
set_option linter.unusedVariables false

theorem no_behind {t : ByteArray} {k s a v k' s' a' v' : Int} (h : t = textB k s a v) (h' : recB k' s' a' v' = true) : t ++ ⟨#[32]⟩ ≠ textB k' s' a' v' := fun e => by
  have c := congrArg (fun z : ByteArray => z.data.toList.count 32) e
  simp only [ByteArray.data_append, Array.toList_append, List.count_append] at c
  rw [count_text h, text_list, text_blanks] at c
  exact absurd c (by decide)
theorem no_ahead {t : ByteArray} {k s a v k' s' a' v' : Int} (h : t = textB k s a v) (h' : recB k' s' a' v' = true) : ⟨#[32]⟩ ++ t ≠ textB k' s' a' v' := fun e => by
  have c := congrArg (fun z : ByteArray => z.data.toList.count 32) e
  simp only [ByteArray.data_append, Array.toList_append, List.count_append] at c
  rw [count_text h, text_list, text_blanks] at c
  exact absurd c (by decide)
theorem told_no {t : ByteArray} {k s a v : Int} {ok : Bool} (h : ReadAny.Told t k s a v ok) (hn : ∀ k s a v, recB k s a v = true → t ≠ textB k s a v) : ok = false := by
  rcases h with ⟨_, h2, h3⟩ | ⟨h, _⟩
  · exact absurd h3 (hn _ _ _ _ h2)
  · exact h

set_option maxHeartbeats 2000000 in
theorem walk (a0 : Option Addr) (len0 cap0 : Nat) (z0 : List Int) (w : World) (h0 : IsRow .u8 w a0 len0 cap0 z0) (hE : Env w) :
    Calls Tryd.prog 6 #[.slice a0 len0 cap0] w fun e w' => e = .returned (.bool true) ∧ Below w.heap.size w w' := by
  by_cases c0 : (1048576 : Int) < (len0 : Int)
  · clear h0 hE
    go_enter Tryd.func6, Tryd.ntmps6
    go_wp2
    go_ret
    exact ⟨rfl, Below.refl _ _⟩
  have HE : Hid (Env w) := hE
  clear hE
  go_enter Tryd.func6, Tryd.ntmps6
  go_wp2_with fail
  refine (drawText_any _ a0 len0 cap0 z0 h0).mono ?_
  rintro e w1 ⟨k, s, x, v, rfl, bw1⟩
  clear h0
  go_wp2_with fail
  refine (text_tab _ _ _ _ _ ((HE.out.below (below_al bw1 _)).1)).mono ?_
  rintro e w2 ⟨rfl, b2⟩
  have RA := (Rec4.new w1 k s x v _).moved b2
  have bw2 := below_step (below_al bw1 _) b2
  clear b2
  have rA := RA
  obtain ⟨p0, p1, p2, p3⟩ := rA
  go_wp2_with fail
  refine (spec_any _ _ _ _ _).mono ?_
  rintro e w3 ⟨rfl, b3⟩
  have bw3 := below_step bw2 b3
  replace RA := RA.moved b3
  clear b3 p0 p1 p2 p3
  have rA := RA
  obtain ⟨p0, p1, p2, p3⟩ := rA
  by_cases hA : recB k s x v = true
  rotate_left
  · have hA' : recB k s x v = false := by simpa using hA
    have HA : Hid (recS k s x v = ⟨#[]⟩) := recS_no hA'
    rw [recS_no hA']
    clear hA hA'
    go_wp2_with fail
    refine (spec_any _ _ _ _ _).mono ?_
    rintro e w7 ⟨rfl, b7⟩
    rw [HA.out]
    have bw7 := below_step bw3 b7
    clear b7 p0 p1 p2 p3 RA
    go_wp2_with fail
    go_ret
    exact ⟨rfl, bw7⟩
  obtain ⟨n1, n1'⟩ := ne_nil (text_ne k s x v)
  have HA : Hid (recB k s x v = true) := hA
  rw [recS_ok hA]
  clear hA
  have hz : 1 ≤ (textB k s x v).size := by simp only [textB, ByteArray.size_append, word_size]; omega
  have HZ : Hid ((textB k s x v).size ≤ 20) := text_size20 HA.out
  have hz2 : (textB k s x v).size ≤ 20 := HZ.out
  have HI : Hid (∀ k' s' x' v', recB k' s' x' v' = true → textB k s x v = textB k' s' x' v' → k = k' ∧ s = s' ∧ x = x' ∧ v = v') := fun k' s' x' v' h e => textB_inj HA.out h e
  have NB : Hid (∀ k' s' x' v', recB k' s' x' v' = true → textB k s x v ++ ⟨#[32]⟩ ≠ textB k' s' x' v') := fun _ _ _ _ h => no_behind rfl h
  have NA : Hid (∀ k' s' x' v', recB k' s' x' v' = true → ⟨#[32]⟩ ++ textB k s x v ≠ textB k' s' x' v') := fun _ _ _ _ h => no_ahead rfl h
  clear HA
  generalize ht0 : textB k s x v = t0 at *
  have HX : Hid (textB k s x v = t0) := ht0
  have hz3 : (t0.extract 0 (t0.size - 1)).size = t0.size - 1 := by simp
  have HQ : Hid (t0.extract 0 (t0.size - 1) ≠ t0) := fun e => by rw [e] at hz3; omega
  clear ht0 hz3 HI
  have ka := add_ok (x := t0) (y := ⟨#[32]⟩) (by omega) (by decide)
  have kb := add_ok (x := ⟨#[32]⟩) (y := t0) (by decide) (by omega)
  go_wp2_with fail
  refine (read_any _ _ (HE.out.below bw3)).mono ?_
  rintro e w4 ⟨k', s', x', v', one, rfl, told1, b4⟩
  have TD : Hid (ReadAny.Told (t0.extract 0 (t0.size - 1)) k' s' x' v' one) := told1
  have bw4 := below_step bw3 b4
  replace RA := RA.moved b4
  clear told1 b4 p0 p1 p2 p3
  go_wp2_with fail
  refine (read_any _ _ (HE.out.below (below_al bw4 _))).mono ?_
  rintro e w5 ⟨k2, s2, x2, v2, two, rfl, told2, b5⟩
  obtain rfl : two = false := told_no told2 NB.out
  have bw5 := below_step (below_al bw4 _) b5
  have RB := (Rec4.new w4 k' s' x' v' _).moved b5
  replace RA := (RA.alloc _).moved b5
  clear told2 b5 NB
  go_wp2_with fail
  refine (read_any _ _ (HE.out.below (below_al bw5 _))).mono ?_
  rintro e w6 ⟨k3, s3, x3, v3, three, rfl, told3, b6⟩
  obtain rfl : three = false := told_no told3 NA.out
  have bw6 := below_al (below_step (below_al bw5 _) b6) (.cells #[.int .i64 k3, .int .i64 s3, .int .i64 x3, .int .i64 v3] 24)
  replace RB := (RB.alloc _).moved b6
  replace RA := (RA.alloc _).moved b6
  clear told3 b6 NA HE ka kb
  have zA := RA.lt
  have zB := RB.lt
  obtain ⟨p0, p1, p2, p3⟩ := RA
  obtain ⟨q0, q1, q2, q3⟩ := RB
  cases one
  · clear HX HQ TD
    go_wp2_with fail
    go_ret
    exact ⟨rfl, bw6⟩
  · have hne : ¬ (k' = k ∧ s' = s ∧ x' = x ∧ v' = v) := fun e => by
      obtain ⟨rfl, rfl, rfl, rfl⟩ := e
      rcases TD.out with ⟨_, _, h3⟩ | ⟨h, _⟩
      · exact HQ.out (h3.trans HX.out)
      · exact absurd h (by decide)
    clear HX HQ TD
    by_cases e1 : k' = k
    · subst e1
      by_cases e2 : s' = s
      · subst e2
        by_cases e3 : x' = x
        · subst e3
          have f1 : (v' == v) = false := by simpa using hne
          have f2 : ¬ v' = v := by simpa using hne
          clear hne
          go_wp2_with fail
          go_ret
          exact ⟨rfl, bw6⟩
        · have f1 : (x' == x) = false := by simpa using e3
          clear hne
          go_wp2_with fail
          go_ret
          exact ⟨rfl, bw6⟩
      · have f1 : (s' == s) = false := by simpa using e2
        clear hne
        go_wp2_with fail
        go_ret
        exact ⟨rfl, bw6⟩
    · have f1 : (k' == k) = false := by simpa using e1
      clear hne
      go_wp2_with fail
      go_ret
      exact ⟨rfl, bw6⟩
end Go.Proofs.YtbgfdkpfejeliaaDoor.RecCut
