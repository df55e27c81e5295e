/-
  The walk of the law FnRecOne: whatever it is given it returns true, and nothing that was there turns.
-/
import Derived.Test.YtbgfdkpfejeliaaDoorKit
namespace Go.Proofs.YtbgfdkpfejeliaaDoor.RecOne
open Go.ChangeShapes Go.WideShapes Go.ChangeAt Go.RowKit Pick Draw DrawText OkA Dec RText SpecText Plain Kit
set_option linter.unusedVariables false

set_option maxHeartbeats 2000000 in
theorem walk (a0 : Option Addr) (len0 cap0 : Nat) (z0 : List Int) (a1 : Option Addr) (len1 cap1 : Nat) (z1 : List Int) (w : World) (h0 : IsRow .u8 w a0 len0 cap0 z0) (h1 : IsRow .u8 w a1 len1 cap1 z1) (hT : Tab w) :
    Calls Tryd.prog 5 #[.slice a0 len0 cap0, .slice a1 len1 cap1] w fun e w' => e = .returned (.bool true) ∧ Below w.heap.size w w' := by
  by_cases c0 : (1048576 : Int) < (len0 : Int)
  · clear h0 h1 hT
    go_enter Tryd.func5, Tryd.ntmps5
    go_wp2
    go_ret
    exact ⟨rfl, Below.refl _ _⟩
  by_cases c1 : (1048576 : Int) < (len1 : Int)
  · clear h0 h1 hT
    go_enter Tryd.func5, Tryd.ntmps5
    go_wp2
    go_ret
    exact ⟨rfl, Below.refl _ _⟩
  have HT : Hid (Tab w) := hT
  clear hT
  go_enter Tryd.func5, Tryd.ntmps5
  go_wp2_with fail
  refine (drawText_any _ a0 len0 cap0 z0 h0).mono ?_
  rintro e w1 ⟨k, s, x, v, rfl, b1⟩
  have bw1 := b1
  go_wp2_with fail
  refine (drawText_any _ a1 len1 cap1 z1 (isRow_below h1 (below_al bw1 _))).mono ?_
  rintro e w2 ⟨k', s', x', v', rfl, b2⟩
  have rA := (Rec4.new w1 k s x v _).moved b2
  have bw2 := below_step (below_al bw1 _) b2
  clear h0 h1 b1 b2
  obtain ⟨p0, p1, p2, p3⟩ := rA
  have zA : w1.heap.size < w2.heap.size := Rec4.lt ⟨p0, p1, p2, p3⟩
  go_wp2_with fail
  refine (text_tab _ _ _ _ _ (HT.out.below (below_al bw2 _))).mono ?_
  rintro e w3 ⟨rfl, b3⟩
  have rA := (Rec4.alloc (show Rec4 w2 w1.heap.size k s x v from ⟨p0, p1, p2, p3⟩) _).moved b3
  have rB := (Rec4.new w2 k' s' x' v' _).moved b3
  have bw3 := below_step (below_al bw2 _) b3
  clear b3 p0 p1 p2 p3
  have RA := rA
  have RB := rB
  obtain ⟨p0, p1, p2, p3⟩ := rA
  obtain ⟨q0, q1, q2, q3⟩ := rB
  go_wp2_with fail
  refine (text_tab _ _ _ _ _ (HT.out.below bw3)).mono ?_
  rintro e w4 ⟨rfl, b4⟩
  have bw4 := below_step bw3 b4
  replace RA := RA.moved b4
  replace RB := RB.moved b4
  clear b4 p0 p1 p2 p3 q0 q1 q2 q3 HT
  have rA := RA
  obtain ⟨p0, p1, p2, p3⟩ := rA
  go_wp2_with fail
  refine (spec_any _ _ _ _ _).mono ?_
  rintro e w5 ⟨rfl, b5⟩
  have bw5 := below_step bw4 b5
  replace RA := RA.moved b5
  replace RB := RB.moved b5
  clear b5 p0 p1 p2 p3
  have rB := RB
  obtain ⟨q0, q1, q2, q3⟩ := rB
  go_wp2_with fail
  refine (spec_any _ _ _ _ _).mono ?_
  rintro e w6 ⟨rfl, b6⟩
  have bw6 := below_step bw5 b6
  replace RA := RA.moved b6
  replace RB := RB.moved b6
  clear b6 q0 q1 q2 q3
  have rA := RA
  obtain ⟨p0, p1, p2, p3⟩ := rA
  have rB := RB
  obtain ⟨q0, q1, q2, q3⟩ := rB
  by_cases hA : recB k s x v = true
  · by_cases hB : recB k' s' x' v' = true
    · rw [recS_ok hA, recS_ok hB]
      obtain ⟨n1, n1'⟩ := ne_nil (text_ne k s x v)
      obtain ⟨n2, n2'⟩ := ne_nil (text_ne k' s' x' v')
      by_cases hE : k = k' ∧ s = s' ∧ x = x' ∧ v = v'
      · obtain ⟨rfl, rfl, rfl, rfl⟩ := hE
        generalize textB k s x v = t at *
        clear hA hB RA RB n2 n2'
        go_wp2_with fail
        go_ret
        exact ⟨rfl, bw6⟩
      · obtain ⟨n3, n3'⟩ := ne_list fun e => hE (textB_inj hA hB e)
        generalize textB k s x v = t at *
        generalize textB k' s' x' v' = t' at *
        clear hA hB RA RB
        have hE' : ¬ k = k' ∨ ¬ s = s' ∨ ¬ x = x' ∨ ¬ v = v' := by
          by_cases e1 : k = k' <;> by_cases e2 : s = s' <;> by_cases e3 : x = x' <;> by_cases e4 : v = v' <;> simp_all
        clear hE
        by_cases e1 : k = k'
        · subst e1
          by_cases e2 : s = s'
          · subst e2
            by_cases e3 : x = x'
            · subst e3
              by_cases e4 : v = v'
              · simp_all
              · have f1 : (v == v') = false := by simpa using e4
                clear hE'
                go_wp2_with fail
                go_ret
                exact ⟨rfl, bw6⟩
            · have f1 : (x == x') = false := by simpa using e3
              clear hE'
              go_wp2_with fail
              go_ret
              exact ⟨rfl, bw6⟩
          · have f1 : (s == s') = false := by simpa using e2
            clear hE'
            go_wp2_with fail
            go_ret
            exact ⟨rfl, bw6⟩
        · have f1 : (k == k') = false := by simpa using e1
          clear hE'
          go_wp2_with fail
          go_ret
          exact ⟨rfl, bw6⟩
    · have hB' : recB k' s' x' v' = false := by simpa using hB
      have HB : Hid (recS k' s' x' v' = ⟨#[]⟩) := recS_no hB'
      rw [recS_no hB', recS_ok hA]
      have HA : Hid (recS k s x v = textB k s x v) := recS_ok hA
      obtain ⟨n1, n1'⟩ := ne_nil (text_ne k s x v)
      clear hA hB hB'
      go_wp2_with fail
      refine (spec_any _ _ _ _ _).mono ?_
      rintro e w7 ⟨rfl, b7⟩
      rw [HA.out]
      have bw7 := below_step bw6 b7
      replace RB := RB.moved b7
      clear b7 p0 p1 p2 p3 q0 q1 q2 q3
      have rB := RB
      obtain ⟨q0, q1, q2, q3⟩ := rB
      go_wp2_with fail
      refine (spec_any _ _ _ _ _).mono ?_
      rintro e w8 ⟨rfl, b8⟩
      rw [HB.out]
      have bw8 := below_step bw7 b8
      clear b8 RA RB q0 q1 q2 q3
      go_wp2_with fail
      go_ret
      exact ⟨rfl, bw8⟩
  · have hA' : recB k s x v = false := by simpa using hA
    have HA : Hid (recS k s x v = ⟨#[]⟩) := recS_no hA'
    rw [recS_no hA']
    clear hA hA'
    go_wp2_with fail
    refine (spec_any _ _ _ _ _).mono ?_
    rintro e w7 ⟨rfl, b7⟩
    rw [HA.out]
    have bw7 := below_step bw6 b7
    replace RB := RB.moved b7
    clear b7 p0 p1 p2 p3 q0 q1 q2 q3
    have rB := RB
    obtain ⟨q0, q1, q2, q3⟩ := rB
    go_wp2_with fail
    refine (spec_any _ _ _ _ _).mono ?_
    rintro e w8 ⟨rfl, b8⟩
    have bw8 := below_step bw7 b8
    clear b8 RA RB q0 q1 q2 q3
    generalize recS k' s' x' v' = t'
    go_wp2_with fail
    go_ret
    exact ⟨rfl, bw8⟩
end Go.Proofs.YtbgfdkpfejeliaaDoor.RecOne
