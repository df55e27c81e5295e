/-
  The walk of the law FnRecBack: whatever it is given it returns true, and nothing that was there turns.
-/
import Derived.Test.YtbgfdkpfejeliaaDoorReadAny
namespace Go.Proofs.YtbgfdkpfejeliaaDoor.RecBack
open Go.ChangeShapes Go.WideShapes Go.ChangeAt Go.RowKit Pick Draw DrawText OkA Dec RText SpecText Plain Kit Words RRead ReadAny
set_option linter.unusedVariables false

set_option maxHeartbeats 2000000 in
theorem walk (a0 : Option Addr) (len0 cap0 : Nat) (z0 : List Int) (w : World) (h0 : IsRow .u8 w a0 len0 cap0 z0) (hE : Env w) :
    Calls Tryd.prog 3 #[.slice a0 len0 cap0] w fun e w' => e = .returned (.bool true) ∧ Below w.heap.size w w' := by
  by_cases c0 : (1048576 : Int) < (len0 : Int)
  · clear h0 hE
    go_enter Tryd.func3, Tryd.ntmps3
    go_wp2
    go_ret
    exact ⟨rfl, Below.refl _ _⟩
  have HE : Hid (Env w) := hE
  clear hE
  go_enter Tryd.func3, Tryd.ntmps3
  go_wp2_with fail
  refine (drawText_any _ a0 len0 cap0 z0 h0).mono ?_
  rintro e w1 ⟨k, s, x, v, rfl, bw1⟩
  clear h0
  go_wp2_with fail
  refine (text_tab _ _ _ _ _ ((HE.out.below (below_al bw1 _)).1)).mono ?_
  rintro e w2 ⟨rfl, b2⟩
  have RA := (Rec4.new w1 k s x v _).moved b2
  have bw2 := below_step (below_al bw1 _) b2
  clear b2
  have rA := RA
  obtain ⟨p0, p1, p2, p3⟩ := rA
  go_wp2_with fail
  refine (spec_any _ _ _ _ _).mono ?_
  rintro e w3 ⟨rfl, b3⟩
  have bw3 := below_step bw2 b3
  replace RA := RA.moved b3
  clear b3 p0 p1 p2 p3
  have rA := RA
  obtain ⟨p0, p1, p2, p3⟩ := rA
  by_cases hA : recB k s x v = true
  rotate_left
  · have hA' : recB k s x v = false := by simpa using hA
    have HA : Hid (recS k s x v = ⟨#[]⟩) := recS_no hA'
    rw [recS_no hA']
    clear hA hA'
    go_wp2_with fail
    refine (spec_any _ _ _ _ _).mono ?_
    rintro e w7 ⟨rfl, b7⟩
    rw [HA.out]
    have bw7 := below_step bw3 b7
    clear b7 p0 p1 p2 p3 RA
    go_wp2_with fail
    go_ret
    exact ⟨rfl, bw7⟩
  obtain ⟨n1, n1'⟩ := ne_nil (text_ne k s x v)
  have HA : Hid (recB k s x v = true) := hA
  rw [recS_ok hA]
  clear hA
  go_wp2_with fail
  refine (read_any _ _ (HE.out.below bw3)).mono ?_
  rintro e w4 ⟨k', s', x', v', ok, rfl, told, b4⟩
  obtain ⟨rfl, rfl, rfl, rfl, rfl⟩ : k = k' ∧ s = s' ∧ x = x' ∧ v = v' ∧ ok = true := by
    rcases told with ⟨h1, h2, h3⟩ | ⟨_, _, _, _, _, h⟩
    · obtain ⟨e1, e2, e3, e4⟩ := textB_inj HA.out h2 h3
      exact ⟨e1, e2, e3, e4, h1⟩
    · exact absurd rfl (h k s x v HA.out)
  have bw4 := below_step bw3 b4
  replace RA := RA.moved b4
  clear told b4 p0 p1 p2 p3
  have zA := RA.lt
  have rA := RA
  obtain ⟨p0, p1, p2, p3⟩ := rA
  go_wp2_with fail
  refine (recOk_any _ _ _ _ _).mono ?_
  rintro e w5 ⟨rfl, b5⟩
  rw [HA.out]
  have bw5 := below_step (below_al bw4 _) b5
  clear b5 HE RA p0 p1 p2 p3 n1 n1' HA
  go_wp2_with fail
  go_ret
  exact ⟨rfl, bw5⟩
end Go.Proofs.YtbgfdkpfejeliaaDoor.RecBack
