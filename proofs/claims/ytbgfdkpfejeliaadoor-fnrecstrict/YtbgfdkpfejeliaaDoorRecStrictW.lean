/-
  The walk of the law FnRecStrict: whatever it is given it returns true, and nothing that was there turns.
-/
import Derived.Test.YtbgfdkpfejeliaaDoorSpecRead
import Derived.Test.YtbgfdkpfejeliaaDoorDrawRead
namespace Go.Proofs.YtbgfdkpfejeliaaDoor.RecStrict
open Go.ChangeShapes Go.WideShapes Go.ChangeAt Go.RowKit Pick Draw DrawText OkA Dec RText SpecText Plain Kit Words RRead ReadAny SpecRead DrawRead
set_option linter.unusedVariables false

set_option maxHeartbeats 2000000 in
theorem walk (a0 : Option Addr) (len0 cap0 : Nat) (z0 : List Int) (w : World) (h0 : IsRow .u8 w a0 len0 cap0 z0) (hE : Env w) :
    Calls Tryd.prog 4 #[.slice a0 len0 cap0] w fun e w' => e = .returned (.bool true) ∧ Below w.heap.size w w' := by
  by_cases c0 : (1048576 : Int) < (len0 : Int)
  · clear h0 hE
    go_enter Tryd.func4, Tryd.ntmps4
    go_wp2
    go_ret
    exact ⟨rfl, Below.refl _ _⟩
  have HE : Hid (Env w) := hE
  clear hE
  go_enter Tryd.func4, Tryd.ntmps4
  go_wp2_with fail
  refine (drawRead_any _ a0 len0 cap0 z0 h0).mono ?_
  rintro e w0 ⟨t, rfl, bw0⟩
  clear h0
  go_wp2_with fail
  refine (spec_read _ _).mono ?_
  rintro e w1 ⟨k, s, x, v, ok, rfl, told1, b1⟩
  have T1 : Hid _ := told1
  have bw1 := below_step bw0 b1
  clear told1 b1
  go_wp2_with fail
  refine (read_any _ _ (HE.out.below (below_al bw1 _))).mono ?_
  rintro e w2 ⟨k', s', x', v', ok', rfl, told2, b2⟩
  obtain ⟨rfl, rfl, rfl, rfl, rfl⟩ := told_one T1.out told2
  have RA := (Rec4.new w1 k s x v _).moved b2
  have bw2 := below_step (below_al bw1 _) b2
  clear told2 b2
  have zA := RA.lt
  obtain ⟨p0, p1, p2, p3⟩ := RA
  cases ok
  · clear T1 HE
    go_wp2_with fail
    go_ret
    exact ⟨rfl, below_al bw2 _⟩
  · obtain ⟨hB, rfl⟩ : recB k s x v = true ∧ t = textB k s x v := by
      rcases T1.out with ⟨_, h2, h3⟩ | ⟨h, _⟩
      · exact ⟨h2, h3⟩
      · exact absurd h (by decide)
    have HB : Hid (recB k s x v = true) := hB
    have HS : Hid (recS k s x v = textB k s x v) := recS_ok hB
    clear hB T1
    generalize textB k s x v = t at *
    go_wp2_with fail
    refine (recOk_any _ _ _ _ _).mono ?_
    rintro e w3 ⟨rfl, b3⟩
    rw [HB.out]
    have RB := (Rec4.new w2 k s x v _).moved b3
    have bw3 := below_step (below_al bw2 _) b3
    clear b3 p0 p1 p2 p3
    obtain ⟨p0, p1, p2, p3⟩ := RB
    go_wp2_with fail
    refine (text_tab _ _ _ _ _ ((HE.out.below bw3).1)).mono ?_
    rintro e w4 ⟨rfl, b4⟩
    rw [HS.out]
    have bw4 := below_step bw3 b4
    clear b4 p0 p1 p2 p3 HE HB HS
    go_wp2_with fail
    go_ret
    exact ⟨rfl, bw4⟩
end Go.Proofs.YtbgfdkpfejeliaaDoor.RecStrict
