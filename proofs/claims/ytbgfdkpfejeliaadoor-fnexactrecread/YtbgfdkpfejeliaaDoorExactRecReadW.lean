/-
  The walk of the law FnExactRecRead: whatever it is given it returns true, and nothing that was there turns.
-/
import Derived.Test.YtbgfdkpfejeliaaDoorSpecRead
namespace Go.Proofs.YtbgfdkpfejeliaaDoor.ExactRecRead
open Go.ChangeShapes Go.WideShapes Go.ChangeAt Go.RowKit Pick Draw DrawText OkA Dec RText SpecText Plain Kit Words RRead ReadAny SpecRead
set_option linter.unusedVariables false

theorem eq_same (k s x v : Int) (w : World) : Calls Tryd.prog 18 #[.agg #[.int .i64 k, .int .i64 s, .int .i64 x, .int .i64 v], .agg #[.int .i64 k, .int .i64 s, .int .i64 x, .int .i64 v]] w fun e w' => e = .returned (.bool true) ∧ Below w.heap.size w w' := by
  go_enter Tryd.func18, Tryd.ntmps18
  go_wp2
  go_ret
  exact ⟨rfl, by go_grown⟩

set_option maxHeartbeats 2000000 in
theorem walk (t : ByteArray) (w : World) (hs : t.size ≤ maxLen) (hE : Env w) :
    Calls Tryd.prog 9 #[.string t] w fun e w' => e = .returned (.bool true) ∧ Below w.heap.size w w' := by
  unfold maxLen at hs
  by_cases c0 : (1048576 : Int) < (t.size : Int)
  · clear hE
    go_enter Tryd.func9, Tryd.ntmps9
    go_wp2
    go_ret
    exact ⟨rfl, Below.refl _ _⟩
  have HE : Hid (Env w) := hE
  clear hE
  go_enter Tryd.func9, Tryd.ntmps9
  go_wp2_with fail
  refine (spec_read _ _).mono ?_
  rintro e w1 ⟨k, s, x, v, ok, rfl, told1, bw1⟩
  have T1 : Hid _ := told1
  clear told1
  go_wp2_with fail
  refine (read_any _ _ (HE.out.below (below_al bw1 _))).mono ?_
  rintro e w2 ⟨k', s', x', v', ok', rfl, told2, b2⟩
  obtain ⟨rfl, rfl, rfl, rfl, rfl⟩ := told_one T1.out told2
  have RA := (Rec4.new w1 k s x v _).moved b2
  have bw2 := below_step (below_al bw1 _) b2
  clear told2 b2 T1 HE
  have zA := RA.lt
  obtain ⟨p0, p1, p2, p3⟩ := RA
  go_wp2_with fail
  refine (eq_same _ _ _ _ _).mono ?_
  rintro e w3 ⟨rfl, b3⟩
  have bw3 := below_step (below_al bw2 _) b3
  clear b3 p0 p1 p2 p3
  cases ok
  all_goals
    go_wp2_with fail
    go_ret
    exact ⟨rfl, bw3⟩
end Go.Proofs.YtbgfdkpfejeliaaDoor.ExactRecRead
