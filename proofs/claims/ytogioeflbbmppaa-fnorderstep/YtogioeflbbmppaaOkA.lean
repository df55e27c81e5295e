/-
  The contracts of the functions that tell whether a record is ok, the program's and the specification's, for every record of four ints.
-/
import Derived.Test.YtogioeflbbmppaaRows
import Derived.WalkKit
import Derived.ProofKit
import Derived.OpenShut
import Derived.Below
import Derived.Handy
namespace Go.Proofs.Ytogioeflbbmppaa.OkA
open Go.ChangeShapes Go.WideShapes Go.ChangeAt Go.RowKit
set_option linter.unusedVariables false

def inB (n lo hi : Int) : Bool := decide (lo ≤ n ∧ n ≤ hi)
def numB (s a v : Int) : Bool := inB s 1 600 && inB a 1 6 && inB v 0 9
def recB (k s a v : Int) : Bool := inB k 1 2 && numB s a v

theorem inB_t {n lo hi : Int} (h : lo ≤ n) (g : n ≤ hi) : inB n lo hi = true := by simp [inB, h, g]
theorem inB_f1 {n lo hi : Int} (h : ¬ lo ≤ n) : inB n lo hi = false := by simp [inB, h]
theorem inB_f2 {n lo hi : Int} (h : ¬ n ≤ hi) : inB n lo hi = false := by simp [inB, h]

theorem l6In_any (n lo hi : Int) (w : World) :
    Calls Try.prog 63 #[.int .i64 n, .int .i64 lo, .int .i64 hi] w fun e w' => e = .returned (.bool (inB n lo hi)) ∧ w' = w := by
  by_cases h1 : lo ≤ n
  · by_cases h2 : n ≤ hi
    · have e := inB_t h1 h2
      go_enter Try.func63, Try.ntmps63
      go_wp2
      go_ret
      exact ⟨by first | rfl | (rw [e]; rfl), rfl⟩
    · have e := inB_f2 (lo := lo) h2
      go_enter Try.func63, Try.ntmps63
      go_wp2
      go_ret
      exact ⟨by first | rfl | (rw [e]; rfl), rfl⟩
  · have e := inB_f1 (hi := hi) h1
    go_enter Try.func63, Try.ntmps63
    go_wp2
    go_ret
    exact ⟨by first | rfl | (rw [e]; rfl), rfl⟩

theorem within_any (n lo hi : Int) (w : World) :
    Calls Try.prog 77 #[.int .i64 n, .int .i64 lo, .int .i64 hi] w fun e w' => e = .returned (.bool (inB n lo hi)) ∧ w' = w := by
  by_cases h1 : lo ≤ n
  · by_cases h2 : n ≤ hi
    · have e := inB_t h1 h2
      go_enter Try.func77, Try.ntmps77
      go_wp2
      go_ret
      exact ⟨by first | rfl | (rw [e]; rfl), rfl⟩
    · have e := inB_f2 (lo := lo) h2
      go_enter Try.func77, Try.ntmps77
      go_wp2
      go_ret
      exact ⟨by first | rfl | (rw [e]; rfl), rfl⟩
  · have e := inB_f1 (hi := hi) h1
    go_enter Try.func77, Try.ntmps77
    go_wp2
    go_ret
    exact ⟨by first | rfl | (rw [e]; rfl), rfl⟩

def recV (k s a v : Int) : Value := .agg #[.int .i64 k, .int .i64 s, .int .i64 a, .int .i64 v]

set_option maxHeartbeats 400000 in
theorem specOk_any (k s a v : Int) (w : World) :
    Calls Try.prog 33 #[.agg #[.int .i64 k, .int .i64 s, .int .i64 a, .int .i64 v]] w fun e w' => e = .returned (.bool (recB k s a v)) ∧ Below w.heap.size w w' := by
  have e : recB k s a v = (inB k 1 2 && (inB s 1 600 && inB a 1 6 && inB v 0 9)) := rfl
  cases h1 : inB k 1 2
  rotate_left
  cases h2 : inB s 1 600
  rotate_left
  cases h3 : inB a 1 6
  rotate_left
  cases h4 : inB v 0 9
  all_goals
    simp only [*, Bool.and_true, Bool.and_false, Bool.false_and] at e
    go_enter Try.func33, Try.ntmps33
    go_wp2_with (go_at_call 63; refine (l6In_any _ _ _ _).mono ?_; rintro e w' ⟨rfl, rfl⟩)
    go_ret
    exact ⟨by first | rfl | (rw [e]; rfl), (Below.refl _ _).alloc (Nat.le_refl _) _⟩

theorem keptOf_1 (s a v : Int) (w : World) :
    Calls Try.prog 93 #[.agg #[.int .i64 1, .int .i64 s, .int .i64 a, .int .i64 v]] w fun e w' => e = .returned (.iface 120 (.agg #[.int .i64 s, .int .i64 a, .int .i64 v])) ∧ Below w.heap.size w w' := by
  go_enter Try.func93, Try.ntmps93
  go_wp2
  go_ret
  exact ⟨rfl, ((Below.refl _ _).alloc (Nat.le_refl _) _).alloc (by simp) _⟩

theorem keptOf_2 (s a v : Int) (w : World) :
    Calls Try.prog 93 #[.agg #[.int .i64 2, .int .i64 s, .int .i64 a, .int .i64 v]] w fun e w' => e = .returned (.iface 121 (.agg #[.int .i64 s, .int .i64 a, .int .i64 v])) ∧ Below w.heap.size w w' := by
  go_enter Try.func93, Try.ntmps93
  go_wp2
  go_ret
  exact ⟨rfl, ((Below.refl _ _).alloc (Nat.le_refl _) _).alloc (by simp) _⟩

theorem keptOf_0 (k s a v : Int) (w : World) (h1 : (k == 1) = false) (h2 : (k == 2) = false) :
    Calls Try.prog 93 #[.agg #[.int .i64 k, .int .i64 s, .int .i64 a, .int .i64 v]] w fun e w' => e = .returned .nilIface ∧ Below w.heap.size w w' := by
  go_enter Try.func93, Try.ntmps93
  go_wp2
  go_ret
  exact ⟨rfl, ((Below.refl _ _).alloc (Nat.le_refl _) _).alloc (by simp) _⟩

theorem keptOk_0 (w : World) :
    Calls Try.prog 92 #[.nilIface] w fun e w' => e = .returned (.bool false) ∧ Below w.heap.size w w' := by
  go_enter Try.func92, Try.ntmps92
  go_wp2
  go_ret
  exact ⟨rfl, Below.refl _ _⟩

set_option maxHeartbeats 400000 in
theorem keptOk_1 (s a v : Int) (w : World) :
    Calls Try.prog 92 #[.iface 120 (.agg #[.int .i64 s, .int .i64 a, .int .i64 v])] w fun e w' => e = .returned (.bool (numB s a v)) ∧ Below w.heap.size w w' := by
  have e : numB s a v = (inB s 1 600 && inB a 1 6 && inB v 0 9) := rfl
  cases h2 : inB s 1 600
  rotate_left
  cases h3 : inB a 1 6
  rotate_left
  cases h4 : inB v 0 9
  all_goals
    simp only [*, Bool.and_true, Bool.and_false, Bool.false_and] at e
    go_enter Try.func92, Try.ntmps92
    go_wp2_with (first | (go_at_call 77; refine (within_any _ _ _ _).mono ?_; rintro e w' ⟨rfl, rfl⟩) | go_in)
    go_ret
    exact ⟨by first | rfl | (rw [e]; rfl), by go_grown⟩

set_option maxHeartbeats 400000 in
theorem keptOk_2 (s a v : Int) (w : World) :
    Calls Try.prog 92 #[.iface 121 (.agg #[.int .i64 s, .int .i64 a, .int .i64 v])] w fun e w' => e = .returned (.bool (numB s a v)) ∧ Below w.heap.size w w' := by
  have e : numB s a v = (inB s 1 600 && inB a 1 6 && inB v 0 9) := rfl
  cases h2 : inB s 1 600
  rotate_left
  cases h3 : inB a 1 6
  rotate_left
  cases h4 : inB v 0 9
  all_goals
    simp only [*, Bool.and_true, Bool.and_false, Bool.false_and] at e
    go_enter Try.func92, Try.ntmps92
    go_wp2_with (first | (go_at_call 77; refine (within_any _ _ _ _).mono ?_; rintro e w' ⟨rfl, rfl⟩) | go_in)
    go_ret
    exact ⟨by first | rfl | (rw [e]; rfl), by go_grown⟩

theorem recB_1 (s a v : Int) : recB 1 s a v = numB s a v := by simp [recB, inB]
theorem recB_2 (s a v : Int) : recB 2 s a v = numB s a v := by simp [recB, inB]
theorem recB_0 (k s a v : Int) (h1 : ¬ k = 1) (h2 : ¬ k = 2) : recB k s a v = false := by
  have : inB k 1 2 = false := by simp only [inB, decide_eq_false_iff_not]; omega
  simp [recB, this]

set_option maxHeartbeats 400000 in
theorem recOk_any (k s a v : Int) (w : World) :
    Calls Try.prog 67 #[.agg #[.int .i64 k, .int .i64 s, .int .i64 a, .int .i64 v]] w fun e w' => e = .returned (.bool (recB k s a v)) ∧ Below w.heap.size w w' := by
  by_cases h1 : k = 1
  · subst h1
    rw [recB_1]
    go_enter Try.func67, Try.ntmps67
    go_wp2_with fail
    refine (keptOf_1 _ _ _ _).mono ?_
    rintro e w1 ⟨rfl, b1⟩
    go_wp2_with fail
    refine (keptOk_1 _ _ _ _).mono ?_
    rintro e w2 ⟨rfl, b2⟩
    go_wp2
    go_ret
    exact ⟨rfl, ((Below.refl _ _).alloc (Nat.le_refl _) _).trans ((b1.mono (by simp)).trans (b2.mono (by have := b1.size; simp at this; omega)))⟩
  · by_cases h2 : k = 2
    · subst h2
      rw [recB_2]
      go_enter Try.func67, Try.ntmps67
      go_wp2_with fail
      refine (keptOf_2 _ _ _ _).mono ?_
      rintro e w1 ⟨rfl, b1⟩
      go_wp2_with fail
      refine (keptOk_2 _ _ _ _).mono ?_
      rintro e w2 ⟨rfl, b2⟩
      go_wp2
      go_ret
      exact ⟨rfl, ((Below.refl _ _).alloc (Nat.le_refl _) _).trans ((b1.mono (by simp)).trans (b2.mono (by have := b1.size; simp at this; omega)))⟩
    · rw [recB_0 k s a v h1 h2]
      go_enter Try.func67, Try.ntmps67
      go_wp2_with fail
      refine (keptOf_0 _ _ _ _ _ (by simpa using h1) (by simpa using h2)).mono ?_
      rintro e w1 ⟨rfl, b1⟩
      go_wp2_with fail
      refine (keptOk_0 _).mono ?_
      rintro e w2 ⟨rfl, b2⟩
      go_wp2
      go_ret
      exact ⟨rfl, ((Below.refl _ _).alloc (Nat.le_refl _) _).trans ((b1.mono (by simp)).trans (b2.mono (by have := b1.size; simp at this; omega)))⟩
theorem here : True := trivial
end Go.Proofs.Ytogioeflbbmppaa.OkA
