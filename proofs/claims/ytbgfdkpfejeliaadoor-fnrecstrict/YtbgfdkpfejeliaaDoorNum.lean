/-
  The contract of the specification's reading of a number of one to three figures: its value, or -1.
-/
import Derived.Test.YtbgfdkpfejeliaaDoorKit
import Derived.Test.YtbgfdkpfejeliaaDoorWords
namespace Go.Proofs.YtbgfdkpfejeliaaDoor.Num
open Go.ChangeShapes Go.WideShapes Go.ChangeAt Go.RowKit OkA Dec Kit Words
set_option linter.unusedVariables false

def numI (t : ByteArray) : Int := if 1 ≤ t.size ∧ t.size ≤ 3 then (match Lib.decFrom 0 t.data.toList with | some m => (m : Int) | none => -1) else -1
theorem numI_out {t : ByteArray} (h : inB (t.size : Int) 1 3 = false) : numI t = -1 := by
  have : ¬ (1 ≤ t.size ∧ t.size ≤ 3) := by
    intro hc
    have : inB (t.size : Int) 1 3 = true := inB_t (by omega) (by omega)
    rw [this] at h; cases h
  simp [numI, this]
theorem digit_yes {c : UInt8} (h0 : 48 ≤ c.toNat) (h1 : c.toNat ≤ 57) : Lib.digitVal c = some (c.toNat - 48) := by unfold Lib.digitVal; rw [if_pos ⟨h0, h1⟩]
theorem digit_no {c : UInt8} (h : ¬ (48 ≤ c.toNat ∧ c.toNat ≤ 57)) : Lib.digitVal c = none := by unfold Lib.digitVal; rw [if_neg h]
theorem dec_take_yes {t : ByteArray} {j m : Nat} (h : j < t.size) (hm : Lib.decFrom 0 (t.data.toList.take j) = some m) (h0 : 48 ≤ t[j].toNat) (h1 : t[j].toNat ≤ 57) :
    Lib.decFrom 0 (t.data.toList.take (j + 1)) = some (m * 10 + (t[j].toNat - 48)) := by
  rw [take_snoc t j h, decFrom_app, hm]
  simp only [Option.bind_some, Lib.decFrom, digit_yes h0 h1]
theorem dec_take_no {t : ByteArray} {j m : Nat} (h : j < t.size) (hm : Lib.decFrom 0 (t.data.toList.take j) = some m) (h0 : ¬ (48 ≤ t[j].toNat ∧ t[j].toNat ≤ 57)) : Lib.decFrom 0 t.data.toList = none := by
  have e : t.data.toList = (t.data.toList.take j ++ [t[j]]) ++ t.data.toList.drop (j + 1) := by rw [← take_snoc t j h, List.take_append_drop]
  rw [e, decFrom_app, decFrom_app, hm]
  simp only [Option.bind_some, Lib.decFrom, digit_no h0, Option.bind_none]

set_option maxHeartbeats 2000000 in
theorem num_any (t : ByteArray) (w : World) (ht : t.size ≤ 100) :
    Calls Tryd.prog 32 #[.string t] w fun e w' => e = .returned (.int .i64 (numI t)) ∧ w' = w := by
  cases hin : inB (t.size : Int) 1 3
  · have e := numI_out hin
    rw [e]
    go_enter Tryd.func32, Tryd.ntmps32
    go_wp2_with fail
    refine (l6In_any _ _ _ _).mono ?_
    rintro e w' ⟨rfl, rfl⟩
    rw [hin]
    go_wp2_with fail
    go_ret
    exact ⟨rfl, rfl⟩
  · have hb : 1 ≤ t.size ∧ t.size ≤ 3 := by
      have : (1 : Int) ≤ t.size ∧ (t.size : Int) ≤ 3 := by simpa [inB] using hin
      omega
    obtain ⟨hb1, hb2⟩ := hb
    have HN : Hid (numI t = match Lib.decFrom 0 t.data.toList with | some m => (m : Int) | none => -1) := by
      show numI t = _
      unfold numI
      rw [if_pos ⟨hb1, hb2⟩]
    generalize numI t = r at *
    go_enter Tryd.func32, Tryd.ntmps32
    go_wp2_with fail
    refine (l6In_any _ _ _ _).mono ?_
    rintro e w' ⟨rfl, rfl⟩
    rw [hin]
    clear hin
    go_wp2_with fail
    go_loop [3, 4] (fun n i => ∃ j m : Nat, j ≤ t.size ∧ m < 10 ^ j ∧ i = .int .i64 j ∧ n = .int .i64 m ∧ Hid (Lib.decFrom 0 (t.data.toList.take j) = some m)) (fun _ i => t.size - (intOf i).toNat)
    case atStart => exact ⟨0, 0, Nat.zero_le _, by decide, rfl, rfl, rfl⟩
    case round =>
      obtain ⟨j, m, hj, hm, rfl, rfl, HM⟩ := hrel
      have hm3 : m < 1000 := Nat.lt_of_lt_of_le hm (by
        have : 10 ^ j ≤ 10 ^ 3 := Nat.pow_le_pow_right (by decide) (by omega)
        simpa using this)
      by_cases hlt : j < t.size
      · by_cases hd : 48 ≤ t[j].toNat ∧ t[j].toNat ≤ 57
        · obtain ⟨d0, d1⟩ := hd
          have HY : Hid (Lib.decFrom 0 (t.data.toList.take (j + 1)) = some (m * 10 + (t[j].toNat - 48))) := dec_take_yes hlt HM.out d0 d1
          have i0 : ¬ (t[j].toNat : Int) < 48 := by omega
          have i1 : ¬ (57 : Int) < (t[j].toNat : Int) := by omega
          have hp : m * 10 + (t[j].toNat - 48) < 10 ^ (j + 1) := by rw [Nat.pow_succ]; omega
          clear hm
          go_wp2
          go_round
          case rel => exact ⟨j + 1, _, by omega, hp, by go_num, by go_num, HY⟩
          case measure => simp [intOf]; omega
        · have HO : Hid (Lib.decFrom 0 t.data.toList = none) := dec_take_no hlt HM.out hd
          have hr : r = -1 := by rw [HN.out, HO.out]
          have hd' : (t[j].toNat : Int) < 48 ∨ (57 : Int) < (t[j].toNat : Int) := by omega
          subst hr
          clear hm hd HN
          rcases hd' with i0 | i0
          · go_wp2
            go_ret
            exact ⟨rfl, rfl⟩
          · have i1 : ¬ (t[j].toNat : Int) < 48 := by omega
            go_wp2
            go_ret
            exact ⟨rfl, rfl⟩
      · have he : t.data.toList.take j = t.data.toList := List.take_of_length_le (by simp; omega)
        have hr : r = (m : Int) := by
          have := HM.out
          rw [he] at this
          rw [HN.out, this]
        subst hr
        have hlt' : ¬ (j : Int) < (t.size : Int) := by omega
        clear he hm HM HN
        go_wp2
        go_ret
        exact ⟨rfl, rfl⟩
end Go.Proofs.YtbgfdkpfejeliaaDoor.Num
