/-
  The walk of the law FnRecTwo: whatever it is given it returns true, and nothing that was there turns.
-/
import Derived.Test.YtbgfdkpfejeliaaDoorKit
namespace Go.Proofs.YtbgfdkpfejeliaaDoor.RecTwo
open Go.ChangeShapes Go.WideShapes Go.ChangeAt Go.RowKit Pick Draw DrawText OkA Dec RText SpecText Plain Kit
set_option linter.unusedVariables false

set_option maxHeartbeats 2000000 in
theorem walk (a0 : Option Addr) (len0 cap0 : Nat) (z0 : List Int) (a1 : Option Addr) (len1 cap1 : Nat) (z1 : List Int) (w : World) (h0 : IsRow .u8 w a0 len0 cap0 z0) (h1 : IsRow .u8 w a1 len1 cap1 z1) (hT : Tab w) :
    Calls Tryd.prog 7 #[.slice a0 len0 cap0, .slice a1 len1 cap1] w fun e w' => e = .returned (.bool true) ∧ Below w.heap.size w w' := by
  by_cases c0 : (1048576 : Int) < (len0 : Int)
  · clear h0 h1 hT
    go_enter Tryd.func7, Tryd.ntmps7
    go_wp2
    go_ret
    exact ⟨rfl, Below.refl _ _⟩
  by_cases c1 : (1048576 : Int) < (len1 : Int)
  · clear h0 h1 hT
    go_enter Tryd.func7, Tryd.ntmps7
    go_wp2
    go_ret
    exact ⟨rfl, Below.refl _ _⟩
  have HT : Hid (Tab w) := hT
  clear hT
  go_enter Tryd.func7, Tryd.ntmps7
  go_wp2_with fail
  refine (drawText_any _ a0 len0 cap0 z0 h0).mono ?_
  rintro e w1 ⟨k, s, x, v, rfl, bw1⟩
  clear h0 h1
  go_wp2_with fail
  refine (text_tab _ _ _ _ _ (HT.out.below (below_al bw1 _))).mono ?_
  rintro e w2 ⟨rfl, b2⟩
  have RA := (Rec4.new w1 k s x v _).moved b2
  have bw2 := below_step (below_al bw1 _) b2
  clear b2
  have rA := RA
  obtain ⟨p0, p1, p2, p3⟩ := rA
  go_wp2_with fail
  refine (spec_any _ _ _ _ _).mono ?_
  rintro e w3 ⟨rfl, b3⟩
  have bw3 := below_step bw2 b3
  replace RA := RA.moved b3
  clear b3 p0 p1 p2 p3
  have rA := RA
  obtain ⟨p0, p1, p2, p3⟩ := rA
  by_cases hA : recB k s x v = true
  rotate_left
  · have hA' : recB k s x v = false := by simpa using hA
    have HA : Hid (recS k s x v = ⟨#[]⟩) := recS_no hA'
    rw [recS_no hA']
    clear hA hA'
    go_wp2_with fail
    refine (spec_any _ _ _ _ _).mono ?_
    rintro e w7 ⟨rfl, b7⟩
    rw [HA.out]
    have bw7 := below_step bw3 b7
    clear b7 p0 p1 p2 p3 RA
    go_wp2_with fail
    go_ret
    exact ⟨rfl, bw7⟩
  have hb := rec_bounds hA
  obtain ⟨hk, hs0, hs1, hx0, hx1, hv0, hv1⟩ := hb
  have hR : recB k (1 + (s + (len1 : Int) % 7) % 600) x v = true := by
    have h6 : 0 ≤ (len1 : Int) % 7 := by omega
    simp only [recB, numB, inB, Bool.and_eq_true, decide_eq_true_eq]
    omega
  obtain ⟨n1, n1'⟩ := ne_nil (text_ne k s x v)
  have H3 : Hid ((textL k s x v).count 32 = 3) := text_blanks k s x v
  have HZ : Hid ((textB k s x v).size ≤ 100) := text_size k (by omega) (by omega) (by omega)
  have HE : Hid (textB k (1 + (s + (len1 : Int) % 7) % 600) x v = textB k s x v → 1 + (s + (len1 : Int) % 7) % 600 = s) := fun e => (textB_inj hR hA e).2.1
  have HB : Hid (recS k (1 + (s + (len1 : Int) % 7) % 600) x v = textB k (1 + (s + (len1 : Int) % 7) % 600) x v) := recS_ok hR
  rw [recS_ok hA]
  have zA := RA.lt
  clear hA hR hk
  go_wp2_with fail
  refine (text_tab _ _ _ _ _ (HT.out.below (below_al bw3 _))).mono ?_
  rintro e w4 ⟨rfl, b4⟩
  rw [HB.out]
  have bw4 := below_step (below_al bw3 _) b4
  have RB := (Rec4.new w3 k (1 + (s + (len1 : Int) % 7) % 600) x v _).moved b4
  replace RA := (RA.alloc _).moved b4
  clear b4 p0 p1 p2 p3 HB HT hs0 hs1 hx0 hx1 hv0 hv1 zA
  have hsz : (textB k s x v).size ≤ 100 := HZ.out
  rw [← text_list] at H3
  generalize 1 + (s + (len1 : Int) % 7) % 600 = S2 at *
  obtain ⟨p0, p1, p2, p3⟩ := RA
  obtain ⟨q0, q1, q2, q3⟩ := RB
  clear HZ
  by_cases hq : S2 = s
  · subst hq
    generalize textB k S2 x v = t at *
    clear HE
    go_wp2
    go_loop [9, 10] (fun n i => ∃ j : Nat, j ≤ t.size ∧ i = .int .i64 j ∧ n = .int .i64 ((t.data.toList.take j).count 32 : Nat)) (fun _ i => t.size - (intOf i).toNat)
    case atStart => exact ⟨0, Nat.zero_le _, rfl, rfl⟩
    case round =>
      obtain ⟨j, hj, rfl, rfl⟩ := hrel
      have hl : (t.data.toList.take j).count 32 ≤ 100 := Nat.le_trans List.count_le_length (by have := List.length_take_le j t.data.toList; omega)
      by_cases hlt : j < t.size
      · by_cases h32 : t[j] = 32
        · have hc := count_yes t j hlt h32
          have f := byte_yes h32
          have HC : Hid ((t.data.toList.take (j + 1)).count 32 = (t.data.toList.take j).count 32 + 1) := hc
          clear hc h32
          generalize (t.data.toList.take j).count 32 = m at *
          go_wp2
          go_round
          case rel => exact ⟨j + 1, by omega, by go_num, by rw [HC.out]; go_num⟩
          case measure => simp [intOf]; omega
        · have hc := count_no t j hlt h32
          have f := byte_no h32
          have HC : Hid ((t.data.toList.take (j + 1)).count 32 = (t.data.toList.take j).count 32) := hc
          clear hc h32
          generalize (t.data.toList.take j).count 32 = m at *
          go_wp2
          go_round
          case rel => exact ⟨j + 1, by omega, by go_num, by rw [HC.out]⟩
          case measure => simp [intOf]; omega
      · have hn3 : (t.data.toList.take j).count 32 = 3 := by rw [List.take_of_length_le (by simp; omega)]; exact H3.out
        have hlt' : ¬ (j : Int) < (t.size : Int) := by omega
        rw [hn3]
        go_wp2
        go_ret
        exact ⟨rfl, bw4⟩
  · obtain ⟨n3, n3'⟩ := ne_list fun e => hq (HE.out e)
    have f3 : (s == S2) = false := by simpa using fun e : s = S2 => hq e.symm
    clear HE hq
    generalize textB k S2 x v = u at *
    generalize textB k s x v = t at *
    go_wp2
    go_loop [9, 10] (fun n i => ∃ j : Nat, j ≤ t.size ∧ i = .int .i64 j ∧ n = .int .i64 ((t.data.toList.take j).count 32 : Nat)) (fun _ i => t.size - (intOf i).toNat)
    case atStart => exact ⟨0, Nat.zero_le _, rfl, rfl⟩
    case round =>
      obtain ⟨j, hj, rfl, rfl⟩ := hrel
      have hl : (t.data.toList.take j).count 32 ≤ 100 := Nat.le_trans List.count_le_length (by have := List.length_take_le j t.data.toList; omega)
      by_cases hlt : j < t.size
      · by_cases h32 : t[j] = 32
        · have hc := count_yes t j hlt h32
          have f := byte_yes h32
          have HC : Hid ((t.data.toList.take (j + 1)).count 32 = (t.data.toList.take j).count 32 + 1) := hc
          clear hc h32
          generalize (t.data.toList.take j).count 32 = m at *
          go_wp2
          go_round
          case rel => exact ⟨j + 1, by omega, by go_num, by rw [HC.out]; go_num⟩
          case measure => simp [intOf]; omega
        · have hc := count_no t j hlt h32
          have f := byte_no h32
          have HC : Hid ((t.data.toList.take (j + 1)).count 32 = (t.data.toList.take j).count 32) := hc
          clear hc h32
          generalize (t.data.toList.take j).count 32 = m at *
          go_wp2
          go_round
          case rel => exact ⟨j + 1, by omega, by go_num, by rw [HC.out]⟩
          case measure => simp [intOf]; omega
      · have hn3 : (t.data.toList.take j).count 32 = 3 := by rw [List.take_of_length_le (by simp; omega)]; exact H3.out
        have hlt' : ¬ (j : Int) < (t.size : Int) := by omega
        rw [hn3]
        go_wp2
        go_ret
        exact ⟨rfl, bw4⟩
end Go.Proofs.YtbgfdkpfejeliaaDoor.RecTwo
