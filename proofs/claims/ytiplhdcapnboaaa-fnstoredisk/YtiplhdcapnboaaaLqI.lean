/-
  The laws' own comparing of numbers: it says whether they are the same.
-/
import Derived.Test.YtiplhdcapnboaaaLqM
import Derived.Test.YtiplhdcapnboaaaStM
namespace Go.Proofs.Ytiplhdcapnboaaa.LqI
open Go.ChangeShapes Go.WideShapes Go.ChangeAt Go.RowKit OkA Big Fl ImplB ImplF ImplS ImplT ImplU SpecA SpecB LawsA LawsB LawsE StA StB
set_option linter.unusedVariables false
set_option linter.unusedSimpArgs false
attribute [local go_sem ↓] Go.wp_at_zero Go.wp_at_succ

/-- Whether two lists are the same. -/
def sameL (xs ys : List Int) : Bool := decide (xs = ys)
theorem same_iff {xs ys : List Int} : sameL xs ys = true ↔ xs = ys := by simp [sameL]
theorem same_self (xs : List Int) : sameL xs xs = true := by simp [sameL]
theorem same_len {xs ys : List Int} (h : xs.length ≠ ys.length) : sameL xs ys = false := by
  cases hs : sameL xs ys
  · rfl
  · exact absurd (congrArg List.length (same_iff.1 hs)) h
set_option maxHeartbeats 1000000 in
theorem lqInts_any (a1 a2 : Option Addr) (cap1 cap2 : Nat) (xs ys : List Int) (w : World) (h1 : DkAt w a1 xs) (h2 : DkAt w a2 ys) (hl : xs.length ≤ 1048576) (hl2 : ys.length ≤ 1048576) :
    Calls Try.prog 53 #[.slice a1 xs.length cap1, .slice a2 ys.length cap2] w fun e w' => e = .returned (.bool (sameL xs ys)) ∧ Below w.heap.size w w' := by
  have H1 := hide h1
  have H2 := hide h2
  clear h1 h2
  have HS : Hid (∀ k, k < xs.length → xs.length = ys.length → xs.getD k 0 ≠ ys.getD k 0 → sameL xs ys = false) := fun k _ _ hne => by
    cases hs : sameL xs ys
    · rfl
    · rw [same_iff.1 hs] at hne; exact absurd rfl hne
  have HT : Hid (xs.length = ys.length → (∀ k, k < xs.length → xs.getD k 0 = ys.getD k 0) → sameL xs ys = true) := fun he hk => same_iff.2 (List.ext_getElem he fun j q1 q2 => by
    have := hk j q1
    rwa [List.getD_eq_getElem?_getD, List.getElem?_eq_getElem q1, List.getD_eq_getElem?_getD, List.getElem?_eq_getElem q2] at this)
  have HL : Hid (xs.length ≠ ys.length → sameL xs ys = false) := fun h => same_len h
  generalize sameL xs ys = R at *
  generalize hn : xs.length = n at *
  generalize hm : ys.length = m at *
  have HN := hide hn
  have HM := hide hm
  clear hn hm
  have hli : (n : Int) ≤ 1048576 := by omega
  have hmi : (m : Int) ≤ 1048576 := by omega
  go_enter Try.func53, Try.ntmps53
  by_cases hnm : n = m
  · subst hnm
    go_wp2
    go_loopw [5] (fun i w' => ∃ k : Nat, k ≤ n ∧ i = .int .i64 k ∧ Hid (∀ j, j < k → xs.getD j 0 = ys.getD j 0) ∧ Below w.heap.size w w') (fun i _ => n - (intOf i).toNat)
    case atStart => exact ⟨0, by omega, rfl, (fun j hj => by omega), Below.refl _ _⟩
    case round =>
      obtain ⟨k, hk, rfl, HI, bw⟩ := hrel
      by_cases h0 : k = n
      · subst h0
        have HR : Hid (R = true) := unhide HT (by first | rfl | trivial) (unhide HI)
        go_wp2
        go_ret
        exact ⟨by rw [unhide HR]; rfl, bw⟩
      · have hlt : (k : Int) < (n : Int) := by omega
        have hkx : k < xs.length := by have := unhide HN; omega
        have hky : k < ys.length := by have := unhide HM; omega
        have hlo : (0 : Int) ≤ (k : Int) := by omega
        obtain ⟨b1, o1, rfl, g1⟩ : ∃ b o, a1 = some ⟨b, o, none⟩ ∧ wr.rangeAt b o (isC xs) := by
          rcases (unhide H1).below bw with rfl | h
          · simp at hkx
          · exact h
        obtain ⟨b2, o2, rfl, g2⟩ : ∃ b o, a2 = some ⟨b, o, none⟩ ∧ wr.rangeAt b o (isC ys) := by
          rcases (unhide H2).below bw with rfl | h
          · simp at hky
          · exact h
        have x1 := isC_at g1 k hkx
        have x2 := isC_at g2 k hky
        have HX : Hid (xs.getD k 0 ≠ ys.getD k 0 → R = false) := fun q => unhide HS k (by omega) (by first | rfl | trivial) q
        have HI2 : Hid (xs.getD k 0 = ys.getD k 0 → ∀ j, j < k + 1 → xs.getD j 0 = ys.getD j 0) := fun q j hj => by
          by_cases e : j = k
          · subst e; exact q
          · exact unhide HI j (by omega)
        clear g1 g2 HS HT HL HI
        generalize xs.getD k 0 = x at *
        generalize ys.getD k 0 = y at *
        go_wp2_with fail
        refine wp_region_noPanic ?_
        refine wp_region_held_drew (S := fun w' => w'.cell? ⟨b1, o1 + k, none⟩ = some (.int .i64 x) ∧ w'.cell? ⟨b2, o2 + k, none⟩ = some (.int .i64 y)) (by kernel_rfl) (⟨by simpa using x1, by simpa using x2⟩) (fun hHeld => ?_)
        refine takeL 0 (.slice (some ⟨b1, o1, none⟩) n cap1) rfl (by kernel_rfl) (by kernel_rfl) (by kernel_rfl) (fun _ _ _ h => h) (Or.inl ⟨rfl, fun _ _ => rfl⟩) hHeld ?_
        try simp only [Act.put, List.setIfInBounds_toArray, List.set_cons_zero, List.set_cons_succ]
        refine takeL 1 (.int .i64 k) rfl (by kernel_rfl) (by kernel_rfl) (by kernel_rfl) (fun _ _ _ h => h) (Or.inl ⟨rfl, fun _ _ => rfl⟩) hHeld ?_
        try simp only [Act.put, List.setIfInBounds_toArray, List.set_cons_zero, List.set_cons_succ]
        refine takeL 2 (.pointer (some ⟨b1, o1 + k, none⟩)) rfl (by kernel_rfl) (by kernel_rfl) (by kernel_rfl) (fun _ _ _ h => h) (Or.inl ⟨rfl, fun w9 hSw => by go_simp⟩) hHeld ?_
        try simp only [Act.put, List.setIfInBounds_toArray, List.set_cons_zero, List.set_cons_succ]
        refine takeL 3 (.int .i64 x) rfl (by kernel_rfl) (by kernel_rfl) (by kernel_rfl) (fun _ _ _ h => h) (Or.inl ⟨rfl, fun w9 hSw => by have hc := hSw.1; go_simp⟩) hHeld ?_
        try simp only [Act.put, List.setIfInBounds_toArray, List.set_cons_zero, List.set_cons_succ]
        refine takeL 4 (.slice (some ⟨b2, o2, none⟩) n cap2) rfl (by kernel_rfl) (by kernel_rfl) (by kernel_rfl) (fun _ _ _ h => h) (Or.inl ⟨rfl, fun _ _ => rfl⟩) hHeld ?_
        try simp only [Act.put, List.setIfInBounds_toArray, List.set_cons_zero, List.set_cons_succ]
        refine takeL 5 (.int .i64 k) rfl (by kernel_rfl) (by kernel_rfl) (by kernel_rfl) (fun _ _ _ h => h) (Or.inl ⟨rfl, fun _ _ => rfl⟩) hHeld ?_
        try simp only [Act.put, List.setIfInBounds_toArray, List.set_cons_zero, List.set_cons_succ]
        refine takeL 6 (.pointer (some ⟨b2, o2 + k, none⟩)) rfl (by kernel_rfl) (by kernel_rfl) (by kernel_rfl) (fun _ _ _ h => h) (Or.inl ⟨rfl, fun w9 hSw => by go_simp⟩) hHeld ?_
        try simp only [Act.put, List.setIfInBounds_toArray, List.set_cons_zero, List.set_cons_succ]
        refine takeL 7 (.int .i64 y) rfl (by kernel_rfl) (by kernel_rfl) (by kernel_rfl) (fun _ _ _ h => h) (Or.inl ⟨rfl, fun w9 hSw => by have hc := hSw.2; go_simp⟩) hHeld ?_
        try simp only [Act.put, List.setIfInBounds_toArray, List.set_cons_zero, List.set_cons_succ]
        refine takeL 8 (.bool (x != y)) rfl (by kernel_rfl) (by kernel_rfl) (by kernel_rfl) (fun _ _ _ h => h) (Or.inl ⟨rfl, fun w9 hSw => by go_simp⟩) hHeld ?_
        try simp only [Act.put, List.setIfInBounds_toArray, List.set_cons_zero, List.set_cons_succ]
        refine wpAnyH_done (by kernel_rfl) ?_ _
        refine NoPanic.normal ?_
        clear hHeld x1 x2
        by_cases q : x = y
        · have hq : (x != y) = false := by simpa using q
          have HI3 : Hid (∀ j, j < k + 1 → xs.getD j 0 = ys.getD j 0) := unhide HI2 q
          clear q
          go_wp2
          go_roundw
          case rel => exact ⟨k + 1, by omega, by first | rfl | go_num, HI3, bw.drew⟩
          case measure => simp [intOf]; omega
        · have hq : (x != y) = true := by simpa using q
          have HR : Hid (R = false) := unhide HX q
          clear q
          go_wp2
          go_ret
          exact ⟨by rw [unhide HR]; rfl, bw.drew⟩
  · have hne : (n : Int) ≠ (m : Int) := by omega
    have hnb : ((n : Int) != (m : Int)) = true := by simpa using hne
    have HR : Hid (R = false) := unhide HL hnm
    go_wp2
    go_ret
    exact ⟨by rw [unhide HR]; rfl, Below.refl _ _⟩
end Go.Proofs.Ytiplhdcapnboaaa.LqI
