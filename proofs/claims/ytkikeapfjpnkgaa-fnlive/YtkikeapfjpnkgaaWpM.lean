/-
  Texts that belong together, one behind the other: Lo, Wp, Ws.
-/
import Derived.Test.YtkikeapfjpnkgaaLqM
import Derived.Test.YtkikeapfjpnkgaaDrwD
import Derived.Test.YtkikeapfjpnkgaaPlE
import Derived.Lib.SmallJoins
import Derived.Test.YtkikeapfjpnkgaaBaI
import Derived.Test.YtkikeapfjpnkgaaImplX

/-
  The laws' own comparing of blocks but for one: where all others are the same they say true.
-/
namespace Go.Proofs.Ytkikeapfjpnkgaa.Lo
open Go.ChangeShapes Go.WideShapes Go.ChangeAt Go.RowKit OkA Big Fl ImplB ImplF ImplS ImplT ImplU SpecA SpecB LawsA LawsB LawsE Lq
set_option linter.unusedVariables false
set_option linter.unusedSimpArgs false
attribute [local go_sem ↓] Go.wp_at_zero Go.wp_at_succ

set_option maxHeartbeats 2000000 in
theorem lqOthers_but (a1 a2 : Option Addr) (cap1 cap2 : Nat) (xs ys : List Bk) (n : Nat) (but : Int) (w : World) (h1 : FsAt w a1 xs) (h2 : FsAt w a2 ys) (hx : xs.length = n) (hy : ys.length = n) (hl : n ≤ 1048576) (hp : ∀ b ∈ ys, b.ps.length ≤ 1048576)
    (hs : ∀ i (hi : i < xs.length) (hj : i < ys.length), (i : Int) ≠ but → xs[i] = ys[i]) :
    Calls Try.prog 18 #[.slice a1 n cap1, .slice a2 n cap2, .int .i64 but] w fun e w' => e = .returned (.bool true) ∧ Below w.heap.size w w' := by
  have H1 := hide h1
  have H2 := hide h2
  have HP := hide hp
  have HS := hide hs
  have HX := hide hx
  have HY := hide hy
  clear h1 h2 hp hs hx hy
  have hli : (n : Int) ≤ 1048576 := by omega
  go_enter Try.func18, Try.ntmps18
  go_wp2
  go_loopw [7] (fun i w' => ∃ k : Nat, k ≤ n ∧ i = .int .i64 k ∧ Below w.heap.size w w') (fun i _ => n - (intOf i).toNat)
  case atStart => exact ⟨0, by omega, rfl, Below.refl _ _⟩
  case round =>
    obtain ⟨k, hk, rfl, bw⟩ := hrel
    by_cases h0 : k = n
    · subst h0
      go_wp2
      go_ret
      exact ⟨rfl, bw⟩
    · have hlt : (k : Int) < (n : Int) := by omega
      have hkx : k < xs.length := by have := unhide HX; omega
      have hky : k < ys.length := by have := unhide HY; omega
      have hlo : (0 : Int) ≤ (k : Int) := by omega
      by_cases hbt : (k : Int) = but
      · have hbn : ((k : Int) != but) = false := by simpa using hbt
        have HBT := hide hbt
        clear hbt
        go_wp2_with fail
        refine wp_region_noPanic ?_
        refine wp_region_held_drew (S := fun w' => True) (by kernel_rfl) (trivial) (fun hHeld => ?_)
        refine takeL 0 (.int .i64 k) rfl (by kernel_rfl) (by kernel_rfl) (by kernel_rfl) (fun _ _ _ h => h) (Or.inl ⟨rfl, fun _ _ => rfl⟩) hHeld ?_
        try simp only [Act.put, List.setIfInBounds_toArray, List.set_cons_zero, List.set_cons_succ]
        refine takeL 1 (.int .i64 but) rfl (by kernel_rfl) (by kernel_rfl) (by kernel_rfl) (fun _ _ _ h => h) (Or.inl ⟨rfl, fun _ _ => rfl⟩) hHeld ?_
        try simp only [Act.put, List.setIfInBounds_toArray, List.set_cons_zero, List.set_cons_succ]
        refine takeL 2 (.bool false) rfl (by kernel_rfl) (by kernel_rfl) (by kernel_rfl) (fun _ _ _ h => h) (Or.inl ⟨rfl, fun w9 hSw => by go_simp⟩) hHeld ?_
        try simp only [Act.put, List.setIfInBounds_toArray, List.set_cons_zero, List.set_cons_succ]
        refine takeL 3 (.bool false) rfl (by kernel_rfl) (by kernel_rfl) (by kernel_rfl) (fun _ _ _ h => h) (Or.inl ⟨rfl, fun _ _ => rfl⟩) hHeld ?_
        try simp only [Act.put, List.setIfInBounds_toArray, List.set_cons_zero, List.set_cons_succ]
        refine takeL 4 (undef) rfl (by kernel_rfl) (by kernel_rfl) (by kernel_rfl) (fun _ _ _ h => h) (Or.inr ⟨rfl, rfl⟩) hHeld ?_
        try simp only [Act.put, List.setIfInBounds_toArray, List.set_cons_zero, List.set_cons_succ]
        refine takeL 5 (undef) rfl (by kernel_rfl) (by kernel_rfl) (by kernel_rfl) (fun _ _ _ h => h) (Or.inr ⟨rfl, rfl⟩) hHeld ?_
        try simp only [Act.put, List.setIfInBounds_toArray, List.set_cons_zero, List.set_cons_succ]
        refine takeL 6 (undef) rfl (by kernel_rfl) (by kernel_rfl) (by kernel_rfl) (fun _ _ _ h => h) (Or.inr ⟨rfl, rfl⟩) hHeld ?_
        try simp only [Act.put, List.setIfInBounds_toArray, List.set_cons_zero, List.set_cons_succ]
        refine takeL 7 (undef) rfl (by kernel_rfl) (by kernel_rfl) (by kernel_rfl) (fun _ _ _ h => h) (Or.inr ⟨rfl, rfl⟩) hHeld ?_
        try simp only [Act.put, List.setIfInBounds_toArray, List.set_cons_zero, List.set_cons_succ]
        refine takeL 8 (undef) rfl (by kernel_rfl) (by kernel_rfl) (by kernel_rfl) (fun _ _ _ h => h) (Or.inr ⟨rfl, rfl⟩) hHeld ?_
        try simp only [Act.put, List.setIfInBounds_toArray, List.set_cons_zero, List.set_cons_succ]
        refine takeL 9 (undef) rfl (by kernel_rfl) (by kernel_rfl) (by kernel_rfl) (fun _ _ _ h => h) (Or.inr ⟨rfl, rfl⟩) hHeld ?_
        try simp only [Act.put, List.setIfInBounds_toArray, List.set_cons_zero, List.set_cons_succ]
        refine takeL 10 (undef) rfl (by kernel_rfl) (by kernel_rfl) (by kernel_rfl) (fun _ _ _ h => h) (Or.inr ⟨rfl, rfl⟩) hHeld ?_
        try simp only [Act.put, List.setIfInBounds_toArray, List.set_cons_zero, List.set_cons_succ]
        refine takeL 11 (undef) rfl (by kernel_rfl) (by kernel_rfl) (by kernel_rfl) (fun _ _ _ h => h) (Or.inr ⟨rfl, rfl⟩) hHeld ?_
        try simp only [Act.put, List.setIfInBounds_toArray, List.set_cons_zero, List.set_cons_succ]
        refine takeL 12 (undef) rfl (by kernel_rfl) (by kernel_rfl) (by kernel_rfl) (fun _ _ _ h => h) (Or.inr ⟨rfl, rfl⟩) hHeld ?_
        try simp only [Act.put, List.setIfInBounds_toArray, List.set_cons_zero, List.set_cons_succ]
        refine takeL 13 (undef) rfl (by kernel_rfl) (by kernel_rfl) (by kernel_rfl) (fun _ _ _ h => h) (Or.inr ⟨rfl, rfl⟩) hHeld ?_
        try simp only [Act.put, List.setIfInBounds_toArray, List.set_cons_zero, List.set_cons_succ]
        refine takeL 14 (undef) rfl (by kernel_rfl) (by kernel_rfl) (by kernel_rfl) (fun _ _ _ h => h) (Or.inr ⟨rfl, rfl⟩) hHeld ?_
        try simp only [Act.put, List.setIfInBounds_toArray, List.set_cons_zero, List.set_cons_succ]
        refine takeL 15 (undef) rfl (by kernel_rfl) (by kernel_rfl) (by kernel_rfl) (fun _ _ _ h => h) (Or.inr ⟨rfl, rfl⟩) hHeld ?_
        try simp only [Act.put, List.setIfInBounds_toArray, List.set_cons_zero, List.set_cons_succ]
        refine takeL 16 (undef) rfl (by kernel_rfl) (by kernel_rfl) (by kernel_rfl) (fun _ _ _ h => h) (Or.inr ⟨rfl, rfl⟩) hHeld ?_
        try simp only [Act.put, List.setIfInBounds_toArray, List.set_cons_zero, List.set_cons_succ]
        refine takeL 17 (undef) rfl (by kernel_rfl) (by kernel_rfl) (by kernel_rfl) (fun _ _ _ h => h) (Or.inr ⟨rfl, rfl⟩) hHeld ?_
        try simp only [Act.put, List.setIfInBounds_toArray, List.set_cons_zero, List.set_cons_succ]
        refine takeL 18 (undef) rfl (by kernel_rfl) (by kernel_rfl) (by kernel_rfl) (fun _ _ _ h => h) (Or.inr ⟨rfl, rfl⟩) hHeld ?_
        try simp only [Act.put, List.setIfInBounds_toArray, List.set_cons_zero, List.set_cons_succ]
        refine takeL 19 (undef) rfl (by kernel_rfl) (by kernel_rfl) (by kernel_rfl) (fun _ _ _ h => h) (Or.inr ⟨rfl, rfl⟩) hHeld ?_
        try simp only [Act.put, List.setIfInBounds_toArray, List.set_cons_zero, List.set_cons_succ]
        refine takeL 20 (undef) rfl (by kernel_rfl) (by kernel_rfl) (by kernel_rfl) (fun _ _ _ h => h) (Or.inr ⟨rfl, rfl⟩) hHeld ?_
        try simp only [Act.put, List.setIfInBounds_toArray, List.set_cons_zero, List.set_cons_succ]
        refine takeL 21 (undef) rfl (by kernel_rfl) (by kernel_rfl) (by kernel_rfl) (fun _ _ _ h => h) (Or.inr ⟨rfl, rfl⟩) hHeld ?_
        try simp only [Act.put, List.setIfInBounds_toArray, List.set_cons_zero, List.set_cons_succ]
        refine takeL 22 (undef) rfl (by kernel_rfl) (by kernel_rfl) (by kernel_rfl) (fun _ _ _ h => h) (Or.inr ⟨rfl, rfl⟩) hHeld ?_
        try simp only [Act.put, List.setIfInBounds_toArray, List.set_cons_zero, List.set_cons_succ]
        refine takeL 23 (undef) rfl (by kernel_rfl) (by kernel_rfl) (by kernel_rfl) (fun _ _ _ h => h) (Or.inr ⟨rfl, rfl⟩) hHeld ?_
        try simp only [Act.put, List.setIfInBounds_toArray, List.set_cons_zero, List.set_cons_succ]
        refine takeL 24 (undef) rfl (by kernel_rfl) (by kernel_rfl) (by kernel_rfl) (fun _ _ _ h => h) (Or.inr ⟨rfl, rfl⟩) hHeld ?_
        try simp only [Act.put, List.setIfInBounds_toArray, List.set_cons_zero, List.set_cons_succ]
        refine takeL 25 (undef) rfl (by kernel_rfl) (by kernel_rfl) (by kernel_rfl) (fun _ _ _ h => h) (Or.inr ⟨rfl, rfl⟩) hHeld ?_
        try simp only [Act.put, List.setIfInBounds_toArray, List.set_cons_zero, List.set_cons_succ]
        refine takeL 26 (undef) rfl (by kernel_rfl) (by kernel_rfl) (by kernel_rfl) (fun _ _ _ h => h) (Or.inr ⟨rfl, rfl⟩) hHeld ?_
        try simp only [Act.put, List.setIfInBounds_toArray, List.set_cons_zero, List.set_cons_succ]
        refine takeL 27 (undef) rfl (by kernel_rfl) (by kernel_rfl) (by kernel_rfl) (fun _ _ _ h => h) (Or.inr ⟨rfl, rfl⟩) hHeld ?_
        try simp only [Act.put, List.setIfInBounds_toArray, List.set_cons_zero, List.set_cons_succ]
        refine takeL 28 (undef) rfl (by kernel_rfl) (by kernel_rfl) (by kernel_rfl) (fun _ _ _ h => h) (Or.inr ⟨rfl, rfl⟩) hHeld ?_
        try simp only [Act.put, List.setIfInBounds_toArray, List.set_cons_zero, List.set_cons_succ]
        refine takeL 29 (.bool false) rfl (by kernel_rfl) (by kernel_rfl) (by kernel_rfl) (fun _ _ _ h => h) (Or.inl ⟨rfl, fun w9 hSw => by go_simp⟩) hHeld ?_
        try simp only [Act.put, List.setIfInBounds_toArray, List.set_cons_zero, List.set_cons_succ]
        refine wpAnyH_done (by kernel_rfl) ?_ _
        refine NoPanic.normal ?_
        go_wp2
        go_roundw
        case rel => exact ⟨k + 1, by omega, by first | rfl | go_num, bw.drew⟩
        case measure => simp [intOf]; omega
      · have hbn : ((k : Int) != but) = true := by simpa using hbt
        have hsk := unhide HS k hkx hky hbt
        have HBT := hide hbt
        clear hbt
        obtain ⟨b1, o1, rfl, g1⟩ : ∃ b o, a1 = some ⟨b, o, none⟩ ∧ ∀ i (hi : i < xs.length), BkAt wr b (o + i * 2) xs[i] := by
          rcases (unhide H1).below bw with rfl | h
          · simp at hkx
          · exact h
        obtain ⟨b2, o2, rfl, g2⟩ : ∃ b o, a2 = some ⟨b, o, none⟩ ∧ ∀ i (hi : i < ys.length), BkAt wr b (o + i * 2) ys[i] := by
          rcases (unhide H2).below bw with rfl | h
          · simp at hky
          · exact h
        obtain ⟨p1, c1, d0, d1, q1⟩ := g1 k hkx
        obtain ⟨p2, c2, e0, e1, q2⟩ := g2 k hky
        rw [hsk] at d0 d1 q1
        have l1 := cell_lt d0
        have l2 := cell_lt e0
        have HC := hide (fun (w : World) (h : PsAt w p1 ys[k].ps) (h' : PsAt w p2 ys[k].ps) => lqPages_same p1 p2 c1 c2 ys[k].ps w h h' (unhide HP _ (List.getElem_mem hky)))
        clear g1 g2 hsk
        generalize ys[k] = b at *
        go_wp2_with fail
        refine wp_region_noPanic ?_
        refine wp_region_held_drew (S := fun w' => w'.cell? ⟨b1, o1 + k * 2, none⟩ = some (.slice p1 b.ps.length c1) ∧ w'.cell? ⟨b1, o1 + k * 2 + 1, none⟩ = some (.int .i64 b.wn) ∧ w'.cell? ⟨b2, o2 + k * 2, none⟩ = some (.slice p2 b.ps.length c2) ∧ w'.cell? ⟨b2, o2 + k * 2 + 1, none⟩ = some (.int .i64 b.wn)) (by kernel_rfl) (⟨by simpa using d0, by simpa using d1, by simpa using e0, by simpa using e1⟩) (fun hHeld => ?_)
        refine takeL 0 (.int .i64 k) rfl (by kernel_rfl) (by kernel_rfl) (by kernel_rfl) (fun _ _ _ h => h) (Or.inl ⟨rfl, fun _ _ => rfl⟩) hHeld ?_
        try simp only [Act.put, List.setIfInBounds_toArray, List.set_cons_zero, List.set_cons_succ]
        refine takeL 1 (.int .i64 but) rfl (by kernel_rfl) (by kernel_rfl) (by kernel_rfl) (fun _ _ _ h => h) (Or.inl ⟨rfl, fun _ _ => rfl⟩) hHeld ?_
        try simp only [Act.put, List.setIfInBounds_toArray, List.set_cons_zero, List.set_cons_succ]
        refine takeL 2 (.bool true) rfl (by kernel_rfl) (by kernel_rfl) (by kernel_rfl) (fun _ _ _ h => h) (Or.inl ⟨rfl, fun w9 hSw => by go_simp⟩) hHeld ?_
        try simp only [Act.put, List.setIfInBounds_toArray, List.set_cons_zero, List.set_cons_succ]
        refine takeL 3 (.bool true) rfl (by kernel_rfl) (by kernel_rfl) (by kernel_rfl) (fun _ _ _ h => h) (Or.inl ⟨rfl, fun _ _ => rfl⟩) hHeld ?_
        try simp only [Act.put, List.setIfInBounds_toArray, List.set_cons_zero, List.set_cons_succ]
        refine takeL 4 (.slice (some ⟨b1, o1, none⟩) n cap1) rfl (by kernel_rfl) (by kernel_rfl) (by kernel_rfl) (fun _ _ _ h => h) (Or.inl ⟨rfl, fun _ _ => rfl⟩) hHeld ?_
        try simp only [Act.put, List.setIfInBounds_toArray, List.set_cons_zero, List.set_cons_succ]
        refine takeL 5 (.int .i64 k) rfl (by kernel_rfl) (by kernel_rfl) (by kernel_rfl) (fun _ _ _ h => h) (Or.inl ⟨rfl, fun _ _ => rfl⟩) hHeld ?_
        try simp only [Act.put, List.setIfInBounds_toArray, List.set_cons_zero, List.set_cons_succ]
        refine takeL 6 (.pointer (some ⟨b1, o1 + k * 2, none⟩)) rfl (by kernel_rfl) (by kernel_rfl) (by kernel_rfl) (fun _ _ _ h => h) (Or.inl ⟨rfl, fun w9 hSw => by go_simp⟩) hHeld ?_
        try simp only [Act.put, List.setIfInBounds_toArray, List.set_cons_zero, List.set_cons_succ]
        refine takeL 7 (.pointer (some ⟨b1, o1 + k * 2 + 1, none⟩)) rfl (by kernel_rfl) (by kernel_rfl) (by kernel_rfl) (fun _ _ _ h => h) (Or.inl ⟨rfl, fun w9 hSw => by go_simp⟩) hHeld ?_
        try simp only [Act.put, List.setIfInBounds_toArray, List.set_cons_zero, List.set_cons_succ]
        refine takeL 8 (.int .i64 b.wn) rfl (by kernel_rfl) (by kernel_rfl) (by kernel_rfl) (fun _ _ _ h => h) (Or.inl ⟨rfl, fun w9 hSw => by have hc := hSw.2.1; go_simp⟩) hHeld ?_
        try simp only [Act.put, List.setIfInBounds_toArray, List.set_cons_zero, List.set_cons_succ]
        refine takeL 9 (.slice (some ⟨b2, o2, none⟩) n cap2) rfl (by kernel_rfl) (by kernel_rfl) (by kernel_rfl) (fun _ _ _ h => h) (Or.inl ⟨rfl, fun _ _ => rfl⟩) hHeld ?_
        try simp only [Act.put, List.setIfInBounds_toArray, List.set_cons_zero, List.set_cons_succ]
        refine takeL 10 (.int .i64 k) rfl (by kernel_rfl) (by kernel_rfl) (by kernel_rfl) (fun _ _ _ h => h) (Or.inl ⟨rfl, fun _ _ => rfl⟩) hHeld ?_
        try simp only [Act.put, List.setIfInBounds_toArray, List.set_cons_zero, List.set_cons_succ]
        refine takeL 11 (.pointer (some ⟨b2, o2 + k * 2, none⟩)) rfl (by kernel_rfl) (by kernel_rfl) (by kernel_rfl) (fun _ _ _ h => h) (Or.inl ⟨rfl, fun w9 hSw => by go_simp⟩) hHeld ?_
        try simp only [Act.put, List.setIfInBounds_toArray, List.set_cons_zero, List.set_cons_succ]
        refine takeL 12 (.pointer (some ⟨b2, o2 + k * 2 + 1, none⟩)) rfl (by kernel_rfl) (by kernel_rfl) (by kernel_rfl) (fun _ _ _ h => h) (Or.inl ⟨rfl, fun w9 hSw => by go_simp⟩) hHeld ?_
        try simp only [Act.put, List.setIfInBounds_toArray, List.set_cons_zero, List.set_cons_succ]
        refine takeL 13 (.int .i64 b.wn) rfl (by kernel_rfl) (by kernel_rfl) (by kernel_rfl) (fun _ _ _ h => h) (Or.inl ⟨rfl, fun w9 hSw => by have hc := hSw.2.2.2; go_simp⟩) hHeld ?_
        try simp only [Act.put, List.setIfInBounds_toArray, List.set_cons_zero, List.set_cons_succ]
        refine takeL 14 (.bool false) rfl (by kernel_rfl) (by kernel_rfl) (by kernel_rfl) (fun _ _ _ h => h) (Or.inl ⟨rfl, fun w9 hSw => by go_simp⟩) hHeld ?_
        try simp only [Act.put, List.setIfInBounds_toArray, List.set_cons_zero, List.set_cons_succ]
        refine takeL 15 (.bool false) rfl (by kernel_rfl) (by kernel_rfl) (by kernel_rfl) (fun _ _ _ h => h) (Or.inl ⟨rfl, fun _ _ => rfl⟩) hHeld ?_
        try simp only [Act.put, List.setIfInBounds_toArray, List.set_cons_zero, List.set_cons_succ]
        refine takeL 16 (.slice (some ⟨b1, o1, none⟩) n cap1) rfl (by kernel_rfl) (by kernel_rfl) (by kernel_rfl) (fun _ _ _ h => h) (Or.inl ⟨rfl, fun _ _ => rfl⟩) hHeld ?_
        try simp only [Act.put, List.setIfInBounds_toArray, List.set_cons_zero, List.set_cons_succ]
        refine takeL 17 (.int .i64 k) rfl (by kernel_rfl) (by kernel_rfl) (by kernel_rfl) (fun _ _ _ h => h) (Or.inl ⟨rfl, fun _ _ => rfl⟩) hHeld ?_
        try simp only [Act.put, List.setIfInBounds_toArray, List.set_cons_zero, List.set_cons_succ]
        refine takeL 18 (.pointer (some ⟨b1, o1 + k * 2, none⟩)) rfl (by kernel_rfl) (by kernel_rfl) (by kernel_rfl) (fun _ _ _ h => h) (Or.inl ⟨rfl, fun w9 hSw => by go_simp⟩) hHeld ?_
        try simp only [Act.put, List.setIfInBounds_toArray, List.set_cons_zero, List.set_cons_succ]
        refine takeL 19 (.pointer (some ⟨b1, o1 + k * 2, none⟩)) rfl (by kernel_rfl) (by kernel_rfl) (by kernel_rfl) (fun _ _ _ h => h) (Or.inl ⟨rfl, fun w9 hSw => by go_simp⟩) hHeld ?_
        try simp only [Act.put, List.setIfInBounds_toArray, List.set_cons_zero, List.set_cons_succ]
        refine takeL 20 (.slice p1 b.ps.length c1) rfl (by kernel_rfl) (by kernel_rfl) (by kernel_rfl) (fun _ _ _ h => h) (Or.inl ⟨rfl, fun w9 hSw => by have hc := hSw.1; go_simp⟩) hHeld ?_
        try simp only [Act.put, List.setIfInBounds_toArray, List.set_cons_zero, List.set_cons_succ]
        refine takeL 21 (.slice (some ⟨b2, o2, none⟩) n cap2) rfl (by kernel_rfl) (by kernel_rfl) (by kernel_rfl) (fun _ _ _ h => h) (Or.inl ⟨rfl, fun _ _ => rfl⟩) hHeld ?_
        try simp only [Act.put, List.setIfInBounds_toArray, List.set_cons_zero, List.set_cons_succ]
        refine takeL 22 (.int .i64 k) rfl (by kernel_rfl) (by kernel_rfl) (by kernel_rfl) (fun _ _ _ h => h) (Or.inl ⟨rfl, fun _ _ => rfl⟩) hHeld ?_
        try simp only [Act.put, List.setIfInBounds_toArray, List.set_cons_zero, List.set_cons_succ]
        refine takeL 23 (.pointer (some ⟨b2, o2 + k * 2, none⟩)) rfl (by kernel_rfl) (by kernel_rfl) (by kernel_rfl) (fun _ _ _ h => h) (Or.inl ⟨rfl, fun w9 hSw => by go_simp⟩) hHeld ?_
        try simp only [Act.put, List.setIfInBounds_toArray, List.set_cons_zero, List.set_cons_succ]
        refine takeL 24 (.pointer (some ⟨b2, o2 + k * 2, none⟩)) rfl (by kernel_rfl) (by kernel_rfl) (by kernel_rfl) (fun _ _ _ h => h) (Or.inl ⟨rfl, fun w9 hSw => by go_simp⟩) hHeld ?_
        try simp only [Act.put, List.setIfInBounds_toArray, List.set_cons_zero, List.set_cons_succ]
        refine takeL 25 (.slice p2 b.ps.length c2) rfl (by kernel_rfl) (by kernel_rfl) (by kernel_rfl) (fun _ _ _ h => h) (Or.inl ⟨rfl, fun w9 hSw => by have hc := hSw.2.2.1; go_simp⟩) hHeld ?_
        try simp only [Act.put, List.setIfInBounds_toArray, List.set_cons_zero, List.set_cons_succ]
        refine oneL 26 rfl (by kernel_rfl) rfl (fun K hK => ?_)
        go_simp
        refine (unhide HC _ (PsAt.drew q1) (PsAt.drew q2)).mono ?_
        rintro e wz ⟨rfl, bz⟩
        go_wp2_with fail
        refine hK.out _ _ (⟨by rw [bz.cell (p := ⟨b1, o1 + k * 2, none⟩) (by simpa using l1)]; exact hHeld.1, by rw [bz.cell (p := ⟨b1, o1 + k * 2 + 1, none⟩) (by simpa using l1)]; exact hHeld.2.1, by rw [bz.cell (p := ⟨b2, o2 + k * 2, none⟩) (by simpa using l2)]; exact hHeld.2.2.1, by rw [bz.cell (p := ⟨b2, o2 + k * 2 + 1, none⟩) (by simpa using l2)]; exact hHeld.2.2.2⟩) (fun hHeld => ?_)
        clear hK K
        try simp only [Act.put, List.setIfInBounds_toArray, List.set_cons_zero, List.set_cons_succ]
        refine takeL 27 (.bool false) rfl (by kernel_rfl) (by kernel_rfl) (by kernel_rfl) (fun _ _ _ h => h) (Or.inl ⟨rfl, fun w9 hSw => by go_simp⟩) hHeld ?_
        try simp only [Act.put, List.setIfInBounds_toArray, List.set_cons_zero, List.set_cons_succ]
        refine takeL 28 (.bool false) rfl (by kernel_rfl) (by kernel_rfl) (by kernel_rfl) (fun _ _ _ h => h) (Or.inl ⟨rfl, fun w9 hSw => by go_simp⟩) hHeld ?_
        try simp only [Act.put, List.setIfInBounds_toArray, List.set_cons_zero, List.set_cons_succ]
        refine takeL 29 (.bool false) rfl (by kernel_rfl) (by kernel_rfl) (by kernel_rfl) (fun _ _ _ h => h) (Or.inl ⟨rfl, fun w9 hSw => by go_simp⟩) hHeld ?_
        try simp only [Act.put, List.setIfInBounds_toArray, List.set_cons_zero, List.set_cons_succ]
        refine wpAnyH_done (by kernel_rfl) ?_ _
        refine NoPanic.normal ?_
        have B2 := bw.drew.trans (bz.mono bw.size)
        clear bz bw d0 d1 e0 e1 hHeld q1 q2
        go_wp2
        go_roundw
        case rel => exact ⟨k + 1, by omega, by first | rfl | go_num, B2⟩
        case measure => simp [intOf]; omega
end Go.Proofs.Ytkikeapfjpnkgaa.Lo

/-
  What a wipe leaves, for the laws that draw.
-/
namespace Go.Proofs.Ytkikeapfjpnkgaa.Wp
open Go.ChangeShapes Go.WideShapes Go.ChangeAt Go.RowKit Go.Shelf Go.Joins OkA Big Fl ImplB ImplF ImplS ImplT ImplU SpecA SpecB SpecC SpecD SpecW SpecX SpecF SpecG SpecH FindP FindN FindO FindD ImplW ImplX Pick Draw ClA DrB PlB LawsE
open FlB (FsN)
set_option linter.unusedVariables false
set_option linter.unusedSimpArgs false
attribute [local go_sem ↓] Go.wp_at_zero Go.wp_at_succ

theorem wiR_len {bs : List Bk} {k : Int} {torn : Bool} (h4 : bs.length ≤ 4) : (wiR bs k torn).length ≤ 4 := by
  unfold wiR
  split
  · split
    · exact h4
    · rw [SpecX.wiL_len]; exact h4
  · simp
theorem wiR_pgs {bs : List Bk} {k : Int} {torn : Bool} (hp : ∀ b ∈ bs, b.ps.length ≤ 4) : ∀ b ∈ wiR bs k torn, b.ps.length ≤ 4 := by
  unfold wiR
  split
  · split
    · exact hp
    · intro b hb
      rcases List.mem_or_eq_of_mem_set hb with h | rfl
      · exact hp b h
      · simp [wiB]
  · intro b hb; simp at hb
theorem others_wi {bs : List Bk} {kn : Nat} {torn : Bool} : ∀ i (hi : i < (wiL bs kn torn).length) (hj : i < bs.length), (i : Int) ≠ (kn : Int) → (wiL bs kn torn)[i] = bs[i] := fun i hi hj hne => by
  unfold wiL
  exact List.getElem_set_ne (fun e => hne (by omega)) _
theorem wiL_at {bs : List Bk} {kn : Nat} {torn : Bool} (h : kn < bs.length) (h' : kn < (wiL bs kn torn).length) : (wiL bs kn torn)[kn] = wiB bs[kn] torn := by
  have e := Ok2.getD_in bs kn h
  simp only [wiL, e, List.getElem_set_self]
theorem wrap_in (n : Int) (h : -9223372036854775808 ≤ n) (h' : n ≤ 9223372036854775807) : IntKind.i64.wrap n = n := by
  rw [IntKind.wrap_i64]; omega
theorem wi_range {w : World} {pb po : Nat} {b : Bk} {torn : Bool} (hr : w.rangeAt pb po (psC (wiB b torn).ps)) (j : Nat) (hj : j < 4) : w.rangeAt pb (po + j * 5) (pgC (pgS torn)) := by
  have h := range_pg hr j (by simp [wiB]; exact hj)
  have e : (wiB b torn).ps[j]'(by simp [wiB]; exact hj) = pgS torn := by simp only [wiB, List.getElem_replicate]
  rw [e] at h
  exact h
def OutN (w : World) (L : List Bk) (n : Nat) (ok : Bool) (e : Ending) (w' : World) : Prop := ∃ a c, e = .returned (.tuple #[.slice a n c, .bool ok]) ∧ FsAt w' a L ∧ Below w.heap.size w w'
theorem OutN.of {w : World} {L M : List Bk} {n : Nat} {ok : Bool} {e : Ending} {w' : World} (h : OutPost w M ok e w') (hM : M = L) (hl : L.length = n) : OutN w L n ok e w' := by
  subst hM hl
  obtain ⟨v, rfl, X, b⟩ := h
  obtain ⟨a, c, rfl, hx⟩ := Own.NewFs.form X
  exact ⟨a, c, rfl, hx, b⟩
theorem wipe_yes (a : Option Addr) (cap n : Nat) (kn : Nat) (torn : Bool) (bs : List Bk) (w : World) (hf : FsAt w a bs) (hn : bs.length = n) (h : wiO bs (kn : Int) = true) :
    Calls Try.prog 23 #[.slice a n cap, .int .i64 kn, .bool torn] w fun e w' => OutN w (wiL bs kn torn) n true e w' := by
  subst hn
  have hl := ok_len (wiR_yes (torn := torn) h).2.2.1
  refine (implWipe_any a cap (kn : Int) torn bs w hf (by omega)).mono fun e w' hp => ?_
  rw [h] at hp
  exact OutN.of hp (by have := (wiR_yes (torn := torn) h).1; simpa using this) SpecX.wiL_len
theorem wipe_no (a : Option Addr) (cap n : Nat) (kn : Nat) (torn : Bool) (bs : List Bk) (w : World) (hf : FsAt w a bs) (hn : bs.length = n) (hok : okB bs = true) (hK : kn < 4) (h : wiO bs (kn : Int) = false) :
    Calls Try.prog 23 #[.slice a n cap, .int .i64 kn, .bool torn] w fun e w' => OutN w bs n false e w' := by
  subst hn
  have hl := ok_len hok
  refine (implWipe_any a cap (kn : Int) torn bs w hf (by omega)).mono fun e w' hp => ?_
  rw [h] at hp
  exact OutN.of hp (wiR_no (torn := torn) hok (by omega) (by omega) h).1 rfl
theorem wiO_iff {bs : List Bk} (hok : okB bs = true) (kn : Nat) (hK : kn < 4) (hl : kn < bs.length) : (wiO bs (kn : Int) = true ↔ bs[kn].wn < 200) := by
  have hin : inB (kn : Int) 0 3 = true := by simp [inB]; omega
  unfold wiO wiN
  rw [hok, hin, Int.toNat_natCast, Ok2.getD_in bs kn hl]
  simp
theorem size_pgw (p : Pg) : (Try.prog.info? 33).map (·.size) = some (pgC p).length := by rw [len_pgC]; kernel_rfl
end Go.Proofs.Ytkikeapfjpnkgaa.Wp

/-
  What a write leaves, for the laws that draw.
-/
namespace Go.Proofs.Ytkikeapfjpnkgaa.Ws
open Go.ChangeShapes Go.WideShapes Go.ChangeAt Go.RowKit Go.Shelf Go.Joins OkA Big Fl ImplB ImplF ImplS ImplT ImplU SpecA SpecB SpecC SpecD SpecW SpecX SpecF SpecG SpecH FindP FindN FindO FindD ImplW ImplX Pick Draw ClA DrB PlB LawsE Lq Lo Wp Ok2
open FlB (FsN)
set_option linter.unusedVariables false
set_option linter.unusedSimpArgs false
attribute [local go_sem ↓] Go.wp_at_zero Go.wp_at_succ

theorem wrR_len {bs : List Bk} {k rk rs ra rv : Int} {torn : Bool} (h4 : bs.length ≤ 4) : (wrR bs k rk rs ra rv torn).length ≤ 4 := by
  unfold wrR
  split
  · split
    · exact h4
    · simpa [wrL] using h4
  · simp
theorem wrR_pgs {bs : List Bk} {k rk rs ra rv : Int} {torn : Bool} (hp : ∀ b ∈ bs, b.ps.length ≤ 4) : ∀ b ∈ wrR bs k rk rs ra rv torn, b.ps.length ≤ 4 := by
  unfold wrR
  split
  · split
    · exact hp
    · intro b hb
      rcases List.mem_or_eq_of_mem_set hb with h | rfl
      · exact hp b h
      · simp only [List.length_set]
        by_cases hk : k.toNat < bs.length
        · rw [Ok2.getD_in bs _ hk]; exact hp _ (List.getElem_mem hk)
        · rw [List.getD_eq_getElem?_getD, List.getElem?_eq_none (by omega)]; exact Nat.le_refl 4
  · intro b hb; simp at hb
theorem getD_ne (bs : List Bk) (k j : Nat) (b : Bk) (h : j ≠ k) : (bs.set k b).getD j zBk = bs.getD j zBk := by
  rw [List.getD_eq_getElem?_getD, List.getElem?_set_ne (fun e => h e.symm), List.getD_eq_getElem?_getD]
theorem getD_eq (bs : List Bk) (k : Nat) (b : Bk) (h : k < bs.length) : (bs.set k b).getD k zBk = b := by
  rw [List.getD_eq_getElem?_getD, List.getElem?_set_self h]; rfl
theorem wrL_comm (bs : List Bk) (k m : Nat) (p q : Pg) (h : k ≠ m) : wrL (wrL bs k p) m q = wrL (wrL bs m q) k p := by
  simp only [wrL]
  rw [getD_ne _ k m _ (fun e => h e.symm), getD_ne _ m k _ h, List.set_comm _ _ h]
theorem has_wr {bs : List Bk} (hok : okB bs = true) (k : Nat) (hk : k < 4) (hu : usedN (bs.getD k zBk).ps ≠ 4) (p : Pg) (q : Int) : hasB (wrL bs k p) q = true ↔ (seqP p = some q ∨ hasB bs q = true) := by
  have hl := ok_len hok
  have hkl : k < bs.length := by omega
  have hg := Ok2.getD_in bs k hkl
  rw [hg] at hu
  have h4 : bs[k].ps.length = 4 := (ok_fours hok).at k hkl
  have hle := usedN_le bs[k].ps
  have hcl := used_clean bs[k].ps (by omega)
  have hnone : seqP (bs[k].ps[usedN bs[k].ps]'(by omega)) = none := by
    have : (bs[k].ps[usedN bs[k].ps]'(by omega)).st = 0 := by simpa [clB] using hcl
    unfold seqP
    rw [this]
    rfl
  have h1 := seqsP_set bs[k].ps (usedN bs[k].ps) p (by omega) hnone
  have h2 := seqs_set bs k ⟨bs[k].ps.set (usedN bs[k].ps) p, bs[k].wn⟩ _ hkl h1
  unfold hasB wrL
  rw [hg]
  rw [List.contains_iff_mem, List.contains_iff_mem, h2.mem_iff, List.mem_append, Option.mem_toList]
theorem seq_pgW (torn : Bool) (rk rs ra rv q : Int) : seqP (pgW torn rk rs ra rv) = some q ↔ torn = false ∧ rs = q := by
  cases torn <;> simp [pgW, seqP]
theorem write_yes (a : Option Addr) (cap n : Nat) (K : Nat) (rk rs ra rv : Int) (torn : Bool) (bs : List Bk) (w : World) (hf : FsAt w a bs) (hn : bs.length = n) (h : SpecD.wrB bs (K : Int) rk rs ra rv = true) :
    Calls Try.prog 15 #[.slice a n cap, .int .i64 K, .agg #[.int .i64 rk, .int .i64 rs, .int .i64 ra, .int .i64 rv], .bool torn] w fun e w' => OutN w (wrL bs K (pgW torn rk rs ra rv)) n true e w' := by
  subst hn
  have hl := ok_len (wrR_yes (torn := torn) h).2.2.1
  refine (implWrite_any a cap (K : Int) rk rs ra rv torn bs w hf (by omega)).mono fun e w' hp => ?_
  rw [h] at hp
  exact OutN.of hp (by have := (wrR_yes (torn := torn) h).1; simpa using this) (by simp [wrL])
theorem wrB_iff {bs : List Bk} (hok : okB bs = true) (K : Nat) (hK : K < 4) (rk rs ra rv : Int) (hr : recB rk rs ra rv = true) : SpecD.wrB bs (K : Int) rk rs ra rv = true ↔ usedN (bs.getD K zBk).ps ≠ 4 ∧ hasB bs rs = false := by
  have hin : inB (K : Int) 0 3 = true := by simp [inB]; omega
  unfold SpecD.wrB wrN
  rw [hok, hin, hr, Int.toNat_natCast]
  simp
end Go.Proofs.Ytkikeapfjpnkgaa.Ws
