/-
  A drawn record that is ok is so of the other kind, with any number, address and value that there is, and with none it is not: the given statement, with no condition.
-/
import Derived.Test.YtbgfdkpfejeliaaDraw
namespace Go.Proofs.Ytbgfdkpfejeliaa.RecAny
open Go.ChangeShapes Go.WideShapes Go.ChangeAt Go.RowKit Pick Draw OkA
set_option linter.unusedVariables false

theorem own : ownKnob Try.prog.godebug = none := by kernel_rfl
theorem laidOut : laidOutB Try.prog = true := by kernel_rfl

theorem res_draw {tmps : Array Value} {w : World} {b : Nat} {k s a v : Int} (ht : tmps.getD 2 undef = .pointer (some ⟨b, 0, none⟩)) (h0 : w.cell? ⟨b, 0, none⟩ = some (.int .i64 k)) (h1 : w.cell? ⟨b, 1, none⟩ = some (.int .i64 s)) (h2 : w.cell? ⟨b, 2, none⟩ = some (.int .i64 a)) (h3 : w.cell? ⟨b, 3, none⟩ = some (.int .i64 v)) :
    (results Try.f5 tmps).run Try.prog w = .ok (.agg #[.int .i64 k, .int .i64 s, .int .i64 a, .int .i64 v]) w := by
  have ht' : tmps[2]?.getD undef = .pointer (some ⟨b, 0, none⟩) := by simpa using ht
  simp [results, Try.results5, go_sem, ht', h0, h1, h2, h3]

set_option maxHeartbeats 1000000 in
theorem draw_any (w : World) (a : Option Addr) (len cap : Nat) (zs : List Int) (h : IsRow .u8 w a len cap zs) :
    Calls Try.prog 5 #[.slice a len cap] w fun e w' => ∃ k s x v : Int, e = .returned (.agg #[.int .i64 k, .int .i64 s, .int .i64 x, .int .i64 v]) ∧ Small k ∧ Small s ∧ Small x ∧ Small v ∧ Below w.heap.size w w' := by
  go_enter Try.func5, Try.ntmps5
  have b0 : ∀ o, Below w.heap.size w (w.alloc o) := fun o => (Below.refl _ _).alloc (Nat.le_refl _) o
  go_wp2_with fail
  refine (open_any _ a len cap zs (isRow_below h (b0 _))).mono ?_
  rintro e w1 ⟨rfl, len', hl, hr, d1⟩
  rw [World.size_alloc] at d1
  go_wp2_with fail
  refine (l71Rec_any _ _ _ a len' cap 0 hr hl d1 (by omega) (by omega)).mono ?_
  rintro e w2 ⟨k, s, x, v, p', rfl, k1, s1, x1, v1, p0, p1, d2⟩
  go_wp2_with fail
  refine (pick_any _ _ _ a len' cap p' 4 hr hl (d2.alloc _) (by omega) (by omega) (by omega) (by omega)).mono ?_
  rintro e w3 ⟨t, rfl, t0, t1, d3, m3⟩
  have hold := d2.lt
  have hold2 := d2.old
  simp at hold hold2
  have hne : w2.heap.size ≠ w.heap.size + 1 := by omega
  have hne0 : w.heap.size ≠ w.heap.size + 1 := by omega
  have z3 : w2.heap.size < w3.heap.size := by have := m3.size; simp at this; omega
  have bw : Below w.heap.size w w3 := (b0 _).trans (d3.bel.mono (by simp))
  have r0 : w3.cell? ⟨w.heap.size, 0, none⟩ = some (.int .i64 0) := by rw [d3.bel.cell (p := ⟨w.heap.size, 0, none⟩) (by simp)]; simp
  have q0 : w3.frozen? ⟨w.heap.size, 0, none⟩ = false := by rw [d3.bel.frozen (p := ⟨w.heap.size, 0, none⟩) (by simp)]; simp
  have y0 : w3.cell? ⟨w2.heap.size, 0, none⟩ = some (.int .i64 k) := by rw [m3.cell _ _ (by simp) (by simpa using hne)]; simp
  have u0 : w3.frozen? ⟨w2.heap.size, 0, none⟩ = false := by rw [m3.froz _ _ (by simp)]; simp
  have r1 : w3.cell? ⟨w.heap.size, 1, none⟩ = some (.int .i64 0) := by rw [d3.bel.cell (p := ⟨w.heap.size, 1, none⟩) (by simp)]; simp
  have q1 : w3.frozen? ⟨w.heap.size, 1, none⟩ = false := by rw [d3.bel.frozen (p := ⟨w.heap.size, 1, none⟩) (by simp)]; simp
  have y1 : w3.cell? ⟨w2.heap.size, 1, none⟩ = some (.int .i64 s) := by rw [m3.cell _ _ (by simp) (by simpa using hne)]; simp
  have u1 : w3.frozen? ⟨w2.heap.size, 1, none⟩ = false := by rw [m3.froz _ _ (by simp)]; simp
  have r2 : w3.cell? ⟨w.heap.size, 2, none⟩ = some (.int .i64 0) := by rw [d3.bel.cell (p := ⟨w.heap.size, 2, none⟩) (by simp)]; simp
  have q2 : w3.frozen? ⟨w.heap.size, 2, none⟩ = false := by rw [d3.bel.frozen (p := ⟨w.heap.size, 2, none⟩) (by simp)]; simp
  have y2 : w3.cell? ⟨w2.heap.size, 2, none⟩ = some (.int .i64 x) := by rw [m3.cell _ _ (by simp) (by simpa using hne)]; simp
  have u2 : w3.frozen? ⟨w2.heap.size, 2, none⟩ = false := by rw [m3.froz _ _ (by simp)]; simp
  have r3 : w3.cell? ⟨w.heap.size, 3, none⟩ = some (.int .i64 0) := by rw [d3.bel.cell (p := ⟨w.heap.size, 3, none⟩) (by simp)]; simp
  have q3 : w3.frozen? ⟨w.heap.size, 3, none⟩ = false := by rw [d3.bel.frozen (p := ⟨w.heap.size, 3, none⟩) (by simp)]; simp
  have y3 : w3.cell? ⟨w2.heap.size, 3, none⟩ = some (.int .i64 v) := by rw [m3.cell _ _ (by simp) (by simpa using hne)]; simp
  have u3 : w3.frozen? ⟨w2.heap.size, 3, none⟩ = false := by rw [m3.froz _ _ (by simp)]; simp
  by_cases e0 : t = 0
  · subst e0
    go_wp2_with fail
    refine (pick_any _ _ _ a len' cap (p' + 1) 4 hr hl d3 (by omega) (by omega) (by omega) (by omega)).mono ?_
    rintro e w4 ⟨t, rfl, t0', t1', d4, m4⟩
    have bw4 : Below w.heap.size w w4 := (b0 _).trans (d4.bel.mono (by simp))
    rw [← m4.cell _ _ (by omega) hne0] at r0 r1 r2 r3
    rw [← m4.cell _ _ z3 (by simpa using hne)] at y0 y1 y2 y3
    rw [← m4.froz _ _ (by omega)] at q0 q1 q2 q3
    rw [← m4.froz _ _ z3] at u0 u1 u2 u3
    clear m3 m4 d3 d4 d2 d1
    go_wp2
    refine bodyPost_ret (res_draw rfl (by go_cell) (by go_cell) (by go_cell) (by go_cell)) rfl ⟨_, _, _, _, rfl, ⟨by omega, by omega⟩, s1, x1, v1, ((((bw4.setCell (p := ⟨w2.heap.size, 0, none⟩) (by simp; omega) _).setCell (Nat.le_refl _) _).setCell (Nat.le_refl _) _).setCell (Nat.le_refl _) _).setCell (Nat.le_refl _) _⟩
  · clear m3 d3 d2 d1
    go_wp2
    refine bodyPost_ret (res_draw rfl (by go_cell) (by go_cell) (by go_cell) (by go_cell)) rfl ⟨_, _, _, _, rfl, k1, s1, x1, v1, ((((bw).setCell (Nat.le_refl _) _).setCell (Nat.le_refl _) _).setCell (Nat.le_refl _) _).setCell (Nat.le_refl _) _⟩

set_option maxHeartbeats 1000000 in
theorem walk (a0 : Option Addr) (len0 cap0 : Nat) (z0 : List Int) (a1 : Option Addr) (len1 cap1 : Nat) (z1 : List Int) (w : World) (h0 : IsRow .u8 w a0 len0 cap0 z0) (h1 : IsRow .u8 w a1 len1 cap1 z1) :
    Calls Try.prog 3 #[.slice a0 len0 cap0, .slice a1 len1 cap1] w fun e w' => e = .returned (.bool true) ∧ Below w.heap.size w w' := by
  by_cases c0 : (1048576 : Int) < (len0 : Int)
  · clear h0 h1
    go_enter Try.func3, Try.ntmps3
    go_wp2
    go_ret
    exact ⟨rfl, Below.refl _ _⟩
  by_cases c1 : (1048576 : Int) < (len1 : Int)
  · clear h0 h1
    go_enter Try.func3, Try.ntmps3
    go_wp2
    go_ret
    exact ⟨rfl, Below.refl _ _⟩
  go_enter Try.func3, Try.ntmps3
  go_wp2_with fail
  refine (draw_any _ a0 len0 cap0 z0 h0).mono ?_
  rintro e w1 ⟨k, s, x, v, rfl, k1, s1, x1, v1, b1⟩
  clear h0 h1
  go_wp2_with fail
  refine (recOk_any _ _ _ _ _).mono ?_
  rintro e w2 ⟨rfl, b2⟩
  have hc := fun j => b2.cell (p := ⟨w1.heap.size, j, none⟩) (by simp)
  have d0 := hc 0
  have d1 := hc 1
  have d2 := hc 2
  have d3 := hc 3
  clear hc
  simp at d0 d1 d2 d3
  go_wp2_with fail
  refine (specOk_any _ _ _ _ _).mono ?_
  rintro e w3 ⟨rfl, b3⟩
  have z2 : w1.heap.size < w2.heap.size := by have := b2.size; simp at this; omega
  have z3 := b3.size
  have z13 : w1.heap.size < w3.heap.size := by omega
  rw [← b3.cell (p := ⟨w1.heap.size, 0, none⟩) z2] at d0
  rw [← b3.cell (p := ⟨w1.heap.size, 1, none⟩) z2] at d1
  rw [← b3.cell (p := ⟨w1.heap.size, 2, none⟩) z2] at d2
  rw [← b3.cell (p := ⟨w1.heap.size, 3, none⟩) z2] at d3
  have bw : Below w.heap.size w w3 := b1.trans ((((Below.refl _ _).alloc b1.size _).trans (b2.mono (by have := b1.size; simp; omega))).trans (b3.mono (by have := b1.size; omega)))
  have zw := bw.size
  clear b1 b2 b3
  cases hB : recB k s x v
  · go_wp2_with fail
    refine (specOk_any _ _ _ _ _).mono ?_
    rintro e w4 ⟨rfl, b4⟩
    rw [hB]
    clear hB d0 d1 d2 d3
    go_wp2
    go_ret
    exact ⟨rfl, bw.trans (b4.mono (by omega))⟩
  · obtain ⟨hk, hn⟩ : (1 ≤ k ∧ k ≤ 2) ∧ numB s x v = true := by simpa [recB, inB] using hB
    have hz0 : 0 ≤ (len1 : Int) % 600 ∧ (len1 : Int) % 600 < 600 := by omega
    have hz1 : 0 ≤ (len1 : Int) % 6 ∧ (len1 : Int) % 6 < 6 := by omega
    have hz2 : 0 ≤ (len1 : Int) % 10 ∧ (len1 : Int) % 10 < 10 := by omega
    have e1 : recB (3 - k) (1 + (len1 : Int) % 600) (1 + (len1 : Int) % 6) ((len1 : Int) % 10) = true := by
      simp only [recB, numB, inB, Bool.and_eq_true, decide_eq_true_eq]; omega
    have e2 : recB k s x 10 = false := by simp [recB, numB, inB]
    have e3 : recB k 0 x v = false := by simp [recB, numB, inB]
    clear hB hn
    go_wp2_with fail
    refine (recOk_any _ _ _ _ _).mono ?_
    rintro e w4 ⟨rfl, b4⟩
    rw [e1]
    have bw4 : Below w.heap.size w w4 := bw.trans ((((Below.refl _ _).alloc zw _).alloc (by simp; omega) _).alloc (by simp; omega) _ |>.trans (b4.mono (by simp; omega)))
    have z4 := b4.size
    simp at z4
    have hy := fun j => b4.cell (p := ⟨w3.heap.size + 1, j, none⟩) (by simp)
    have hz := fun j => b4.cell (p := ⟨w3.heap.size + 1 + 1, j, none⟩) (by simp)
    have g0 : w4.cell? ⟨w3.heap.size + 1, 0, none⟩ = some (.int .i64 k) := (hy 0).trans (by rw [World.cell?_alloc_lt _ _ _ (by simp)]; exact cell_top _ _ _ _ _ _ (by simp) rfl)
    have g1 : w4.cell? ⟨w3.heap.size + 1, 1, none⟩ = some (.int .i64 s) := (hy 1).trans (by rw [World.cell?_alloc_lt _ _ _ (by simp)]; exact cell_top _ _ _ _ _ _ (by simp) rfl)
    have g2 : w4.cell? ⟨w3.heap.size + 1, 2, none⟩ = some (.int .i64 x) := (hy 2).trans (by rw [World.cell?_alloc_lt _ _ _ (by simp)]; exact cell_top _ _ _ _ _ _ (by simp) rfl)
    have g3 : w4.cell? ⟨w3.heap.size + 1, 3, none⟩ = some (.int .i64 10) := (hy 3).trans (by rw [World.cell?_alloc_lt _ _ _ (by simp)]; exact cell_top _ _ _ _ _ _ (by simp) rfl)
    have l0 : w4.cell? ⟨w3.heap.size + 1 + 1, 0, none⟩ = some (.int .i64 k) := (hz 0).trans (by exact cell_top _ _ _ _ _ _ (by simp) rfl)
    have l1 : w4.cell? ⟨w3.heap.size + 1 + 1, 1, none⟩ = some (.int .i64 0) := (hz 1).trans (by exact cell_top _ _ _ _ _ _ (by simp) rfl)
    have l2 : w4.cell? ⟨w3.heap.size + 1 + 1, 2, none⟩ = some (.int .i64 x) := (hz 2).trans (by exact cell_top _ _ _ _ _ _ (by simp) rfl)
    have l3 : w4.cell? ⟨w3.heap.size + 1 + 1, 3, none⟩ = some (.int .i64 v) := (hz 3).trans (by exact cell_top _ _ _ _ _ _ (by simp) rfl)
    clear hy hz b4 d0 d1 d2 d3
    go_wp2_with fail
    refine (recOk_any _ _ _ _ _).mono ?_
    rintro e w5 ⟨rfl, b5⟩
    rw [e2]
    rw [← b5.cell (p := ⟨w3.heap.size + 1 + 1, 0, none⟩) (by simp; omega)] at l0
    rw [← b5.cell (p := ⟨w3.heap.size + 1 + 1, 1, none⟩) (by simp; omega)] at l1
    rw [← b5.cell (p := ⟨w3.heap.size + 1 + 1, 2, none⟩) (by simp; omega)] at l2
    rw [← b5.cell (p := ⟨w3.heap.size + 1 + 1, 3, none⟩) (by simp; omega)] at l3
    have bw5 : Below w.heap.size w w5 := bw4.trans (b5.mono bw4.size)
    clear g0 g1 g2 g3 b5
    go_wp2_with fail
    refine (recOk_any _ _ _ _ _).mono ?_
    rintro e w6 ⟨rfl, b6⟩
    rw [e3]
    have bw6 : Below w.heap.size w w6 := bw5.trans (b6.mono bw5.size)
    clear l0 l1 l2 l3 b6
    go_wp2
    go_ret
    exact ⟨rfl, bw6⟩

set_option maxRecDepth 100000 in
theorem lifted (os : Os) (started : os.Started) (H : Type) (enc : TypeId × Value → H) :
    ReturnsInHanded {} Try.checked os 3 .any (Rows.fnRecAnySpec.pre6 enc Try.prog Try.f3 Rows.fnRecAnyRow.domain false) (Rows.fnRecAnySpec.post enc Try.prog Try.f3 false true false false) := by
  refine returnsInHanded_of_change (C := Try.checked) own started (by kernel_rfl) Try.func3
    (ChangeSpec.witness6 (enc := enc) (C := Try.checked) false ⟨#[], #[.slice none 0 0, .slice none 0 0], []⟩ 8 (by kernel_rfl) (by kernel_rfl) (by kernel_rfl) (by kernel_rfl)) ?_
  intro W base args ds gs before hval0 hW hcnd _
  have hval : ∀ (j : Nat) t v, Try.f3.params[j]? = some t → args[j]? = some v → Value.okWide Try.prog W .any base t v := hval0
  have hW' := hW
  obtain ⟨p, q, hA0, hV, rfl, hfz, hnd⟩ := hW
  have hA : DataW.TrodAll enc Try.prog W 0 (fun _ => true) true Try.f3.params.toList args.toList ds p := hA0
  rw [Try.params3] at hA hval
  obtain ⟨v0, vs0, d0, ds0, p0, q0, hargs, rfl, rfl, h0, r0⟩ := trodAll_cons hA
  obtain ⟨v1, vs1, d1, ds1, p1, q1, rfl, rfl, rfl, h1, r1⟩ := trodAll_cons r0
  obtain ⟨rfl, rfl, rfl⟩ := trodAll_nil r1
  obtain rfl : args = #[v0, v1] := by cases args; simp_all
  obtain ⟨rfl, rfl⟩ := trodVars_none hV
  have k0 := h0
  have lt0 : ∀ x ∈ p0, x.block < W.heap.size := by obtain ⟨m, hm⟩ := k0; exact DataW.trod_lt m _ _ _ hm
  obtain ⟨a0, len0, cap0, rfl⟩ := okWide_slice Try.underlying22 (hval 0 22 v0 rfl rfl)
  obtain ⟨z0, w0⟩ : ∃ zs, IsRow .u8 W a0 len0 cap0 zs := by
    obtain ⟨fuel, hf⟩ := h0
    rcases open_ints Try.underlying22 Try.underlying5 (by kernel_rfl) hf with ⟨hcs, _⟩ | ⟨x, l, c, zs, hcs, _, hl, hm, hz, _, hcell, hwz⟩
    · simp [Value.cells] at hcs
      obtain ⟨rfl, rfl, rfl⟩ := hcs
      exact ⟨[], .inl ⟨rfl, rfl, rfl, rfl⟩⟩
    · simp [Value.cells] at hcs
      obtain ⟨rfl, rfl, rfl⟩ := hcs
      exact ⟨zs, .inr ⟨_, rfl, hl, hm, by simpa using hz, hcell, hwz⟩⟩
  have k1 := h1
  have lt1 : ∀ x ∈ p1, x.block < W.heap.size := by obtain ⟨m, hm⟩ := k1; exact DataW.trod_lt m _ _ _ hm
  obtain ⟨a1, len1, cap1, rfl⟩ := okWide_slice Try.underlying22 (hval 1 22 v1 rfl rfl)
  obtain ⟨z1, w1⟩ : ∃ zs, IsRow .u8 W a1 len1 cap1 zs := by
    obtain ⟨fuel, hf⟩ := h1
    rcases open_ints Try.underlying22 Try.underlying5 (by kernel_rfl) hf with ⟨hcs, _⟩ | ⟨x, l, c, zs, hcs, _, hl, hm, hz, _, hcell, hwz⟩
    · simp [Value.cells] at hcs
      obtain ⟨rfl, rfl, rfl⟩ := hcs
      exact ⟨[], .inl ⟨rfl, rfl, rfl, rfl⟩⟩
    · simp [Value.cells] at hcs
      obtain ⟨rfl, rfl, rfl⟩ := hcs
      exact ⟨zs, .inr ⟨_, rfl, hl, hm, by simpa using hz, hcell, hwz⟩⟩
  clear hA0
  refine (walk a0 len0 cap0 z0 a1 len1 cap1 z1 W w0 w1).mono fun e W' ⟨he, bel⟩ => ?_
  subst he
  exact ⟨_, rfl, _, _, _, [], _, [], hW', trodAll_mk1 (shut_bool Try.underlying4 _), (trodAll_cons_mk (Below.trod laidOut (by kernel_rfl) (of_decide_eq_true (by kernel_rfl)) k0 bel lt0) (trodAll_cons_mk (Below.trod laidOut (by kernel_rfl) (of_decide_eq_true (by kernel_rfl)) k1 bel lt1) trodAll_mk0)), rfl, bel.frame _, fun h => by cases h⟩

theorem over : Rows.fnRecAnyRow.holds Try.pinned (OpenSpec.ofChange Rows.fnRecAnySpec) :=
  OpenClaim.holds_of_wide 3 Try.f3 rfl rfl rfl rfl rfl rfl rfl ⟨rfl, rfl, rfl, rfl, rfl⟩ rfl rfl rfl rfl rfl (by kernel_rfl) Try.func3 (by kernel_rfl)
    (of_decide_eq_true (by kernel_rfl)) (by unfold Func.isWrapper; first | (rw [if_pos (by decide +kernel)]; kernel_rfl) | (rw [if_neg (by decide +kernel)]; exact ⟨rfl, rfl⟩))
    (fun os started H enc _ => lifted os started H enc)
end Go.Proofs.Ytbgfdkpfejeliaa.RecAny
namespace Go.Proofs.Ytbgfdkpfejeliaa
theorem fnRecAny_holds : Rows.FnRecAnySaid := RecAny.over
end Go.Proofs.Ytbgfdkpfejeliaa
