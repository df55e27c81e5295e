/-
  What something costs: three numbers, whether they are such as may be, and both together.
-/
import Derived.Test.YtogfelpdgeionaaGaA
import Derived.Test.YtogfelpdgeionaaGaP
namespace Go.Proofs.Ytogfelpdgeionaa.Cst
open Go.ChangeShapes Go.WideShapes Go.ChangeAt Go.RowKit OkA Big ImplL
set_option linter.unusedVariables false
set_option linter.unusedSimpArgs false
attribute [local go_sem ↓] Go.wp_at_zero Go.wp_at_succ

/-- Whether three numbers are such as may be. -/
def okC (x y z : Int) : Bool := inB x 0 9999 && inB y 0 9999 && inB z 0 9999
theorem okC_iff {x y z : Int} : okC x y z = true ↔ (0 ≤ x ∧ x ≤ 9999) ∧ (0 ≤ y ∧ y ≤ 9999) ∧ (0 ≤ z ∧ z ≤ 9999) := by simp [okC, inB, and_assoc]
/-- What CostAdd answers, number by number. -/
def caN (x y z a b c : Int) (n m : Int) : Int := if okC x y z && okC a b c then n + m else 0

set_option maxHeartbeats 1000000 in
theorem l22Ok_any (x y z : Int) (w : World) :
    Calls Try.prog 30 #[.agg #[.int .i64 x, .int .i64 y, .int .i64 z]] w fun e w' => e = .returned (.bool (okC x y z)) ∧ Below w.heap.size w w' := by
  have B0 : Below w.heap.size w (w.alloc (.cells #[.int .i64 x, .int .i64 y, .int .i64 z] 25)) := (Below.refl _ _).alloc (Nat.le_refl _) _
  have HW := hide (fun (n : Int) (w' : World) => l6In_any n 0 9999 w')
  have HR : Hid (okC x y z = (inB x 0 9999 && inB y 0 9999 && inB z 0 9999)) := rfl
  generalize okC x y z = R at *
  go_enter Try.func30, Try.ntmps30
  go_wp2_with fail
  refine (unhide HW x _).mono ?_
  rintro e w' ⟨rfl, rfl⟩
  cases hx : inB x 0 9999
  · have HE : Hid (R = false) := by show _ = _; rw [unhide HR, hx]; rfl
    simp only [hx]
    go_wp2
    go_ret
    exact ⟨by rw [unhide HE]; rfl, B0⟩
  · simp only [hx]
    go_wp2_with fail
    refine (unhide HW y _).mono ?_
    rintro e w' ⟨rfl, rfl⟩
    cases hy : inB y 0 9999
    · have HE : Hid (R = false) := by show _ = _; rw [unhide HR, hx, hy]; rfl
      simp only [hy]
      go_wp2
      go_ret
      exact ⟨by rw [unhide HE]; rfl, B0⟩
    · simp only [hy]
      go_wp2_with fail
      refine (unhide HW z _).mono ?_
      rintro e w' ⟨rfl, rfl⟩
      have HE : Hid (R = inB z 0 9999) := by show _ = _; rw [unhide HR, hx, hy]; rfl
      go_wp2
      go_ret
      exact ⟨by rw [unhide HE]; rfl, B0⟩

set_option maxHeartbeats 1000000 in
theorem implOkC_any (x y z : Int) (w : World) :
    Calls Try.prog 32 #[.agg #[.int .i64 x, .int .i64 y, .int .i64 z]] w fun e w' => e = .returned (.bool (okC x y z)) ∧ Below w.heap.size w w' := by
  have B0 : Below w.heap.size w (w.alloc (.cells #[.int .i64 x, .int .i64 y, .int .i64 z] 25)) := (Below.refl _ _).alloc (Nat.le_refl _) _
  have HW := hide (fun (n : Int) (w' : World) => within_any n 0 9999 w')
  have HR : Hid (okC x y z = (inB x 0 9999 && inB y 0 9999 && inB z 0 9999)) := rfl
  generalize okC x y z = R at *
  go_enter Try.func32, Try.ntmps32
  go_wp2_with fail
  refine (unhide HW x _).mono ?_
  rintro e w' ⟨rfl, rfl⟩
  cases hx : inB x 0 9999
  · have HE : Hid (R = false) := by show _ = _; rw [unhide HR, hx]; rfl
    simp only [hx]
    go_wp2
    go_ret
    exact ⟨by rw [unhide HE]; rfl, B0⟩
  · simp only [hx]
    go_wp2_with fail
    refine (unhide HW y _).mono ?_
    rintro e w' ⟨rfl, rfl⟩
    cases hy : inB y 0 9999
    · have HE : Hid (R = false) := by show _ = _; rw [unhide HR, hx, hy]; rfl
      simp only [hy]
      go_wp2
      go_ret
      exact ⟨by rw [unhide HE]; rfl, B0⟩
    · simp only [hy]
      go_wp2_with fail
      refine (unhide HW z _).mono ?_
      rintro e w' ⟨rfl, rfl⟩
      have HE : Hid (R = inB z 0 9999) := by show _ = _; rw [unhide HR, hx, hy]; rfl
      go_wp2
      go_ret
      exact ⟨by rw [unhide HE]; rfl, B0⟩

set_option maxHeartbeats 1000000 in
theorem l22Add_any (x y z a b c : Int) (w : World) (h1 : 0 ≤ x ∧ x ≤ 1000000000) (h2 : 0 ≤ y ∧ y ≤ 1000000000) (h3 : 0 ≤ z ∧ z ≤ 1000000000) (k1 : 0 ≤ a ∧ a ≤ 1000000000) (k2 : 0 ≤ b ∧ b ≤ 1000000000) (k3 : 0 ≤ c ∧ c ≤ 1000000000) :
    Calls Try.prog 31 #[.agg #[.int .i64 x, .int .i64 y, .int .i64 z], .agg #[.int .i64 a, .int .i64 b, .int .i64 c]] w fun e w' => e = .returned (.agg #[.int .i64 (x + a), .int .i64 (y + b), .int .i64 (z + c)]) ∧ Below w.heap.size w w' := by
  obtain ⟨x0, x1⟩ := h1
  obtain ⟨y0, y1⟩ := h2
  obtain ⟨z0, z1⟩ := h3
  obtain ⟨a0, a1⟩ := k1
  obtain ⟨b0, b1⟩ := k2
  obtain ⟨c0, c1⟩ := k3
  go_enter Try.func31, Try.ntmps31
  go_wp2
  exact bodyPost_ret (v := .agg #[.int .i64 (x + a), .int .i64 (y + b), .int .i64 (z + c)]) (by simp [results, Try.results31, go_sem]) rfl ⟨rfl, (((Below.refl _ _).alloc (Nat.le_refl _) _).alloc (by simp) _).alloc (by simp; omega) _⟩

set_option maxHeartbeats 1000000 in
theorem with_any (x y z a b c : Int) (w : World) (h1 : 0 ≤ x ∧ x ≤ 1000000000) (h2 : 0 ≤ y ∧ y ≤ 1000000000) (h3 : 0 ≤ z ∧ z ≤ 1000000000) (k1 : 0 ≤ a ∧ a ≤ 1000000000) (k2 : 0 ≤ b ∧ b ≤ 1000000000) (k3 : 0 ≤ c ∧ c ≤ 1000000000) :
    Calls Try.prog 33 #[.agg #[.int .i64 x, .int .i64 y, .int .i64 z], .agg #[.int .i64 a, .int .i64 b, .int .i64 c]] w fun e w' => e = .returned (.agg #[.int .i64 (x + a), .int .i64 (y + b), .int .i64 (z + c)]) ∧ Below w.heap.size w w' := by
  obtain ⟨x0, x1⟩ := h1
  obtain ⟨y0, y1⟩ := h2
  obtain ⟨z0, z1⟩ := h3
  obtain ⟨a0, a1⟩ := k1
  obtain ⟨b0, b1⟩ := k2
  obtain ⟨c0, c1⟩ := k3
  go_enter Try.func33, Try.ntmps33
  go_wp2
  exact bodyPost_ret (v := .agg #[.int .i64 (x + a), .int .i64 (y + b), .int .i64 (z + c)]) (by simp [results, Try.results33, go_sem]) rfl ⟨rfl, (((Below.refl _ _).alloc (Nat.le_refl _) _).alloc (by simp) _).alloc (by simp; omega) _⟩

set_option maxHeartbeats 2000000 in
theorem specAddC_any (x y z a b c : Int) (w : World) :
    Calls Try.prog 13 #[.agg #[.int .i64 x, .int .i64 y, .int .i64 z], .agg #[.int .i64 a, .int .i64 b, .int .i64 c]] w fun e w' => e = .returned (.agg #[.int .i64 (caN x y z a b c x a), .int .i64 (caN x y z a b c y b), .int .i64 (caN x y z a b c z c)]) ∧ Below w.heap.size w w' := by
  have B : Below w.heap.size w (((w.alloc (.cells #[.int .i64 x, .int .i64 y, .int .i64 z] 25)).alloc (.cells #[.int .i64 a, .int .i64 b, .int .i64 c] 25)).alloc (.cells #[.int .i64 0, .int .i64 0, .int .i64 0] 25)) := (((Below.refl _ _).alloc (Nat.le_refl _) _).alloc (by simp) _).alloc (by simp; omega) _
  have cX := ((CsAt.new w [.int .i64 x, .int .i64 y, .int .i64 z] 25).alloc (by simp) (.cells #[.int .i64 a, .int .i64 b, .int .i64 c] 25)).alloc (by simp; omega) (.cells #[.int .i64 0, .int .i64 0, .int .i64 0] 25)
  have cY := (CsAt.new (w.alloc (.cells #[.int .i64 x, .int .i64 y, .int .i64 z] 25)) [.int .i64 a, .int .i64 b, .int .i64 c] 25).alloc (by simp) (.cells #[.int .i64 0, .int .i64 0, .int .i64 0] 25)
  have cR := CsAt.new ((w.alloc (.cells #[.int .i64 x, .int .i64 y, .int .i64 z] 25)).alloc (.cells #[.int .i64 a, .int .i64 b, .int .i64 c] 25)) [.int .i64 0, .int .i64 0, .int .i64 0] 25
  have hs : w.heap.size + 3 ≤ (((w.alloc (.cells #[.int .i64 x, .int .i64 y, .int .i64 z] 25)).alloc (.cells #[.int .i64 a, .int .i64 b, .int .i64 c] 25)).alloc (.cells #[.int .i64 0, .int .i64 0, .int .i64 0] 25)).heap.size := by simp
  rw [World.size_alloc] at cY
  rw [World.size_alloc, World.size_alloc] at cR
  have HK := hide (fun (x y z : Int) (w' : World) => l22Ok_any x y z w')
  have HN : Hid ((okC x y z && okC a b c) = false → (.agg #[.int .i64 (caN x y z a b c x a), .int .i64 (caN x y z a b c y b), .int .i64 (caN x y z a b c z c)] : Value) = .agg #[.int .i64 0, .int .i64 0, .int .i64 0]) := fun h => by simp [caN, h]
  have HY : Hid ((okC x y z && okC a b c) = true → (.agg #[.int .i64 (caN x y z a b c x a), .int .i64 (caN x y z a b c y b), .int .i64 (caN x y z a b c z c)] : Value) = .agg #[.int .i64 (x + a), .int .i64 (y + b), .int .i64 (z + c)]) := fun h => by simp [caN, h]
  generalize (.agg #[.int .i64 (caN x y z a b c x a), .int .i64 (caN x y z a b c y b), .int .i64 (caN x y z a b c z c)] : Value) = R at *
  go_enter Try.func13, Try.ntmps13
  go_wp2_with fail
  generalize ((w.alloc (.cells #[.int .i64 x, .int .i64 y, .int .i64 z] 25)).alloc (.cells #[.int .i64 a, .int .i64 b, .int .i64 c] 25)).alloc (.cells #[.int .i64 0, .int .i64 0, .int .i64 0] 25) = w1 at *
  refine (unhide HK x y z _).mono ?_
  rintro e w2 ⟨rfl, b⟩
  replace B := B.trans (b.mono B.size)
  replace cX := CsAt.below cX b (by omega)
  replace cY := CsAt.below cY b (by omega)
  replace cR := CsAt.below cR b (by omega)
  replace hs := Nat.le_trans hs b.size
  clear b
  have y0 := cY.cell 0 _ rfl
  have y1 := cY.cell 1 _ rfl
  have y2 := cY.cell 2 _ rfl
  cases hx : okC x y z
  · have HN : Hid (R = .agg #[.int .i64 0, .int .i64 0, .int .i64 0]) := unhide HN (by rw [hx]; rfl)
    have d0 := cR.cell 0 _ rfl
    have d1 := cR.cell 1 _ rfl
    have d2 := cR.cell 2 _ rfl
    have f0 := cR.frozen 0 (by simp)
    have f1 := cR.frozen 1 (by simp)
    have f2 := cR.frozen 2 (by simp)
    have pt := cR.put [.int .i64 0, .int .i64 0, .int .i64 0] rfl
    have BZ := ((Kp.Kept.of (L := []) B).setCells (b := w.heap.size + 1 + 1) (.inr (by omega)) 0 [.int .i64 0, .int .i64 0, .int .i64 0]).all (by simp)
    go_wp2
    refine bodyPost_ret (res_cell_mid Try.results13 _ _ (w.heap.size + 1 + 1) [.int .i64 0, .int .i64 0, .int .i64 0] _ rfl pt.cells Try.underlying25 rfl (by kernel_rfl)) rfl ?_
    exact ⟨by rw [unhide HN], BZ⟩
  · go_wp2_with fail
    refine (unhide HK a b c _).mono ?_
    rintro e w3 ⟨rfl, b9⟩
    replace B := B.trans (b9.mono B.size)
    replace cX := CsAt.below cX b9 (by omega)
    replace cY := CsAt.below cY b9 (by omega)
    replace cR := CsAt.below cR b9 (by omega)
    replace hs := Nat.le_trans hs b9.size
    clear b9 y0 y1 y2
    cases hy : okC a b c
    · have HN : Hid (R = .agg #[.int .i64 0, .int .i64 0, .int .i64 0]) := unhide HN (by rw [hx, hy]; rfl)
      have d0 := cR.cell 0 _ rfl
      have d1 := cR.cell 1 _ rfl
      have d2 := cR.cell 2 _ rfl
      have f0 := cR.frozen 0 (by simp)
      have f1 := cR.frozen 1 (by simp)
      have f2 := cR.frozen 2 (by simp)
      have pt := cR.put [.int .i64 0, .int .i64 0, .int .i64 0] rfl
      have BZ := ((Kp.Kept.of (L := []) B).setCells (b := w.heap.size + 1 + 1) (.inr (by omega)) 0 [.int .i64 0, .int .i64 0, .int .i64 0]).all (by simp)
      go_wp2
      refine bodyPost_ret (res_cell_mid Try.results13 _ _ (w.heap.size + 1 + 1) [.int .i64 0, .int .i64 0, .int .i64 0] _ rfl pt.cells Try.underlying25 rfl (by kernel_rfl)) rfl ?_
      exact ⟨by rw [unhide HN], BZ⟩
    · have HY : Hid (R = .agg #[.int .i64 (x + a), .int .i64 (y + b), .int .i64 (z + c)]) := unhide HY (by rw [hx, hy]; rfl)
      obtain ⟨q1, q2, q3⟩ := okC_iff.1 hx
      obtain ⟨q4, q5, q6⟩ := okC_iff.1 hy
      have HA := hide (fun (w' : World) => l22Add_any x y z a b c w' (by omega) (by omega) (by omega) (by omega) (by omega) (by omega))
      have x0 := cX.cell 0 _ rfl
      have x1 := cX.cell 1 _ rfl
      have x2 := cX.cell 2 _ rfl
      have y0 := cY.cell 0 _ rfl
      have y1 := cY.cell 1 _ rfl
      have y2 := cY.cell 2 _ rfl
      go_wp2_with fail
      refine (unhide HA _).mono ?_
      rintro e w4 ⟨rfl, b9⟩
      replace B := B.trans (b9.mono B.size)
      replace cR := CsAt.below cR b9 (by omega)
      replace hs := Nat.le_trans hs b9.size
      clear b9 x0 x1 x2 y0 y1 y2 cX cY
      have d0 := cR.cell 0 _ rfl
      have d1 := cR.cell 1 _ rfl
      have d2 := cR.cell 2 _ rfl
      have f0 := cR.frozen 0 (by simp)
      have f1 := cR.frozen 1 (by simp)
      have f2 := cR.frozen 2 (by simp)
      have pt := cR.put [.int .i64 (x + a), .int .i64 (y + b), .int .i64 (z + c)] rfl
      have BZ := ((Kp.Kept.of (L := []) B).setCells (b := w.heap.size + 1 + 1) (.inr (by omega)) 0 [.int .i64 (x + a), .int .i64 (y + b), .int .i64 (z + c)]).all (by simp)
      go_wp2
      refine bodyPost_ret (res_cell_mid Try.results13 _ _ (w.heap.size + 1 + 1) [.int .i64 (x + a), .int .i64 (y + b), .int .i64 (z + c)] _ rfl pt.cells Try.underlying25 rfl (by kernel_rfl)) rfl ?_
      exact ⟨by rw [unhide HY], BZ⟩

set_option maxHeartbeats 2000000 in
theorem implAddC_any (x y z a b c : Int) (w : World) :
    Calls Try.prog 15 #[.agg #[.int .i64 x, .int .i64 y, .int .i64 z], .agg #[.int .i64 a, .int .i64 b, .int .i64 c]] w fun e w' => e = .returned (.agg #[.int .i64 (caN x y z a b c x a), .int .i64 (caN x y z a b c y b), .int .i64 (caN x y z a b c z c)]) ∧ Below w.heap.size w w' := by
  have B : Below w.heap.size w (((w.alloc (.cells #[.int .i64 x, .int .i64 y, .int .i64 z] 25)).alloc (.cells #[.int .i64 a, .int .i64 b, .int .i64 c] 25)).alloc (.cells #[.int .i64 0, .int .i64 0, .int .i64 0] 25)) := (((Below.refl _ _).alloc (Nat.le_refl _) _).alloc (by simp) _).alloc (by simp; omega) _
  have cX := ((CsAt.new w [.int .i64 x, .int .i64 y, .int .i64 z] 25).alloc (by simp) (.cells #[.int .i64 a, .int .i64 b, .int .i64 c] 25)).alloc (by simp; omega) (.cells #[.int .i64 0, .int .i64 0, .int .i64 0] 25)
  have cY := (CsAt.new (w.alloc (.cells #[.int .i64 x, .int .i64 y, .int .i64 z] 25)) [.int .i64 a, .int .i64 b, .int .i64 c] 25).alloc (by simp) (.cells #[.int .i64 0, .int .i64 0, .int .i64 0] 25)
  have cR := CsAt.new ((w.alloc (.cells #[.int .i64 x, .int .i64 y, .int .i64 z] 25)).alloc (.cells #[.int .i64 a, .int .i64 b, .int .i64 c] 25)) [.int .i64 0, .int .i64 0, .int .i64 0] 25
  have hs : w.heap.size + 3 ≤ (((w.alloc (.cells #[.int .i64 x, .int .i64 y, .int .i64 z] 25)).alloc (.cells #[.int .i64 a, .int .i64 b, .int .i64 c] 25)).alloc (.cells #[.int .i64 0, .int .i64 0, .int .i64 0] 25)).heap.size := by simp
  rw [World.size_alloc] at cY
  rw [World.size_alloc, World.size_alloc] at cR
  have HK := hide (fun (x y z : Int) (w' : World) => implOkC_any x y z w')
  have HN : Hid ((okC x y z && okC a b c) = false → (.agg #[.int .i64 (caN x y z a b c x a), .int .i64 (caN x y z a b c y b), .int .i64 (caN x y z a b c z c)] : Value) = .agg #[.int .i64 0, .int .i64 0, .int .i64 0]) := fun h => by simp [caN, h]
  have HY : Hid ((okC x y z && okC a b c) = true → (.agg #[.int .i64 (caN x y z a b c x a), .int .i64 (caN x y z a b c y b), .int .i64 (caN x y z a b c z c)] : Value) = .agg #[.int .i64 (x + a), .int .i64 (y + b), .int .i64 (z + c)]) := fun h => by simp [caN, h]
  generalize (.agg #[.int .i64 (caN x y z a b c x a), .int .i64 (caN x y z a b c y b), .int .i64 (caN x y z a b c z c)] : Value) = R at *
  go_enter Try.func15, Try.ntmps15
  go_wp2_with fail
  generalize ((w.alloc (.cells #[.int .i64 x, .int .i64 y, .int .i64 z] 25)).alloc (.cells #[.int .i64 a, .int .i64 b, .int .i64 c] 25)).alloc (.cells #[.int .i64 0, .int .i64 0, .int .i64 0] 25) = w1 at *
  refine (unhide HK x y z _).mono ?_
  rintro e w2 ⟨rfl, b⟩
  replace B := B.trans (b.mono B.size)
  replace cX := CsAt.below cX b (by omega)
  replace cY := CsAt.below cY b (by omega)
  replace cR := CsAt.below cR b (by omega)
  replace hs := Nat.le_trans hs b.size
  clear b
  have y0 := cY.cell 0 _ rfl
  have y1 := cY.cell 1 _ rfl
  have y2 := cY.cell 2 _ rfl
  cases hx : okC x y z
  · have HN : Hid (R = .agg #[.int .i64 0, .int .i64 0, .int .i64 0]) := unhide HN (by rw [hx]; rfl)
    have d0 := cR.cell 0 _ rfl
    have d1 := cR.cell 1 _ rfl
    have d2 := cR.cell 2 _ rfl
    have f0 := cR.frozen 0 (by simp)
    have f1 := cR.frozen 1 (by simp)
    have f2 := cR.frozen 2 (by simp)
    have pt := cR.put [.int .i64 0, .int .i64 0, .int .i64 0] rfl
    have BZ := ((Kp.Kept.of (L := []) B).setCells (b := w.heap.size + 1 + 1) (.inr (by omega)) 0 [.int .i64 0, .int .i64 0, .int .i64 0]).all (by simp)
    go_wp2
    refine bodyPost_ret (res_cell_mid Try.results15 _ _ (w.heap.size + 1 + 1) [.int .i64 0, .int .i64 0, .int .i64 0] _ rfl pt.cells Try.underlying25 rfl (by kernel_rfl)) rfl ?_
    exact ⟨by rw [unhide HN], BZ⟩
  · go_wp2_with fail
    refine (unhide HK a b c _).mono ?_
    rintro e w3 ⟨rfl, b9⟩
    replace B := B.trans (b9.mono B.size)
    replace cX := CsAt.below cX b9 (by omega)
    replace cY := CsAt.below cY b9 (by omega)
    replace cR := CsAt.below cR b9 (by omega)
    replace hs := Nat.le_trans hs b9.size
    clear b9 y0 y1 y2
    cases hy : okC a b c
    · have HN : Hid (R = .agg #[.int .i64 0, .int .i64 0, .int .i64 0]) := unhide HN (by rw [hx, hy]; rfl)
      have d0 := cR.cell 0 _ rfl
      have d1 := cR.cell 1 _ rfl
      have d2 := cR.cell 2 _ rfl
      have f0 := cR.frozen 0 (by simp)
      have f1 := cR.frozen 1 (by simp)
      have f2 := cR.frozen 2 (by simp)
      have pt := cR.put [.int .i64 0, .int .i64 0, .int .i64 0] rfl
      have BZ := ((Kp.Kept.of (L := []) B).setCells (b := w.heap.size + 1 + 1) (.inr (by omega)) 0 [.int .i64 0, .int .i64 0, .int .i64 0]).all (by simp)
      go_wp2
      refine bodyPost_ret (res_cell_mid Try.results15 _ _ (w.heap.size + 1 + 1) [.int .i64 0, .int .i64 0, .int .i64 0] _ rfl pt.cells Try.underlying25 rfl (by kernel_rfl)) rfl ?_
      exact ⟨by rw [unhide HN], BZ⟩
    · have HY : Hid (R = .agg #[.int .i64 (x + a), .int .i64 (y + b), .int .i64 (z + c)]) := unhide HY (by rw [hx, hy]; rfl)
      obtain ⟨q1, q2, q3⟩ := okC_iff.1 hx
      obtain ⟨q4, q5, q6⟩ := okC_iff.1 hy
      have HA := hide (fun (w' : World) => with_any x y z a b c w' (by omega) (by omega) (by omega) (by omega) (by omega) (by omega))
      have x0 := cX.cell 0 _ rfl
      have x1 := cX.cell 1 _ rfl
      have x2 := cX.cell 2 _ rfl
      have y0 := cY.cell 0 _ rfl
      have y1 := cY.cell 1 _ rfl
      have y2 := cY.cell 2 _ rfl
      go_wp2_with fail
      refine (unhide HA _).mono ?_
      rintro e w4 ⟨rfl, b9⟩
      replace B := B.trans (b9.mono B.size)
      replace cR := CsAt.below cR b9 (by omega)
      replace hs := Nat.le_trans hs b9.size
      clear b9 x0 x1 x2 y0 y1 y2 cX cY
      have d0 := cR.cell 0 _ rfl
      have d1 := cR.cell 1 _ rfl
      have d2 := cR.cell 2 _ rfl
      have f0 := cR.frozen 0 (by simp)
      have f1 := cR.frozen 1 (by simp)
      have f2 := cR.frozen 2 (by simp)
      have pt := cR.put [.int .i64 (x + a), .int .i64 (y + b), .int .i64 (z + c)] rfl
      have BZ := ((Kp.Kept.of (L := []) B).setCells (b := w.heap.size + 1 + 1) (.inr (by omega)) 0 [.int .i64 (x + a), .int .i64 (y + b), .int .i64 (z + c)]).all (by simp)
      go_wp2
      refine bodyPost_ret (res_cell_mid Try.results15 _ _ (w.heap.size + 1 + 1) [.int .i64 (x + a), .int .i64 (y + b), .int .i64 (z + c)] _ rfl pt.cells Try.underlying25 rfl (by kernel_rfl)) rfl ?_
      exact ⟨by rw [unhide HY], BZ⟩

theorem toCost_any (x y z : Int) (w : World) :
    Calls Try.prog 14 #[.agg #[.int .i64 x, .int .i64 y, .int .i64 z]] w fun e w' => e = .returned (.agg #[.int .i64 x, .int .i64 y, .int .i64 z]) ∧ Below w.heap.size w w' := by
  go_enter Try.func14, Try.ntmps14
  go_wp2
  exact bodyPost_ret (v := .agg #[.int .i64 x, .int .i64 y, .int .i64 z]) (by simp [results, Try.results14, go_sem]) rfl ⟨rfl, (((Below.refl _ _).alloc (Nat.le_refl _) _).alloc (by simp) _).alloc (by simp; omega) _⟩
theorem eqCost_same (x y z : Int) (w : World) :
    Calls Try.prog 11 #[.agg #[.int .i64 x, .int .i64 y, .int .i64 z], .agg #[.int .i64 x, .int .i64 y, .int .i64 z]] w fun e w' => e = .returned (.bool true) ∧ Below w.heap.size w w' := by
  go_enter Try.func11, Try.ntmps11
  go_wp2
  go_ret
  exact ⟨rfl, ((Below.refl _ _).alloc (Nat.le_refl _) _).alloc (by simp) _⟩
end Go.Proofs.Ytogfelpdgeionaa.Cst
