/-
  At every two costs of three ints each CostAdd answers as the specification: the given statement, with no condition.
-/
import Derived.Test.YtogfelpdgeionaaCst
import Derived.Test.YtogfelpdgeionaaOrdL
import Derived.Test.YtogfelpdgeionaaFacts
import Derived.Lib.SmallJoins
import Derived.Deep.Cut
namespace Go.Proofs.Ytogfelpdgeionaa.ExactCostAdd
open Go.ChangeShapes Go.WideShapes Go.ChangeAt Go.RowKit Go.Joins OkA Big ImplL Kp Cst
open Facts (own laidOut)
set_option linter.unusedVariables false
set_option linter.unusedSimpArgs false
attribute [local go_sem ↓] Go.wp_at_zero Go.wp_at_succ

set_option maxRecDepth 100000 in
set_option maxHeartbeats 4000000 in
theorem walk (x y z a b c : Int) (w : World) :
    Calls Try.prog 4 #[.agg #[.int .i64 x, .int .i64 y, .int .i64 z], .agg #[.int .i64 a, .int .i64 b, .int .i64 c]] w fun e w' => e = .returned (.bool true) ∧ Below w.heap.size w w' := by
  have B : Below w.heap.size w ((w.alloc (.cells #[.int .i64 x, .int .i64 y, .int .i64 z] 32)).alloc (.cells #[.int .i64 a, .int .i64 b, .int .i64 c] 32)) := ((Below.refl _ _).alloc (Nat.le_refl _) _).alloc (by simp) _
  have cX := (CsAt.new w [.int .i64 x, .int .i64 y, .int .i64 z] 32).alloc (by simp) (.cells #[.int .i64 a, .int .i64 b, .int .i64 c] 32)
  have cY := CsAt.new (w.alloc (.cells #[.int .i64 x, .int .i64 y, .int .i64 z] 32)) [.int .i64 a, .int .i64 b, .int .i64 c] 32
  rw [World.size_alloc] at cY
  have HSL : (Try.prog.info? 32).map (·.size) = some 3 := by kernel_rfl
  have HSC : (Try.prog.info? 25).map (·.size) = some 3 := by kernel_rfl
  go_enter Try.func4, Try.ntmps4
  go_upto_region 1 with fail
  generalize ((w.alloc (.cells #[.int .i64 x, .int .i64 y, .int .i64 z] 32)).alloc (.cells #[.int .i64 a, .int .i64 b, .int .i64 c] 32)) = w1 at *
  apply OrdL.join1 (F := fun (A : Nat) w' => Kept [] w1 w' ∧ CsAt w' A [.int .i64 (caN x y z a b c x a), .int .i64 (caN x y z a b c y b), .int .i64 (caN x y z a b c z c)])
  case h =>
    refine wp_region_noPanic ?_
    refine wp_region_held_drew (S := fun w' => Kept [] w1 w') (by kernel_rfl) (Kept.refl _ _).drew (fun hHeld => ?_)
    generalize w1.drew = y0 at *
    have z0 := hHeld.size
    refine takeL 0 (.agg #[.int .i64 x, .int .i64 y, .int .i64 z]) rfl (by kernel_rfl) (by kernel_rfl) (by kernel_rfl) (fun _ _ _ h => h) (yieldsIf_load_mid rfl 32 _ rfl w.heap.size 0 rfl [.int .i64 x, .int .i64 y, .int .i64 z] _ (fun _ h => (CsAt.below cX (Kept.all h (by simp)) (CsAt.lt cX (by simp))).cells) Try.underlying32 rfl HSL) hHeld ?_
    try simp only [Act.put, List.setIfInBounds_toArray, List.set_cons_zero, List.set_cons_succ]
    refine takeL 2 (.agg #[.int .i64 a, .int .i64 b, .int .i64 c]) rfl (by kernel_rfl) (by kernel_rfl) (by kernel_rfl) (fun _ _ _ h => h) (yieldsIf_load_mid rfl 32 _ rfl (w.heap.size + 1) 0 rfl [.int .i64 a, .int .i64 b, .int .i64 c] _ (fun _ h => (CsAt.below cY (Kept.all h (by simp)) (CsAt.lt cY (by simp))).cells) Try.underlying32 rfl HSL) hHeld ?_
    try simp only [Act.put, List.setIfInBounds_toArray, List.set_cons_zero, List.set_cons_succ]
    refine OrdL.twoL 1 5 rfl rfl (by kernel_rfl) rfl rfl  (fun K hK => ?_) (fun K hK => ?_) 
    · go_simp
      refine (toCost_any x y z _).mono ?_
      rintro e y1 ⟨rfl, b⟩
      go_wp2_with fail
      refine hK.out _ _ (hHeld.trans (Kept.of b)) (fun hHeld => ?_)
      clear hK K
      try simp only [Act.put, List.setIfInBounds_toArray, List.set_cons_zero, List.set_cons_succ]
      have z1 := b.size
      clear b
      refine OrdL.twoL 3 5 rfl rfl (by kernel_rfl) rfl rfl  (fun K hK => ?_) (fun K hK => ?_) 
      · go_simp
        refine (toCost_any a b c _).mono ?_
        rintro e y2 ⟨rfl, b⟩
        go_wp2_with fail
        refine hK.out _ _ (hHeld.trans (Kept.of b)) (fun hHeld => ?_)
        clear hK K
        try simp only [Act.put, List.setIfInBounds_toArray, List.set_cons_zero, List.set_cons_succ]
        have z2 := b.size
        clear b
        refine OrdL.twoL 4 5 rfl rfl (by kernel_rfl) rfl rfl  (fun K hK => ?_) (fun K hK => ?_) 
        · go_simp
          refine (specAddC_any x y z a b c _).mono ?_
          rintro e y3 ⟨rfl, b⟩
          go_wp2_with fail
          refine hK.out _ _ (hHeld.trans (Kept.of b)) (fun hHeld => ?_)
          clear hK K
          try simp only [Act.put, List.setIfInBounds_toArray, List.set_cons_zero, List.set_cons_succ]
          have z3 := b.size
          clear b
          refine oneL 5 rfl (by kernel_rfl) rfl (fun K hK => ?_)
          go_simp
          have b : Below y3.heap.size y3 (y3.alloc (.cells #[.int .i64 0, .int .i64 0, .int .i64 0] 25)) := (Below.refl _ _).alloc (Nat.le_refl _) _
          have cN := CsAt.new y3 [.int .i64 0, .int .i64 0, .int .i64 0] 25
          have lcN := hHeld.size
          refine hK.out _ _ (hHeld.trans (Kept.of b)) (fun hHeld => ?_)
          clear hK K
          try simp only [Act.put, List.setIfInBounds_toArray, List.set_cons_zero, List.set_cons_succ]
          have z4 := b.size
          generalize y3.alloc (.cells #[.int .i64 0, .int .i64 0, .int .i64 0] 25) = y4 at *
          generalize y3.heap.size = A at *
          clear b
          refine oneL 6 rfl (by kernel_rfl) rfl (fun K hK => ?_)
          have pcN := cN.put [.int .i64 (caN x y z a b c x a), .int .i64 (caN x y z a b c y b), .int .i64 (caN x y z a b c z c)] rfl
          have kz := OrdL.kcells y4 A 0 [.int .i64 (caN x y z a b c x a), .int .i64 (caN x y z a b c y b), .int .i64 (caN x y z a b c z c)]
          refine wp_store_mid 25 _ _ rfl A 0 [.int .i64 (caN x y z a b c x a), .int .i64 (caN x y z a b c y b), .int .i64 (caN x y z a b c z c)].toArray rfl rfl cN.free HSC (all_oneCell_toArray (by intro v hv; simp at hv; rcases hv with rfl | rfl | rfl <;> rfl)) ?_
          refine hK.out _ _ (hHeld.then kz (fun y hy => by simp at hy; subst hy; first | (left; simp; done) | (right; omega))) (fun hHeld => ?_)
          clear hK K
          try simp only [Act.put, List.setIfInBounds_toArray, List.set_cons_zero, List.set_cons_succ]
          clear cN kz
          generalize y4.setCells A 0 [.int .i64 (caN x y z a b c x a), .int .i64 (caN x y z a b c y b), .int .i64 (caN x y z a b c z c)] = y5 at *
          have cN := pcN
          clear pcN
          refine wpAnyH_done (by kernel_rfl) ?_ _
          refine NoPanic.normal ?_
          exact ⟨rfl, A, rfl, hHeld, cN⟩
        · go_simp
          have b : Below y2.heap.size y2 (y2.alloc (.cells #[.int .i64 0, .int .i64 0, .int .i64 0] 25)) := (Below.refl _ _).alloc (Nat.le_refl _) _
          have cN := CsAt.new y2 [.int .i64 0, .int .i64 0, .int .i64 0] 25
          have lcN := hHeld.size
          refine hK.out _ _ (hHeld.trans (Kept.of b)) (fun hHeld => ?_)
          clear hK K
          try simp only [Act.put, List.setIfInBounds_toArray, List.set_cons_zero, List.set_cons_succ]
          have z3 := b.size
          generalize y2.alloc (.cells #[.int .i64 0, .int .i64 0, .int .i64 0] 25) = y3 at *
          generalize y2.heap.size = A at *
          clear b
          refine oneL 4 rfl (by kernel_rfl) rfl (fun K hK => ?_)
          go_simp
          refine (specAddC_any x y z a b c _).mono ?_
          rintro e y4 ⟨rfl, b⟩
          go_wp2_with fail
          replace cN := CsAt.below cN b (CsAt.lt cN (by simp))
          refine hK.out _ _ (hHeld.trans (Kept.of b)) (fun hHeld => ?_)
          clear hK K
          try simp only [Act.put, List.setIfInBounds_toArray, List.set_cons_zero, List.set_cons_succ]
          have z4 := b.size
          clear b
          refine oneL 6 rfl (by kernel_rfl) rfl (fun K hK => ?_)
          have pcN := cN.put [.int .i64 (caN x y z a b c x a), .int .i64 (caN x y z a b c y b), .int .i64 (caN x y z a b c z c)] rfl
          have kz := OrdL.kcells y4 A 0 [.int .i64 (caN x y z a b c x a), .int .i64 (caN x y z a b c y b), .int .i64 (caN x y z a b c z c)]
          refine wp_store_mid 25 _ _ rfl A 0 [.int .i64 (caN x y z a b c x a), .int .i64 (caN x y z a b c y b), .int .i64 (caN x y z a b c z c)].toArray rfl rfl cN.free HSC (all_oneCell_toArray (by intro v hv; simp at hv; rcases hv with rfl | rfl | rfl <;> rfl)) ?_
          refine hK.out _ _ (hHeld.then kz (fun y hy => by simp at hy; subst hy; first | (left; simp; done) | (right; omega))) (fun hHeld => ?_)
          clear hK K
          try simp only [Act.put, List.setIfInBounds_toArray, List.set_cons_zero, List.set_cons_succ]
          clear cN kz
          generalize y4.setCells A 0 [.int .i64 (caN x y z a b c x a), .int .i64 (caN x y z a b c y b), .int .i64 (caN x y z a b c z c)] = y5 at *
          have cN := pcN
          clear pcN
          refine wpAnyH_done (by kernel_rfl) ?_ _
          refine NoPanic.normal ?_
          exact ⟨rfl, A, rfl, hHeld, cN⟩
      · go_simp
        have b : Below y1.heap.size y1 (y1.alloc (.cells #[.int .i64 0, .int .i64 0, .int .i64 0] 25)) := (Below.refl _ _).alloc (Nat.le_refl _) _
        have cN := CsAt.new y1 [.int .i64 0, .int .i64 0, .int .i64 0] 25
        have lcN := hHeld.size
        refine hK.out _ _ (hHeld.trans (Kept.of b)) (fun hHeld => ?_)
        clear hK K
        try simp only [Act.put, List.setIfInBounds_toArray, List.set_cons_zero, List.set_cons_succ]
        have z2 := b.size
        generalize y1.alloc (.cells #[.int .i64 0, .int .i64 0, .int .i64 0] 25) = y2 at *
        generalize y1.heap.size = A at *
        clear b
        refine oneL 3 rfl (by kernel_rfl) rfl (fun K hK => ?_)
        go_simp
        refine (toCost_any a b c _).mono ?_
        rintro e y3 ⟨rfl, b⟩
        go_wp2_with fail
        replace cN := CsAt.below cN b (CsAt.lt cN (by simp))
        refine hK.out _ _ (hHeld.trans (Kept.of b)) (fun hHeld => ?_)
        clear hK K
        try simp only [Act.put, List.setIfInBounds_toArray, List.set_cons_zero, List.set_cons_succ]
        have z3 := b.size
        clear b
        refine oneL 4 rfl (by kernel_rfl) rfl (fun K hK => ?_)
        go_simp
        refine (specAddC_any x y z a b c _).mono ?_
        rintro e y4 ⟨rfl, b⟩
        go_wp2_with fail
        replace cN := CsAt.below cN b (CsAt.lt cN (by simp))
        refine hK.out _ _ (hHeld.trans (Kept.of b)) (fun hHeld => ?_)
        clear hK K
        try simp only [Act.put, List.setIfInBounds_toArray, List.set_cons_zero, List.set_cons_succ]
        have z4 := b.size
        clear b
        refine oneL 6 rfl (by kernel_rfl) rfl (fun K hK => ?_)
        have pcN := cN.put [.int .i64 (caN x y z a b c x a), .int .i64 (caN x y z a b c y b), .int .i64 (caN x y z a b c z c)] rfl
        have kz := OrdL.kcells y4 A 0 [.int .i64 (caN x y z a b c x a), .int .i64 (caN x y z a b c y b), .int .i64 (caN x y z a b c z c)]
        refine wp_store_mid 25 _ _ rfl A 0 [.int .i64 (caN x y z a b c x a), .int .i64 (caN x y z a b c y b), .int .i64 (caN x y z a b c z c)].toArray rfl rfl cN.free HSC (all_oneCell_toArray (by intro v hv; simp at hv; rcases hv with rfl | rfl | rfl <;> rfl)) ?_
        refine hK.out _ _ (hHeld.then kz (fun y hy => by simp at hy; subst hy; first | (left; simp; done) | (right; omega))) (fun hHeld => ?_)
        clear hK K
        try simp only [Act.put, List.setIfInBounds_toArray, List.set_cons_zero, List.set_cons_succ]
        clear cN kz
        generalize y4.setCells A 0 [.int .i64 (caN x y z a b c x a), .int .i64 (caN x y z a b c y b), .int .i64 (caN x y z a b c z c)] = y5 at *
        have cN := pcN
        clear pcN
        refine wpAnyH_done (by kernel_rfl) ?_ _
        refine NoPanic.normal ?_
        exact ⟨rfl, A, rfl, hHeld, cN⟩
    · go_simp
      have b : Below y0.heap.size y0 (y0.alloc (.cells #[.int .i64 0, .int .i64 0, .int .i64 0] 25)) := (Below.refl _ _).alloc (Nat.le_refl _) _
      have cN := CsAt.new y0 [.int .i64 0, .int .i64 0, .int .i64 0] 25
      have lcN := hHeld.size
      refine hK.out _ _ (hHeld.trans (Kept.of b)) (fun hHeld => ?_)
      clear hK K
      try simp only [Act.put, List.setIfInBounds_toArray, List.set_cons_zero, List.set_cons_succ]
      have z1 := b.size
      generalize y0.alloc (.cells #[.int .i64 0, .int .i64 0, .int .i64 0] 25) = y1 at *
      generalize y0.heap.size = A at *
      clear b
      refine oneL 1 rfl (by kernel_rfl) rfl (fun K hK => ?_)
      go_simp
      refine (toCost_any x y z _).mono ?_
      rintro e y2 ⟨rfl, b⟩
      go_wp2_with fail
      replace cN := CsAt.below cN b (CsAt.lt cN (by simp))
      refine hK.out _ _ (hHeld.trans (Kept.of b)) (fun hHeld => ?_)
      clear hK K
      try simp only [Act.put, List.setIfInBounds_toArray, List.set_cons_zero, List.set_cons_succ]
      have z2 := b.size
      clear b
      refine oneL 3 rfl (by kernel_rfl) rfl (fun K hK => ?_)
      go_simp
      refine (toCost_any a b c _).mono ?_
      rintro e y3 ⟨rfl, b⟩
      go_wp2_with fail
      replace cN := CsAt.below cN b (CsAt.lt cN (by simp))
      refine hK.out _ _ (hHeld.trans (Kept.of b)) (fun hHeld => ?_)
      clear hK K
      try simp only [Act.put, List.setIfInBounds_toArray, List.set_cons_zero, List.set_cons_succ]
      have z3 := b.size
      clear b
      refine oneL 4 rfl (by kernel_rfl) rfl (fun K hK => ?_)
      go_simp
      refine (specAddC_any x y z a b c _).mono ?_
      rintro e y4 ⟨rfl, b⟩
      go_wp2_with fail
      replace cN := CsAt.below cN b (CsAt.lt cN (by simp))
      refine hK.out _ _ (hHeld.trans (Kept.of b)) (fun hHeld => ?_)
      clear hK K
      try simp only [Act.put, List.setIfInBounds_toArray, List.set_cons_zero, List.set_cons_succ]
      have z4 := b.size
      clear b
      refine oneL 6 rfl (by kernel_rfl) rfl (fun K hK => ?_)
      have pcN := cN.put [.int .i64 (caN x y z a b c x a), .int .i64 (caN x y z a b c y b), .int .i64 (caN x y z a b c z c)] rfl
      have kz := OrdL.kcells y4 A 0 [.int .i64 (caN x y z a b c x a), .int .i64 (caN x y z a b c y b), .int .i64 (caN x y z a b c z c)]
      refine wp_store_mid 25 _ _ rfl A 0 [.int .i64 (caN x y z a b c x a), .int .i64 (caN x y z a b c y b), .int .i64 (caN x y z a b c z c)].toArray rfl rfl cN.free HSC (all_oneCell_toArray (by intro v hv; simp at hv; rcases hv with rfl | rfl | rfl <;> rfl)) ?_
      refine hK.out _ _ (hHeld.then kz (fun y hy => by simp at hy; subst hy; first | (left; simp; done) | (right; omega))) (fun hHeld => ?_)
      clear hK K
      try simp only [Act.put, List.setIfInBounds_toArray, List.set_cons_zero, List.set_cons_succ]
      clear cN kz
      generalize y4.setCells A 0 [.int .i64 (caN x y z a b c x a), .int .i64 (caN x y z a b c y b), .int .i64 (caN x y z a b c z c)] = y5 at *
      have cN := pcN
      clear pcN
      refine wpAnyH_done (by kernel_rfl) ?_ _
      refine NoPanic.normal ?_
      exact ⟨rfl, A, rfl, hHeld, cN⟩
  case k =>
    rintro A w3 ⟨K, cA⟩
    have B2 := B.trans ((Kept.all K (by simp)).mono B.size)
    replace cX := CsAt.below cX (Kept.all K (by simp)) (CsAt.lt cX (by simp))
    replace cY := CsAt.below cY (Kept.all K (by simp)) (CsAt.lt cY (by simp))
    have cW := cA
    clear cA K
    go_upto_region 2 with fail
    apply OrdL.join1 (F := fun (A : Nat) w' => Kept [] w3 w' ∧ CsAt w' A [.int .i64 (caN x y z a b c x a), .int .i64 (caN x y z a b c y b), .int .i64 (caN x y z a b c z c)])
    case h =>
      refine wp_region_noPanic ?_
      refine wp_region_held_drew (S := fun w' => Kept [] w3 w') (by kernel_rfl) (Kept.refl _ _).drew (fun hHeld => ?_)
      generalize w3.drew = y0 at *
      have z0 := hHeld.size
      refine takeL 0 (.agg #[.int .i64 x, .int .i64 y, .int .i64 z]) rfl (by kernel_rfl) (by kernel_rfl) (by kernel_rfl) (fun _ _ _ h => h) (yieldsIf_load_mid rfl 32 _ rfl w.heap.size 0 rfl [.int .i64 x, .int .i64 y, .int .i64 z] _ (fun _ h => (CsAt.below cX (Kept.all h (by simp)) (CsAt.lt cX (by simp))).cells) Try.underlying32 rfl HSL) hHeld ?_
      try simp only [Act.put, List.setIfInBounds_toArray, List.set_cons_zero, List.set_cons_succ]
      refine takeL 2 (.agg #[.int .i64 a, .int .i64 b, .int .i64 c]) rfl (by kernel_rfl) (by kernel_rfl) (by kernel_rfl) (fun _ _ _ h => h) (yieldsIf_load_mid rfl 32 _ rfl (w.heap.size + 1) 0 rfl [.int .i64 a, .int .i64 b, .int .i64 c] _ (fun _ h => (CsAt.below cY (Kept.all h (by simp)) (CsAt.lt cY (by simp))).cells) Try.underlying32 rfl HSL) hHeld ?_
      try simp only [Act.put, List.setIfInBounds_toArray, List.set_cons_zero, List.set_cons_succ]
      refine OrdL.twoL 1 5 rfl rfl (by kernel_rfl) rfl rfl  (fun K hK => ?_) (fun K hK => ?_) 
      · go_simp
        refine (toCost_any x y z _).mono ?_
        rintro e y1 ⟨rfl, b⟩
        go_wp2_with fail
        refine hK.out _ _ (hHeld.trans (Kept.of b)) (fun hHeld => ?_)
        clear hK K
        try simp only [Act.put, List.setIfInBounds_toArray, List.set_cons_zero, List.set_cons_succ]
        have z1 := b.size
        clear b
        refine OrdL.twoL 3 5 rfl rfl (by kernel_rfl) rfl rfl  (fun K hK => ?_) (fun K hK => ?_) 
        · go_simp
          refine (toCost_any a b c _).mono ?_
          rintro e y2 ⟨rfl, b⟩
          go_wp2_with fail
          refine hK.out _ _ (hHeld.trans (Kept.of b)) (fun hHeld => ?_)
          clear hK K
          try simp only [Act.put, List.setIfInBounds_toArray, List.set_cons_zero, List.set_cons_succ]
          have z2 := b.size
          clear b
          refine OrdL.twoL 4 5 rfl rfl (by kernel_rfl) rfl rfl  (fun K hK => ?_) (fun K hK => ?_) 
          · go_simp
            refine (implAddC_any x y z a b c _).mono ?_
            rintro e y3 ⟨rfl, b⟩
            go_wp2_with fail
            refine hK.out _ _ (hHeld.trans (Kept.of b)) (fun hHeld => ?_)
            clear hK K
            try simp only [Act.put, List.setIfInBounds_toArray, List.set_cons_zero, List.set_cons_succ]
            have z3 := b.size
            clear b
            refine oneL 5 rfl (by kernel_rfl) rfl (fun K hK => ?_)
            go_simp
            have b : Below y3.heap.size y3 (y3.alloc (.cells #[.int .i64 0, .int .i64 0, .int .i64 0] 25)) := (Below.refl _ _).alloc (Nat.le_refl _) _
            have cN := CsAt.new y3 [.int .i64 0, .int .i64 0, .int .i64 0] 25
            have lcN := hHeld.size
            refine hK.out _ _ (hHeld.trans (Kept.of b)) (fun hHeld => ?_)
            clear hK K
            try simp only [Act.put, List.setIfInBounds_toArray, List.set_cons_zero, List.set_cons_succ]
            have z4 := b.size
            generalize y3.alloc (.cells #[.int .i64 0, .int .i64 0, .int .i64 0] 25) = y4 at *
            generalize y3.heap.size = A at *
            clear b
            refine oneL 6 rfl (by kernel_rfl) rfl (fun K hK => ?_)
            have pcN := cN.put [.int .i64 (caN x y z a b c x a), .int .i64 (caN x y z a b c y b), .int .i64 (caN x y z a b c z c)] rfl
            have kz := OrdL.kcells y4 A 0 [.int .i64 (caN x y z a b c x a), .int .i64 (caN x y z a b c y b), .int .i64 (caN x y z a b c z c)]
            refine wp_store_mid 25 _ _ rfl A 0 [.int .i64 (caN x y z a b c x a), .int .i64 (caN x y z a b c y b), .int .i64 (caN x y z a b c z c)].toArray rfl rfl cN.free HSC (all_oneCell_toArray (by intro v hv; simp at hv; rcases hv with rfl | rfl | rfl <;> rfl)) ?_
            refine hK.out _ _ (hHeld.then kz (fun y hy => by simp at hy; subst hy; first | (left; simp; done) | (right; omega))) (fun hHeld => ?_)
            clear hK K
            try simp only [Act.put, List.setIfInBounds_toArray, List.set_cons_zero, List.set_cons_succ]
            clear cN kz
            generalize y4.setCells A 0 [.int .i64 (caN x y z a b c x a), .int .i64 (caN x y z a b c y b), .int .i64 (caN x y z a b c z c)] = y5 at *
            have cN := pcN
            clear pcN
            refine wpAnyH_done (by kernel_rfl) ?_ _
            refine NoPanic.normal ?_
            exact ⟨rfl, A, rfl, hHeld, cN⟩
          · go_simp
            have b : Below y2.heap.size y2 (y2.alloc (.cells #[.int .i64 0, .int .i64 0, .int .i64 0] 25)) := (Below.refl _ _).alloc (Nat.le_refl _) _
            have cN := CsAt.new y2 [.int .i64 0, .int .i64 0, .int .i64 0] 25
            have lcN := hHeld.size
            refine hK.out _ _ (hHeld.trans (Kept.of b)) (fun hHeld => ?_)
            clear hK K
            try simp only [Act.put, List.setIfInBounds_toArray, List.set_cons_zero, List.set_cons_succ]
            have z3 := b.size
            generalize y2.alloc (.cells #[.int .i64 0, .int .i64 0, .int .i64 0] 25) = y3 at *
            generalize y2.heap.size = A at *
            clear b
            refine oneL 4 rfl (by kernel_rfl) rfl (fun K hK => ?_)
            go_simp
            refine (implAddC_any x y z a b c _).mono ?_
            rintro e y4 ⟨rfl, b⟩
            go_wp2_with fail
            replace cN := CsAt.below cN b (CsAt.lt cN (by simp))
            refine hK.out _ _ (hHeld.trans (Kept.of b)) (fun hHeld => ?_)
            clear hK K
            try simp only [Act.put, List.setIfInBounds_toArray, List.set_cons_zero, List.set_cons_succ]
            have z4 := b.size
            clear b
            refine oneL 6 rfl (by kernel_rfl) rfl (fun K hK => ?_)
            have pcN := cN.put [.int .i64 (caN x y z a b c x a), .int .i64 (caN x y z a b c y b), .int .i64 (caN x y z a b c z c)] rfl
            have kz := OrdL.kcells y4 A 0 [.int .i64 (caN x y z a b c x a), .int .i64 (caN x y z a b c y b), .int .i64 (caN x y z a b c z c)]
            refine wp_store_mid 25 _ _ rfl A 0 [.int .i64 (caN x y z a b c x a), .int .i64 (caN x y z a b c y b), .int .i64 (caN x y z a b c z c)].toArray rfl rfl cN.free HSC (all_oneCell_toArray (by intro v hv; simp at hv; rcases hv with rfl | rfl | rfl <;> rfl)) ?_
            refine hK.out _ _ (hHeld.then kz (fun y hy => by simp at hy; subst hy; first | (left; simp; done) | (right; omega))) (fun hHeld => ?_)
            clear hK K
            try simp only [Act.put, List.setIfInBounds_toArray, List.set_cons_zero, List.set_cons_succ]
            clear cN kz
            generalize y4.setCells A 0 [.int .i64 (caN x y z a b c x a), .int .i64 (caN x y z a b c y b), .int .i64 (caN x y z a b c z c)] = y5 at *
            have cN := pcN
            clear pcN
            refine wpAnyH_done (by kernel_rfl) ?_ _
            refine NoPanic.normal ?_
            exact ⟨rfl, A, rfl, hHeld, cN⟩
        · go_simp
          have b : Below y1.heap.size y1 (y1.alloc (.cells #[.int .i64 0, .int .i64 0, .int .i64 0] 25)) := (Below.refl _ _).alloc (Nat.le_refl _) _
          have cN := CsAt.new y1 [.int .i64 0, .int .i64 0, .int .i64 0] 25
          have lcN := hHeld.size
          refine hK.out _ _ (hHeld.trans (Kept.of b)) (fun hHeld => ?_)
          clear hK K
          try simp only [Act.put, List.setIfInBounds_toArray, List.set_cons_zero, List.set_cons_succ]
          have z2 := b.size
          generalize y1.alloc (.cells #[.int .i64 0, .int .i64 0, .int .i64 0] 25) = y2 at *
          generalize y1.heap.size = A at *
          clear b
          refine oneL 3 rfl (by kernel_rfl) rfl (fun K hK => ?_)
          go_simp
          refine (toCost_any a b c _).mono ?_
          rintro e y3 ⟨rfl, b⟩
          go_wp2_with fail
          replace cN := CsAt.below cN b (CsAt.lt cN (by simp))
          refine hK.out _ _ (hHeld.trans (Kept.of b)) (fun hHeld => ?_)
          clear hK K
          try simp only [Act.put, List.setIfInBounds_toArray, List.set_cons_zero, List.set_cons_succ]
          have z3 := b.size
          clear b
          refine oneL 4 rfl (by kernel_rfl) rfl (fun K hK => ?_)
          go_simp
          refine (implAddC_any x y z a b c _).mono ?_
          rintro e y4 ⟨rfl, b⟩
          go_wp2_with fail
          replace cN := CsAt.below cN b (CsAt.lt cN (by simp))
          refine hK.out _ _ (hHeld.trans (Kept.of b)) (fun hHeld => ?_)
          clear hK K
          try simp only [Act.put, List.setIfInBounds_toArray, List.set_cons_zero, List.set_cons_succ]
          have z4 := b.size
          clear b
          refine oneL 6 rfl (by kernel_rfl) rfl (fun K hK => ?_)
          have pcN := cN.put [.int .i64 (caN x y z a b c x a), .int .i64 (caN x y z a b c y b), .int .i64 (caN x y z a b c z c)] rfl
          have kz := OrdL.kcells y4 A 0 [.int .i64 (caN x y z a b c x a), .int .i64 (caN x y z a b c y b), .int .i64 (caN x y z a b c z c)]
          refine wp_store_mid 25 _ _ rfl A 0 [.int .i64 (caN x y z a b c x a), .int .i64 (caN x y z a b c y b), .int .i64 (caN x y z a b c z c)].toArray rfl rfl cN.free HSC (all_oneCell_toArray (by intro v hv; simp at hv; rcases hv with rfl | rfl | rfl <;> rfl)) ?_
          refine hK.out _ _ (hHeld.then kz (fun y hy => by simp at hy; subst hy; first | (left; simp; done) | (right; omega))) (fun hHeld => ?_)
          clear hK K
          try simp only [Act.put, List.setIfInBounds_toArray, List.set_cons_zero, List.set_cons_succ]
          clear cN kz
          generalize y4.setCells A 0 [.int .i64 (caN x y z a b c x a), .int .i64 (caN x y z a b c y b), .int .i64 (caN x y z a b c z c)] = y5 at *
          have cN := pcN
          clear pcN
          refine wpAnyH_done (by kernel_rfl) ?_ _
          refine NoPanic.normal ?_
          exact ⟨rfl, A, rfl, hHeld, cN⟩
      · go_simp
        have b : Below y0.heap.size y0 (y0.alloc (.cells #[.int .i64 0, .int .i64 0, .int .i64 0] 25)) := (Below.refl _ _).alloc (Nat.le_refl _) _
        have cN := CsAt.new y0 [.int .i64 0, .int .i64 0, .int .i64 0] 25
        have lcN := hHeld.size
        refine hK.out _ _ (hHeld.trans (Kept.of b)) (fun hHeld => ?_)
        clear hK K
        try simp only [Act.put, List.setIfInBounds_toArray, List.set_cons_zero, List.set_cons_succ]
        have z1 := b.size
        generalize y0.alloc (.cells #[.int .i64 0, .int .i64 0, .int .i64 0] 25) = y1 at *
        generalize y0.heap.size = A at *
        clear b
        refine oneL 1 rfl (by kernel_rfl) rfl (fun K hK => ?_)
        go_simp
        refine (toCost_any x y z _).mono ?_
        rintro e y2 ⟨rfl, b⟩
        go_wp2_with fail
        replace cN := CsAt.below cN b (CsAt.lt cN (by simp))
        refine hK.out _ _ (hHeld.trans (Kept.of b)) (fun hHeld => ?_)
        clear hK K
        try simp only [Act.put, List.setIfInBounds_toArray, List.set_cons_zero, List.set_cons_succ]
        have z2 := b.size
        clear b
        refine oneL 3 rfl (by kernel_rfl) rfl (fun K hK => ?_)
        go_simp
        refine (toCost_any a b c _).mono ?_
        rintro e y3 ⟨rfl, b⟩
        go_wp2_with fail
        replace cN := CsAt.below cN b (CsAt.lt cN (by simp))
        refine hK.out _ _ (hHeld.trans (Kept.of b)) (fun hHeld => ?_)
        clear hK K
        try simp only [Act.put, List.setIfInBounds_toArray, List.set_cons_zero, List.set_cons_succ]
        have z3 := b.size
        clear b
        refine oneL 4 rfl (by kernel_rfl) rfl (fun K hK => ?_)
        go_simp
        refine (implAddC_any x y z a b c _).mono ?_
        rintro e y4 ⟨rfl, b⟩
        go_wp2_with fail
        replace cN := CsAt.below cN b (CsAt.lt cN (by simp))
        refine hK.out _ _ (hHeld.trans (Kept.of b)) (fun hHeld => ?_)
        clear hK K
        try simp only [Act.put, List.setIfInBounds_toArray, List.set_cons_zero, List.set_cons_succ]
        have z4 := b.size
        clear b
        refine oneL 6 rfl (by kernel_rfl) rfl (fun K hK => ?_)
        have pcN := cN.put [.int .i64 (caN x y z a b c x a), .int .i64 (caN x y z a b c y b), .int .i64 (caN x y z a b c z c)] rfl
        have kz := OrdL.kcells y4 A 0 [.int .i64 (caN x y z a b c x a), .int .i64 (caN x y z a b c y b), .int .i64 (caN x y z a b c z c)]
        refine wp_store_mid 25 _ _ rfl A 0 [.int .i64 (caN x y z a b c x a), .int .i64 (caN x y z a b c y b), .int .i64 (caN x y z a b c z c)].toArray rfl rfl cN.free HSC (all_oneCell_toArray (by intro v hv; simp at hv; rcases hv with rfl | rfl | rfl <;> rfl)) ?_
        refine hK.out _ _ (hHeld.then kz (fun y hy => by simp at hy; subst hy; first | (left; simp; done) | (right; omega))) (fun hHeld => ?_)
        clear hK K
        try simp only [Act.put, List.setIfInBounds_toArray, List.set_cons_zero, List.set_cons_succ]
        clear cN kz
        generalize y4.setCells A 0 [.int .i64 (caN x y z a b c x a), .int .i64 (caN x y z a b c y b), .int .i64 (caN x y z a b c z c)] = y5 at *
        have cN := pcN
        clear pcN
        refine wpAnyH_done (by kernel_rfl) ?_ _
        refine NoPanic.normal ?_
        exact ⟨rfl, A, rfl, hHeld, cN⟩
    case k =>
      rintro A w4 ⟨K, cA⟩
      have B3 := B2.trans ((Kept.all K (by simp)).mono B2.size)
      have cW3 := CsAt.below cW (Kept.all K (by simp)) (CsAt.lt cW (by simp))
      have g0 := cA.cell 0 _ rfl
      have g1 := cA.cell 1 _ rfl
      have g2 := cA.cell 2 _ rfl
      have h0 := cW3.cell 0 _ rfl
      have h1 := cW3.cell 1 _ rfl
      have h2 := cW3.cell 2 _ rfl
      clear K cW
      go_wp2_with fail
      refine (eqCost_same _ _ _ _).mono ?_
      rintro e w5 ⟨rfl, b⟩
      replace B3 := B3.trans (b.mono B3.size)
      clear b g0 g1 g2 h0 h1 h2
      go_wp2
      go_ret
      exact ⟨rfl, B3⟩


set_option maxRecDepth 100000 in
theorem lifted (os : Os) (started : os.Started) (H : Type) (enc : TypeId × Value → H) :
    ReturnsInHanded {} Try.checked os 4 .any (Rows.fnExactCostAddSpec.pre6 enc Try.prog Try.f4 Rows.fnExactCostAddRow.domain false) (Rows.fnExactCostAddSpec.post enc Try.prog Try.f4 false true false false) := by
  refine returnsInHanded_of_change (C := Try.checked) own started (by kernel_rfl) Try.func4
    (ChangeSpec.witness6 (enc := enc) (C := Try.checked) false ⟨#[], #[.agg #[.int .i64 0, .int .i64 0, .int .i64 0], .agg #[.int .i64 0, .int .i64 0, .int .i64 0]], []⟩ 8 (by kernel_rfl) (by kernel_rfl) (by kernel_rfl) (by kernel_rfl)) ?_
  intro W base args ds gs before hval0 hW hcnd _
  have hval : ∀ (j : Nat) t v, Try.f4.params[j]? = some t → args[j]? = some v → Value.okWide Try.prog W .any base t v := hval0
  have hW' := hW
  obtain ⟨p, q, hA0, hV, rfl, hfz, hnd⟩ := hW
  have hA : DataW.TrodAll enc Try.prog W 0 (fun _ => true) true Try.f4.params.toList args.toList ds p := hA0
  rw [Try.params4] at hA hval
  obtain ⟨v0, vs0, d0, ds0, p0, q0, hargs, rfl, rfl, h0, r0⟩ := trodAll_cons hA
  obtain ⟨v1, vs1, d1, ds1, p1, q1, rfl, rfl, rfl, h1, r1⟩ := trodAll_cons r0
  obtain ⟨rfl, rfl, rfl⟩ := trodAll_nil r1
  obtain rfl : args = #[v0, v1] := by cases args; simp_all
  obtain ⟨rfl, rfl⟩ := trodVars_none hV
  have kk0 := h0
  have lt0 : ∀ x ∈ p0, x.block < W.heap.size := by obtain ⟨m, hm⟩ := kk0; exact DataW.trod_lt m _ _ _ hm
  obtain ⟨k0, s0, x0, rfl⟩ : ∃ k s x : Int, v0 = .agg #[.int .i64 k, .int .i64 s, .int .i64 x] := by
    obtain ⟨c0, c1, c2, y0, y1, y2, n, rfl, _, _, g0, g1, g2⟩ := open_agg3 Try.underlying32 (by kernel_rfl) (show Try.prog.cellsOf 32 = 3 by kernel_rfl) (hval 0 32 v0 rfl rfl) h0
    obtain ⟨x0, e0, _, _⟩ := DataW.trod_int Try.underlying3 g0
    obtain ⟨x1, e1, _, _⟩ := DataW.trod_int Try.underlying3 g1
    obtain ⟨x2, e2, _, _⟩ := DataW.trod_int Try.underlying3 g2
    simp at e0 e1 e2
    subst e0 e1 e2
    exact ⟨_, _, _, rfl⟩
  have kk1 := h1
  have lt1 : ∀ x ∈ p1, x.block < W.heap.size := by obtain ⟨m, hm⟩ := kk1; exact DataW.trod_lt m _ _ _ hm
  obtain ⟨k1, s1, x1, rfl⟩ : ∃ k s x : Int, v1 = .agg #[.int .i64 k, .int .i64 s, .int .i64 x] := by
    obtain ⟨c0, c1, c2, y0, y1, y2, n, rfl, _, _, g0, g1, g2⟩ := open_agg3 Try.underlying32 (by kernel_rfl) (show Try.prog.cellsOf 32 = 3 by kernel_rfl) (hval 1 32 v1 rfl rfl) h1
    obtain ⟨x0, e0, _, _⟩ := DataW.trod_int Try.underlying3 g0
    obtain ⟨x1, e1, _, _⟩ := DataW.trod_int Try.underlying3 g1
    obtain ⟨x2, e2, _, _⟩ := DataW.trod_int Try.underlying3 g2
    simp at e0 e1 e2
    subst e0 e1 e2
    exact ⟨_, _, _, rfl⟩
  clear hA0
  refine (walk k0 s0 x0 k1 s1 x1 W  ).mono fun e W' ⟨he, bel⟩ => ?_
  subst he
  exact ⟨_, rfl, _, _, _, [], _, [], hW', trodAll_mk1 (shut_bool Try.underlying4 _), (trodAll_cons_mk (Below.trod laidOut (by kernel_rfl) (of_decide_eq_true (by kernel_rfl)) kk0 bel lt0) (trodAll_cons_mk (Below.trod laidOut (by kernel_rfl) (of_decide_eq_true (by kernel_rfl)) kk1 bel lt1) trodAll_mk0)), rfl, bel.frame _, fun h => by cases h⟩

set_option maxRecDepth 100000 in
theorem facts : joinedFacts Try.prog 4 Try.f4 Rows.fnExactCostAddSpec Rows.fnExactCostAddRow = true := by
  unfold joinedFacts
  refine Facts.and_t ?_ (by as_aux_lemma => kernel_rfl)
  refine Facts.and_t ?_ (by as_aux_lemma => kernel_rfl)
  refine Facts.and_t ?_ (by as_aux_lemma => kernel_rfl)
  refine Facts.and_t ?_ (by as_aux_lemma => kernel_rfl)
  refine Facts.and_t ?_ (by show (Try.prog.make == some Make.cut) = true; rw [Facts.made]; rfl)
  refine Facts.and_t ?_ (by show (false == Try.prog.liftsFinal) = true; rw [Facts.lifts]; rfl)
  refine Facts.and_t ?_ (Facts.enters)
  refine Facts.and_t ?_ (Facts.heard)
  refine Facts.and_t ?_ (rfl)
  refine Facts.and_t ?_ (by show (true == Try.prog.plainKeys) = true; rw [Facts.keys]; rfl)
  refine Facts.and_t ?_ (by as_aux_lemma => kernel_rfl)
  refine Facts.and_t ?_ (by as_aux_lemma => kernel_rfl)
  refine Facts.and_t ?_ (by as_aux_lemma => kernel_rfl)
  refine Facts.and_t ?_ (by as_aux_lemma => kernel_rfl)
  refine Facts.and_t ?_ (by as_aux_lemma => kernel_rfl)
  refine Facts.and_t ?_ (by as_aux_lemma => kernel_rfl)
  refine Facts.and_t ?_ (by as_aux_lemma => kernel_rfl)
  refine Facts.and_t ?_ (by as_aux_lemma => kernel_rfl)
  refine Facts.and_t ?_ (by as_aux_lemma => kernel_rfl)
  refine Facts.and_t ?_ (by as_aux_lemma => kernel_rfl)
  refine Facts.and_t ?_ (by as_aux_lemma => kernel_rfl)
  refine Facts.and_t ?_ (by as_aux_lemma => kernel_rfl)
  refine Facts.and_t ?_ (by as_aux_lemma => kernel_rfl)
  refine Facts.and_t ?_ (by as_aux_lemma => kernel_rfl)
  refine Facts.and_t ?_ (by as_aux_lemma => kernel_rfl)
  refine Facts.and_t ?_ (by as_aux_lemma => kernel_rfl)
  refine Facts.and_t ?_ (by as_aux_lemma => kernel_rfl)
  refine Facts.and_t ?_ (by as_aux_lemma => kernel_rfl)
  refine Facts.and_t ?_ (by as_aux_lemma => kernel_rfl)
  refine Facts.and_t ?_ (Facts.rowed)
  refine Facts.and_t ?_ (Facts.laidOut)
  kernel_rfl

theorem over : Rows.fnExactCostAddRow.holds Try.pinned (OpenSpec.ofChange Rows.fnExactCostAddSpec) :=
  OpenClaim.holds_of_wide 4 Try.f4 rfl rfl rfl rfl rfl rfl rfl ⟨rfl, rfl, rfl, rfl, rfl⟩ rfl rfl rfl rfl rfl (by kernel_rfl) Try.func4 facts
    (of_decide_eq_true (by kernel_rfl)) (by unfold Func.isWrapper; first | (rw [if_pos (by decide +kernel)]; kernel_rfl) | (rw [if_neg (by decide +kernel)]; exact ⟨rfl, rfl⟩))
    (fun os started H enc _ => lifted os started H enc)

end Go.Proofs.Ytogfelpdgeionaa.ExactCostAdd
namespace Go.Proofs.Ytogfelpdgeionaa
theorem fnExactCostAdd_holds : Rows.FnExactCostAddSaid := ExactCostAdd.over
end Go.Proofs.Ytogfelpdgeionaa
