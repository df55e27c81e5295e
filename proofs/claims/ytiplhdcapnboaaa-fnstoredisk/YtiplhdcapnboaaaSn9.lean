/-
  A new store, as the laws that draw ask it.
-/
import Derived.Test.YtiplhdcapnboaaaStO
import Derived.Test.YtiplhdcapnboaaaDrwC
import Derived.Test.YtiplhdcapnboaaaOrdL
namespace Go.Proofs.Ytiplhdcapnboaaa.Sn9
open Go.ChangeShapes Go.WideShapes Go.ChangeAt Go.RowKit Go.Shelf Big Fl ImplB ImplF ImplL ImplT ImplU ImplW Kp StA DoA NwA StB StG
set_option linter.unusedVariables false
set_option linter.unusedSimpArgs false
attribute [local go_sem ↓] Go.wp_at_zero Go.wp_at_succ

set_option maxRecDepth 100000 in
set_option maxHeartbeats 2000000 in
theorem newS_any (w : World) : Calls Try.prog 55 #[] w fun e w' => ∃ g d, e = .returned (.agg #[.slice (some ⟨g, 0, none⟩) 4 4, .slice (some ⟨d, 0, none⟩) 6 6]) ∧ SAt w' (some ⟨g, 0, none⟩) zFs (some ⟨d, 0, none⟩) zDk ∧ Below w.heap.size w w' := by
  have HM := hide (show (Try.prog.info? 3).map (fun i => (i.zero, i.size, i.bytes)) = some (some (.int .i64 0), 1, 8) by kernel_rfl)
  have HSS := hide (show (Try.prog.info? 54).map (·.size) = some 2 by kernel_rfl)
  have b1 : Below w.heap.size w (w.alloc (.cells #[.slice none 0 0, .slice none 0 0] 54)) := (Below.refl _ _).alloc (Nat.le_refl _) _
  have cR := CsAt.new w [.slice none 0 0, .slice none 0 0] 54
  have s1 : w.heap.size < (w.alloc (.cells #[.slice none 0 0, .slice none 0 0] 54)).heap.size := by simp
  go_enter Try.func55, Try.ntmps55
  go_upto_region 1 with fail
  generalize w.alloc (.cells #[.slice none 0 0, .slice none 0 0] 54) = w1 at *
  apply OrdL.join2 (F := fun (g : Nat) (d : Nat) w' => CsAt w' w.heap.size [.slice (some ⟨g, 0, none⟩) 4 4, .slice (some ⟨d, 0, none⟩) 6 6] ∧ FsAt w' (some ⟨g, 0, none⟩) zFs ∧ CsAt w' d (isC zDk) ∧ Kept [w.heap.size] w1 w')
  case h =>
    refine wp_region_noPanic ?_
    refine wp_region_held_drew (S := fun w' => Kept [w.heap.size] w1 w') (by kernel_rfl) (Kept.refl _ _).drew (fun hHeld => ?_)
    replace cR := OrdL.ckept cR (L := []) (Kept.refl [] w1).drew (CsAt.lt cR (by simp)) (by simp)
    generalize w1.drew = y0 at *
    have z0 := hHeld.size
    refine OrdL.twoL 0 1 rfl rfl (by kernel_rfl) rfl rfl  (fun K hK => ?_) (fun K hK => ?_) 
    · go_simp
      refine (flashNew_any _).mono ?_
      rintro e y1 ⟨g, G, rfl, O, b⟩
      go_wp2_with fail
      replace cR := CsAt.below cR b (CsAt.lt cR (by simp))
      refine hK.out _ _ (hHeld.trans (Kept.of b)) (fun hHeld => ?_)
      clear hK K
      try simp only [Act.put, List.setIfInBounds_toArray, List.set_cons_zero, List.set_cons_succ]
      have z1 := b.size
      clear b
      refine oneL 1 rfl (by kernel_rfl) rfl (fun K hK => ?_)
      refine wp_make_big 47 _ _ rfl 6 rfl rfl 3 1 8 (.int .i64 0) Try.underlying47 (unhide HM) (by omega) (by omega) ?_
      rw [NwA.made6]
      have b : Below y1.heap.size y1 (y1.alloc (.cells (isC zDk).toArray 3)) := (Below.refl _ _).alloc (Nat.le_refl _) _
      have cD := CsAt.new y1 (isC zDk) 3
      have lcD := hHeld.size
      replace cR := CsAt.below cR b (CsAt.lt cR (by simp))
      replace O := own_kept O (L := []) (Kept.of b) (by simp)
      refine hK.out _ _ (hHeld.trans (Kept.of b)) (fun hHeld => ?_)
      clear hK K
      try simp only [Act.put, List.setIfInBounds_toArray, List.set_cons_zero, List.set_cons_succ]
      have z2 := b.size
      generalize y1.alloc (.cells (isC zDk).toArray 3) = y2 at *
      generalize y1.heap.size = d at *
      clear b
      refine takeL 2 (.agg #[.slice (some ⟨g, 0, none⟩) 4 4, .slice (some ⟨d, 0, none⟩) 6 6]) rfl (by kernel_rfl) (by kernel_rfl) (by kernel_rfl) (fun _ _ _ h => h) (Or.inl ⟨rfl, fun w9 hSw => by go_simp⟩) hHeld ?_
      try simp only [Act.put, List.setIfInBounds_toArray, List.set_cons_zero, List.set_cons_succ]
      refine oneL 3 rfl (by kernel_rfl) rfl (fun K hK => ?_)
      have pcR := cR.put [.slice (some ⟨g, 0, none⟩) 4 4, .slice (some ⟨d, 0, none⟩) 6 6] rfl
      have kz := OrdL.kcells y2 w.heap.size 0 [.slice (some ⟨g, 0, none⟩) 4 4, .slice (some ⟨d, 0, none⟩) 6 6]
      refine wp_store_mid 54 _ _ rfl w.heap.size 0 [.slice (some ⟨g, 0, none⟩) 4 4, .slice (some ⟨d, 0, none⟩) 6 6].toArray rfl rfl cR.free (unhide HSS) (by kernel_rfl) ?_
      refine hK.out _ _ (hHeld.then kz (fun y hy => by simp at hy; subst hy; first | (left; simp; done) | (right; omega))) (fun hHeld => ?_)
      clear hK K
      try simp only [Act.put, List.setIfInBounds_toArray, List.set_cons_zero, List.set_cons_succ]
      replace O := own_kept O kz (fun x hx hm => by simp at hm; subst hm; have := O.lo _ hx; omega)
      replace cD := csAt_kept cD kz (CsAt.lt cD (by simp [isC, zDk])) (by simp; omega)
      clear cR kz
      generalize y2.setCells w.heap.size 0 [.slice (some ⟨g, 0, none⟩) 4 4, .slice (some ⟨d, 0, none⟩) 6 6] = y3 at *
      have cR := pcR
      clear pcR
      refine wpAnyH_done (by kernel_rfl) ?_ _
      refine NoPanic.normal ?_
      exact ⟨rfl, g, d, rfl, cR, O.fs, cD, hHeld⟩
    · refine wp_make_big 47 _ _ rfl 6 rfl rfl 3 1 8 (.int .i64 0) Try.underlying47 (unhide HM) (by omega) (by omega) ?_
      rw [NwA.made6]
      have b : Below y0.heap.size y0 (y0.alloc (.cells (isC zDk).toArray 3)) := (Below.refl _ _).alloc (Nat.le_refl _) _
      have cD := CsAt.new y0 (isC zDk) 3
      have lcD := hHeld.size
      replace cR := CsAt.below cR b (CsAt.lt cR (by simp))
      refine hK.out _ _ (hHeld.trans (Kept.of b)) (fun hHeld => ?_)
      clear hK K
      try simp only [Act.put, List.setIfInBounds_toArray, List.set_cons_zero, List.set_cons_succ]
      have z1 := b.size
      generalize y0.alloc (.cells (isC zDk).toArray 3) = y1 at *
      generalize y0.heap.size = d at *
      clear b
      refine oneL 0 rfl (by kernel_rfl) rfl (fun K hK => ?_)
      go_simp
      refine (flashNew_any _).mono ?_
      rintro e y2 ⟨g, G, rfl, O, b⟩
      go_wp2_with fail
      replace cR := CsAt.below cR b (CsAt.lt cR (by simp))
      replace cD := CsAt.below cD b (CsAt.lt cD (by simp [isC, zDk]))
      refine hK.out _ _ (hHeld.trans (Kept.of b)) (fun hHeld => ?_)
      clear hK K
      try simp only [Act.put, List.setIfInBounds_toArray, List.set_cons_zero, List.set_cons_succ]
      have z2 := b.size
      clear b
      refine takeL 2 (.agg #[.slice (some ⟨g, 0, none⟩) 4 4, .slice (some ⟨d, 0, none⟩) 6 6]) rfl (by kernel_rfl) (by kernel_rfl) (by kernel_rfl) (fun _ _ _ h => h) (Or.inl ⟨rfl, fun w9 hSw => by go_simp⟩) hHeld ?_
      try simp only [Act.put, List.setIfInBounds_toArray, List.set_cons_zero, List.set_cons_succ]
      refine oneL 3 rfl (by kernel_rfl) rfl (fun K hK => ?_)
      have pcR := cR.put [.slice (some ⟨g, 0, none⟩) 4 4, .slice (some ⟨d, 0, none⟩) 6 6] rfl
      have kz := OrdL.kcells y2 w.heap.size 0 [.slice (some ⟨g, 0, none⟩) 4 4, .slice (some ⟨d, 0, none⟩) 6 6]
      refine wp_store_mid 54 _ _ rfl w.heap.size 0 [.slice (some ⟨g, 0, none⟩) 4 4, .slice (some ⟨d, 0, none⟩) 6 6].toArray rfl rfl cR.free (unhide HSS) (by kernel_rfl) ?_
      refine hK.out _ _ (hHeld.then kz (fun y hy => by simp at hy; subst hy; first | (left; simp; done) | (right; omega))) (fun hHeld => ?_)
      clear hK K
      try simp only [Act.put, List.setIfInBounds_toArray, List.set_cons_zero, List.set_cons_succ]
      replace cD := csAt_kept cD kz (CsAt.lt cD (by simp [isC, zDk])) (by simp; omega)
      replace O := own_kept O kz (fun x hx hm => by simp at hm; subst hm; have := O.lo _ hx; omega)
      clear cR kz
      generalize y2.setCells w.heap.size 0 [.slice (some ⟨g, 0, none⟩) 4 4, .slice (some ⟨d, 0, none⟩) 6 6] = y3 at *
      have cR := pcR
      clear pcR
      refine wpAnyH_done (by kernel_rfl) ?_ _
      refine NoPanic.normal ?_
      exact ⟨rfl, g, d, rfl, cR, O.fs, cD, hHeld⟩
  case k =>
    rintro g d w' ⟨cR, hz, cD, K⟩
    have BZ := ((Kept.of (L := [w.heap.size]) b1).trans K).all (by simp)
    go_wp2
    refine bodyPost_ret (res_cell_mid Try.results55 _ _ w.heap.size [.slice (some ⟨g, 0, none⟩) 4 4, .slice (some ⟨d, 0, none⟩) 6 6] _ rfl cR.cells Try.underlying54 rfl (by kernel_rfl)) rfl ?_
    exact ⟨g, d, rfl, ⟨hz, .inr ⟨d, 0, rfl, cD.cells⟩⟩, BZ⟩
end Go.Proofs.Ytiplhdcapnboaaa.Sn9
