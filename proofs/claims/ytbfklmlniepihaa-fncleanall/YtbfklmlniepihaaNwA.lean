/-
  The specification's new store.
-/
import Derived.Test.YtbfklmlniepihaaDpA
import Derived.Test.YtbfklmlniepihaaSpecN
import Derived.Test.YtbfklmlniepihaaImplW
namespace Go.Proofs.Ytbfklmlniepihaa.NwA
open Go.ChangeShapes Go.WideShapes Go.ChangeAt Go.RowKit Go.Shelf OkA Big Fl ImplB ImplF ImplS _root_.Go.Proofs.Ytbfklmlniepihaa.Own ImplT ImplU SpecA SpecB SpecC SpecD SpecW SpecF SpecG SpecH Ok2 Pl FindP SpecX ImplL FindN FindL FindV Kp StA RmA WrA FlA DoA ToA PlA AlA DpA ImplW
set_option linter.unusedVariables false
set_option linter.unusedSimpArgs false
attribute [local go_sem ↓] Go.wp_at_zero Go.wp_at_succ

theorem wp_make_big {P : Program} {o : Oper} {a : Act} {w : World} {Q : Exit → Act → World → Prop} {K : Act → World → Prop} (t : TypeId) (x y : Operand) (ho : o.op = .makeSlice t x y) (n : Nat) (hx : a.eval x = .int .i64 n) (hy : a.eval y = .int .i64 n)
    (e sz bytes : Nat) (z : Value) (ht : P.underlying t = some (.slice e)) (hi : (P.info? e).map (fun i => (i.zero, i.size, i.bytes)) = some (some z, sz, bytes)) (hb : bytes * n ≤ 281474976710656) (hn : n ≤ 281474976710656)
    (h : K (a.put o.dst (.slice (some ⟨w.heap.size, 0, none⟩) n n)) (w.alloc (.cells (madeCells z.cells (n * sz)) e))) : o.wp P a w K Q := by
  cases hq : P.info? e with
  | none => simp [hq] at hi
  | some i =>
    simp [hq] at hi
    obtain ⟨h1, h2, h3⟩ := hi
    have hb' : (i.bytes : Int) * (n : Int) ≤ 281474976710656 := by
      rw [h3, ← Int.natCast_mul]; exact Int.ofNat_le.2 hb
    have hrun := run_make (P := P) w t e i z ht hq h1 .i64 .i64 n n (by omega) (by omega) hb' (by omega)
    simp only [Int.toNat_natCast, h2] at hrun
    unfold Oper.wp execOp
    simp only [ho, hx, hy, Sem.run_bind, hrun, Result.andThen_ok]
    exact h
def zDk : List Int := [0, 0, 0, 0, 0, 0]
theorem made6 : madeCells (Value.int .i64 0).cells (6 * 1) = (isC zDk).toArray := by kernel_rfl
theorem ok_new : okB zFs = true := by decide
def NewPost (w : World) (e : Ending) (w' : World) : Prop := ∃ g d G cap, e = .returned (.agg #[.slice (some ⟨g, 0, none⟩) 4 cap, .slice (some ⟨d, 0, none⟩) 6 6]) ∧ St w' w.heap.size g d G zFs zDk ∧ Below w.heap.size w w' ∧ 4 ≤ cap

set_option maxRecDepth 100000 in
set_option maxHeartbeats 2000000 in
theorem store_new (w : World) : Calls Try.prog 21 #[] w fun e w' => NewPost w e w' := by
  have b1 : Below w.heap.size w (w.alloc (.cells #[.slice none 0 0, .slice none 0 0] 59)) := (Below.refl _ _).alloc (Nat.le_refl _) _
  have cR := store_box w (.slice none 0 0) (.slice none 0 0)
  have s1 : (w.alloc (.cells #[.slice none 0 0, .slice none 0 0] 59)).heap.size = w.heap.size + 1 := by simp
  have HSS := hide (show (Try.prog.info? 59).map (·.size) = some 2 by kernel_rfl)
  have HB := hide (fun (g d cap : Nat) => (show Try.prog.built 59 [(0, .slice (some ⟨g, 0, none⟩) 4 cap), (1, .slice (some ⟨d, 0, none⟩) 6 6)] = some #[.slice (some ⟨g, 0, none⟩) 4 cap, .slice (some ⟨d, 0, none⟩) 6 6] by kernel_rfl))
  have HM := hide (show (Try.prog.info? 3).map (fun i => (i.zero, i.size, i.bytes)) = some (some (.int .i64 0), 1, 8) by kernel_rfl)
  have HN := hide SpecN.new_any4
  go_enter Try.func21, Try.ntmps21
  go_upto_region 1 with fail
  generalize w.alloc (.cells #[.slice none 0 0, .slice none 0 0] 59) = w1 at *
  refine wp_region_noPanic ?_
  refine wp_region_held_drew (S := fun w' => True) (by kernel_rfl) (trivial) (fun hHeld => ?_)
  have B1d := b1.drew
  have R1d := csAt_kept cR (L := []) (Kept.refl [] w1).drew (by omega) (by simp)
  have s1d : w1.drew.heap.size = w.heap.size + 1 := s1
  refine twoL 0 1 rfl rfl (by kernel_rfl) rfl rfl (fun K hK => ?_) (fun K hK => ?_)
  · go_simp
    refine (unhide HN _).mono ?_
    rintro e w2 ⟨g, G, c, rfl, o2, b2, hc4⟩
    go_wp2_with fail
    refine hK.out _ _ trivial (fun hHeld => ?_)
    clear hK K
    try simp only [Act.put, List.setIfInBounds_toArray, List.set_cons_zero, List.set_cons_succ]
    refine oneL 1 rfl (by kernel_rfl) rfl (fun K hK => ?_)
    refine wp_make_big 57 _ _ rfl 6 rfl rfl 3 1 8 (.int .i64 0) Try.underlying57 (unhide HM) (by omega) (by omega) ?_
    rw [made6]
    refine hK.out _ _ trivial (fun hHeld => ?_)
    clear hK K
    try simp only [Act.put, List.setIfInBounds_toArray, List.set_cons_zero, List.set_cons_succ]
    have bA : Below w2.heap.size w2 (w2.alloc (.cells (isC zDk).toArray 3)) := (Below.refl _ _).alloc (Nat.le_refl _) _
    have h2 := b2.size
    have hl2 : ∀ y ∈ g :: G, w.heap.size + 1 ≤ y ∧ y < w2.heap.size := fun y hy => ⟨by have := o2.lo y hy; omega, o2.hi y hy⟩
    have S3 : St (w2.alloc (.cells (isC zDk).toArray 3)) w.heap.size g w2.heap.size G zFs zDk := ⟨(o2.below bA (Nat.le_refl _)).mono (by omega), CsAt.new w2 (isC zDk) 3, by omega, by simp, fun hm => by have := (hl2 _ hm).2; omega, rfl⟩
    have hl : ∀ y ∈ w2.heap.size :: g :: G, w.heap.size + 1 ≤ y := fun y hy => by
      rcases List.mem_cons.1 hy with rfl | hy
      · omega
      · exact (hl2 y hy).1
    have R3 := csAt_kept (csAt_kept R1d (L := []) (Kept.of b2) (by omega) (by simp)) (L := []) (Kept.of bA) (by omega) (by simp)
    have B3 := (B1d.trans (b2.mono B1d.size)).alloc (by omega) (.cells (isC zDk).toArray 3)
    generalize w2.alloc (.cells (isC zDk).toArray 3) = w3 at *
    refine oneL 2 rfl (by kernel_rfl) rfl (fun K hK => ?_)
    refine wp_build_two 59 _ _ rfl (.slice (some ⟨g, 0, none⟩) 4 c) (.slice (some ⟨w2.heap.size, 0, none⟩) 6 6) rfl rfl [.slice (some ⟨g, 0, none⟩) 4 c, .slice (some ⟨w2.heap.size, 0, none⟩) 6 6].toArray (unhide HB g w2.heap.size c) ?_
    refine hK.out _ _ trivial (fun hHeld => ?_)
    clear hK K
    try simp only [Act.put, List.setIfInBounds_toArray, List.set_cons_zero, List.set_cons_succ]
    have p1 := R3.put [.slice (some ⟨g, 0, none⟩) 4 c, .slice (some ⟨w2.heap.size, 0, none⟩) 6 6] rfl
    have kz := kept_cells w3 w.heap.size 0 [.slice (some ⟨g, 0, none⟩) 4 c, .slice (some ⟨w2.heap.size, 0, none⟩) 6 6]
    have SZ := S3.kept kz (fun y hy => by have := hl y hy; simp; omega)
    have BZ : Below w.heap.size w (w3.setCells w.heap.size 0 [.slice (some ⟨g, 0, none⟩) 4 c, .slice (some ⟨w2.heap.size, 0, none⟩) 6 6]) := Big.below_setCells w.heap.size (Nat.le_refl _) _ _ _ B3
    refine oneL 3 rfl (by kernel_rfl) rfl (fun K hK => ?_)
    refine wp_store_mid 59 _ _ rfl w.heap.size 0 [.slice (some ⟨g, 0, none⟩) 4 c, .slice (some ⟨w2.heap.size, 0, none⟩) 6 6].toArray rfl rfl R3.free (unhide HSS) (by kernel_rfl) ?_
    refine hK.out _ _ trivial (fun hHeld => ?_)
    clear hK K
    try simp only [Act.put, List.setIfInBounds_toArray, List.set_cons_zero, List.set_cons_succ]
    refine wpAnyH_done (by kernel_rfl) ?_ _
    refine NoPanic.normal ?_
    go_wp2_with fail
    refine bodyPost_ret (res_cell_mid Try.results21 _ _ w.heap.size [.slice (some ⟨g, 0, none⟩) 4 c, .slice (some ⟨w2.heap.size, 0, none⟩) 6 6] _ rfl p1.cells Try.underlying59 rfl (by kernel_rfl)) rfl ?_
    exact ⟨g, w2.heap.size, G, c, rfl, SZ, BZ, hc4⟩
  · refine wp_make_big 57 _ _ rfl 6 rfl rfl 3 1 8 (.int .i64 0) Try.underlying57 (unhide HM) (by omega) (by omega) ?_
    rw [made6]
    refine hK.out _ _ trivial (fun hHeld => ?_)
    clear hK K
    try simp only [Act.put, List.setIfInBounds_toArray, List.set_cons_zero, List.set_cons_succ]
    refine oneL 0 rfl (by kernel_rfl) rfl (fun K hK => ?_)
    go_simp
    refine (unhide HN _).mono ?_
    rintro e w3 ⟨g, G, c, rfl, o3, b3, hc4⟩
    go_wp2_with fail
    refine hK.out _ _ trivial (fun hHeld => ?_)
    clear hK K
    try simp only [Act.put, List.setIfInBounds_toArray, List.set_cons_zero, List.set_cons_succ]
    have bA : Below w1.drew.heap.size w1.drew (w1.drew.alloc (.cells (isC zDk).toArray 3)) := (Below.refl _ _).alloc (Nat.le_refl _) _
    have b4 : Below (w1.drew.alloc (.cells (isC zDk).toArray 3)).heap.size (w1.drew.alloc (.cells (isC zDk).toArray 3)) w3 := b3
    have o4 : Own.Own w3 (w1.drew.alloc (.cells (isC zDk).toArray 3)).heap.size g G zFs 4 := o3
    clear b3 o3
    have h3 := b4.size
    rw [World.size_alloc] at h3
    have hl3 : ∀ y ∈ g :: G, w1.drew.heap.size + 1 ≤ y := fun y hy => by have := o4.lo y hy; rw [World.size_alloc] at this; exact this
    have S3 : St w3 w.heap.size g w1.drew.heap.size G zFs zDk := ⟨o4.mono (by rw [World.size_alloc]; omega), csAt_kept (CsAt.new w1.drew (isC zDk) 3) (L := []) (Kept.of b4) (by simp) (by simp), by omega, by omega, fun hm => by have := hl3 _ hm; omega, rfl⟩
    have hl : ∀ y ∈ w1.drew.heap.size :: g :: G, w.heap.size + 1 ≤ y := fun y hy => by
      rcases List.mem_cons.1 hy with rfl | hy
      · omega
      · have := hl3 y hy; omega
    have R3 := csAt_kept (csAt_kept R1d (L := []) (Kept.of bA) (by omega) (by simp)) (L := []) (Kept.of b4) (by rw [World.size_alloc]; omega) (by simp)
    have B3 := (B1d.alloc (by omega) (.cells (isC zDk).toArray 3)).trans (b4.mono (by rw [World.size_alloc]; omega))
    rw [s1d] at S3 hl
    refine oneL 2 rfl (by kernel_rfl) rfl (fun K hK => ?_)
    refine wp_build_two 59 _ _ rfl (.slice (some ⟨g, 0, none⟩) 4 c) (.slice (some ⟨(w.heap.size + 1), 0, none⟩) 6 6) rfl rfl [.slice (some ⟨g, 0, none⟩) 4 c, .slice (some ⟨(w.heap.size + 1), 0, none⟩) 6 6].toArray (unhide HB g (w.heap.size + 1) c) ?_
    refine hK.out _ _ trivial (fun hHeld => ?_)
    clear hK K
    try simp only [Act.put, List.setIfInBounds_toArray, List.set_cons_zero, List.set_cons_succ]
    have p1 := R3.put [.slice (some ⟨g, 0, none⟩) 4 c, .slice (some ⟨(w.heap.size + 1), 0, none⟩) 6 6] rfl
    have kz := kept_cells w3 w.heap.size 0 [.slice (some ⟨g, 0, none⟩) 4 c, .slice (some ⟨(w.heap.size + 1), 0, none⟩) 6 6]
    have SZ := S3.kept kz (fun y hy => by have := hl y hy; simp; omega)
    have BZ : Below w.heap.size w (w3.setCells w.heap.size 0 [.slice (some ⟨g, 0, none⟩) 4 c, .slice (some ⟨(w.heap.size + 1), 0, none⟩) 6 6]) := Big.below_setCells w.heap.size (Nat.le_refl _) _ _ _ B3
    refine oneL 3 rfl (by kernel_rfl) rfl (fun K hK => ?_)
    refine wp_store_mid 59 _ _ rfl w.heap.size 0 [.slice (some ⟨g, 0, none⟩) 4 c, .slice (some ⟨(w.heap.size + 1), 0, none⟩) 6 6].toArray rfl rfl R3.free (unhide HSS) (by kernel_rfl) ?_
    refine hK.out _ _ trivial (fun hHeld => ?_)
    clear hK K
    try simp only [Act.put, List.setIfInBounds_toArray, List.set_cons_zero, List.set_cons_succ]
    refine wpAnyH_done (by kernel_rfl) ?_ _
    refine NoPanic.normal ?_
    go_wp2_with fail
    refine bodyPost_ret (res_cell_mid Try.results21 _ _ w.heap.size [.slice (some ⟨g, 0, none⟩) 4 c, .slice (some ⟨(w.heap.size + 1), 0, none⟩) 6 6] _ rfl p1.cells Try.underlying59 rfl (by kernel_rfl)) rfl ?_
    exact ⟨g, (w.heap.size + 1), G, c, rfl, SZ, BZ, hc4⟩
end Go.Proofs.Ytbfklmlniepihaa.NwA
