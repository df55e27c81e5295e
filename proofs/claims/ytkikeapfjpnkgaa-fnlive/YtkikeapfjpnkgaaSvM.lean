/-
  Texts that belong together, one behind the other: StN, DrS, Sv.
-/
import Derived.Test.YtkikeapfjpnkgaaDrwD
import Derived.Test.YtkikeapfjpnkgaaStO
import Derived.Test.YtkikeapfjpnkgaaSpM

/-
  Stores that are drawn: whatever is drawn, a store lies there, in memory of its own; what is ok can be written.
-/
namespace Go.Proofs.Ytkikeapfjpnkgaa.StN
open Go.ChangeShapes Go.WideShapes Go.ChangeAt Go.RowKit Go.Shelf Big Fl ImplF ImplL Kp StA RmA DoA AlA DpA NwA Pick Draw EvA ImplB ImplS ImplU SpecC SpecD SpecW ImplW PyA FlB ClA StB StG
set_option linter.unusedVariables false
set_option linter.unusedSimpArgs false
attribute [local go_sem ↓] Go.wp_at_zero Go.wp_at_succ

/-- A store in memory from lo on. -/
structure SN (lo : Nat) (w : World) (g o : Nat) (bs : List Bk) (d z : Nat) (dk : List Int) : Prop where
  fs : FsN lo w g o bs
  ds : w.rangeAt d z (isC dk)
  dlo : lo ≤ d
  dhi : d < w.heap.size
  dn : d ≠ g
  six : dk.length ≤ 6
  own : okB bs = true → dk.length = 6 → o = 0 ∧ z = 0 ∧ ∃ G, St w lo g d G bs dk
variable {lo lo' g o d z : Nat} {w w' : World} {bs : List Bk} {dk : List Int} {L : List Nat}
theorem SN.kept (h : SN lo w g o bs d z dk) (k : Kept L w w') (hL : ∀ x ∈ L, x < lo) : SN lo w' g o bs d z dk := by
  have hn : ∀ x, lo ≤ x → x ∉ L := fun x hx hm => by have := hL x hm; omega
  refine ⟨h.fs.kept k hL, k.range h.ds h.dhi (hn d h.dlo), h.dlo, Nat.lt_of_lt_of_le h.dhi k.size, h.dn, h.six, fun q1 q2 => ?_⟩
  obtain ⟨e1, e2, G, S⟩ := h.own q1 q2
  exact ⟨e1, e2, G, S.kept k (fun x hx => hn x (S.all x hx).1)⟩
theorem SN.below (h : SN lo w g o bs d z dk) (hb : Below w.heap.size w w') : SN lo w' g o bs d z dk := h.kept (L := []) (Kept.of hb) (by simp)
theorem own_mono {n : Nat} {G : List Nat} (h : Own.Own w lo g G bs n) (hl : lo' ≤ lo) : Own.Own w lo' g G bs n := by
  obtain ⟨⟩ := h
  constructor <;> first | assumption | (intro x hx; exact Nat.le_trans hl (by first | (apply_assumption; exact hx)))
theorem SN.mono (h : SN lo w g o bs d z dk) (hl : lo' ≤ lo) : SN lo' w g o bs d z dk := by
  refine ⟨FsN.mono h.fs hl, h.ds, Nat.le_trans hl h.dlo, h.dhi, h.dn, h.six, fun q1 q2 => ?_⟩
  obtain ⟨e1, e2, G, S⟩ := h.own q1 q2
  exact ⟨e1, e2, G, ⟨own_mono S.own hl, S.disk, Nat.le_trans hl S.dlo, S.dhi, S.dn, S.six⟩⟩
theorem SN.at (h : SN lo w g o bs d z dk) : SAt w (some ⟨g, o, none⟩) bs (some ⟨d, z, none⟩) dk := ⟨h.fs.fs, .inr ⟨d, z, rfl, h.ds⟩⟩
theorem SN.of {G : List Nat} (h : St w lo g d G bs dk) (hl : bs.length ≤ 4) (hp : ∀ b ∈ bs, b.ps.length ≤ 4) : SN lo w g 0 bs d 0 dk :=
  ⟨FsN.of h.own hl hp, h.disk.cells, h.dlo, h.dhi, fun e => h.dn (by simp [e]), by have := h.six; omega, fun _ _ => ⟨rfl, rfl, G, h⟩⟩
theorem SN.less (h : SN lo w g o bs d 0 dk) (h6 : dk.length = 6) : SN lo w g o bs d 1 dk.tail :=
  ⟨h.fs, fun j v hv => by
    have := h.ds (j + 1) v (by rw [← hv]; simp [StA.isC, List.getElem?_map, List.getElem?_tail])
    rw [show 1 + j = 0 + (j + 1) by omega]; exact this, h.dlo, h.dhi, h.dn, by simp; omega, fun _ q => by simp at q; omega⟩

theorem St.setInt {G : List Nat} (h : St w lo g d G bs dk) {i : Nat} (hi : i < dk.length) (x : Int) : St (w.setCell ⟨d, i, none⟩ (.int .i64 x)) lo g d G bs (dk.set i x) :=
  have kd := kept_cell w d i (.int .i64 x)
  ⟨own_kept h.own kd (fun y hy hm => by simp at hm; subst hm; exact h.dn hy), h.disk.setInt hi x, h.dlo, Nat.lt_of_lt_of_le h.dhi kd.size, h.dn, by simp [h.six]⟩
/-- What is drawn. -/
def SrPost (u w0 w : World) (rb : Nat) (a : Option Addr) (len cap : Nat) (p : Int) (e : Ending) (w' : World) : Prop :=
  ∃ g o c bs d z dc dk p', e = .returned (.agg #[.slice (some ⟨g, o, none⟩) bs.length c, .slice (some ⟨d, z, none⟩) dk.length dc]) ∧ SN w.heap.size w' g o bs d z dk ∧ (okB bs = true → 4 ≤ c) ∧ p ≤ p' ∧ p' ≤ p + 1030 ∧ Rd u w0 rb a len cap p' w' ∧ Kept [rb] w w'




set_option maxRecDepth 100000 in
set_option maxHeartbeats 4000000 in
theorem store_any (u w0 w : World) (rb : Nat) (a : Option Addr) (len cap : Nat) (p : Int) (hr : Row w0 a len) (hl : len ≤ 10000) (h : Rd u w0 rb a len cap p w) (hp0 : 0 ≤ p) (hp : p ≤ 450) :
    Calls Try.prog 91 #[.pointer (some ⟨rb, 0, none⟩)] w fun e w' => SrPost u w0 w rb a len cap p e w' := by
  have hlt := h.lt
  have hold := h.old
  have hu := h.kp.size
  have bA : Below w.heap.size w (w.alloc (.cells #[.slice none 0 0, .slice none 0 0] 54)) := (Below.refl _ _).alloc (Nat.le_refl _) _
  have cR0 := CsAt.new w [.slice none 0 0, .slice none 0 0] 54
  have dA := h.alloc (.cells #[.slice none 0 0, .slice none 0 0] 54)
  have kA : Kept [rb] w (w.alloc (.cells #[.slice none 0 0, .slice none 0 0] 54)) := Kept.of bA
  have sA : (w.alloc (.cells #[.slice none 0 0, .slice none 0 0] 54)).heap.size = w.heap.size + 1 := by simp
  have HPL := hide (play_any u w0 _ rb a len cap p hr hl dA hp0 (by omega))
  have HDN : ∀ (g o c : Nat) (bs : List Bk) (d z dc : Nat) (dk : List Int) (p' : Int) (w' : World) (v : Value), v = .agg #[.slice (some ⟨g, o, none⟩) bs.length c, .slice (some ⟨d, z, none⟩) dk.length dc] → SN (w.heap.size + 1) w' g o bs d z dk → (okB bs = true → 4 ≤ c) → p ≤ p' → p' ≤ p + 1030 → Rd u w0 rb a len cap p' w' → Kept [rb] w w' → SrPost u w0 w rb a len cap p (.returned v) w' := fun g o c bs d z dc dk p' w' v hv h1 h2 h3 h4 h5 h6 => ⟨g, o, c, bs, d, z, dc, dk, p', by rw [hv], h1.mono (by omega), h2, h3, h4, h5, h6⟩
  clear h bA
  go_enter Try.func91, Try.ntmps91
  go_wp2_with fail
  refine (unhide HPL).mono ?_
  rintro e w1 ⟨ev, g, d, G, c, B, D, p1, rfl, hok, S1, hp1, hp2, d1, k1, hc4⟩
  generalize hRB : w.heap.size = RB at *
  generalize w.alloc (.cells #[.slice none 0 0, .slice none 0 0] 54) = wa at *
  rw [sA] at S1
  have cR1 := csAt_kept cR0 k1 (by omega) (by simp; omega)
  have k1' := kA.trans k1
  have sz1 := k1.size
  clear HPL dA kA cR0 k1
  have bB : Below w1.heap.size w1 (w1.alloc (.cells #[.slice (some ⟨g, 0, none⟩) 4 c, .slice (some ⟨d, 0, none⟩) 6 6] 54)) := (Below.refl _ _).alloc (Nat.le_refl _) _
  have cB2 := CsAt.new w1 [.slice (some ⟨g, 0, none⟩) 4 c, .slice (some ⟨d, 0, none⟩) 6 6] 54
  have d2 := d1.alloc (.cells #[.slice (some ⟨g, 0, none⟩) 4 c, .slice (some ⟨d, 0, none⟩) 6 6] 54)
  have S2 := S1.below bB
  have k2 : Kept [rb] w (w1.alloc (.cells #[.slice (some ⟨g, 0, none⟩) 4 c, .slice (some ⟨d, 0, none⟩) 6 6] 54)) := k1'.trans (Kept.of bB)
  have cR2 := csAt_kept cR1 (L := []) (Kept.of bB) (by omega) (by simp)
  have sz2 : (w1.alloc (.cells #[.slice (some ⟨g, 0, none⟩) 4 c, .slice (some ⟨d, 0, none⟩) 6 6] 54)).heap.size = w1.heap.size + 1 := by simp
  have hB4 := ok_len hok
  have h6 := S1.six
  have hall := S1.all
  have HOK := hide hok
  clear S1 bB d1 k1' cR1 hok
  go_wp2_with fail
  generalize hSB : w1.heap.size = sb at *
  generalize w1.alloc (.cells #[.slice (some ⟨g, 0, none⟩) 4 c, .slice (some ⟨d, 0, none⟩) 6 6] 54) = w2 at *
  have hdg : ∀ x ∈ d :: g :: G, RB + 1 ≤ x ∧ x < sb := hall
  clear hall
  refine (pick_k u w0 w2 rb a len cap p1 30 hr hl d2 (by omega) (by omega) (by omega) (by omega)).mono ?_
  rintro e w3 ⟨r, rfl, r0, r1, d3, m3⟩
  have hrbG : rb ∉ d :: g :: G := fun hm => by have := hdg rb hm; omega
  have S3 := S2.kept m3 (fun x hx hm => by simp at hm; subst hm; exact hrbG hx)
  have cR3 := csAt_kept cR2 m3 (by omega) (by simp; omega)
  have cB3 := csAt_kept cB2 m3 (by omega) (by simp; omega)
  have k3 := k2.trans m3
  have sz3 := m3.size
  have hgd := hdg g (by simp)
  have hdd := hdg d (by simp)
  clear S2 cR2 cB2 k2 d2
  by_cases q0 : r = 0
  · subst q0
    go_upto_region 4 with fail
    refine wp_region_noPanic ?_
    refine wp_region_held_drew (S := fun w' => Kept [rb, d] w3 w') (by kernel_rfl) ((Kept.refl _ _).drew) (fun hHeld => ?_)
    refine takeL 0 (.pointer (some ⟨sb, 1, none⟩)) rfl (by kernel_rfl) (by kernel_rfl) (by kernel_rfl) (fun _ _ _ h => h) (Or.inl ⟨rfl, fun w9 hSw => by go_simp⟩) hHeld ?_
    try simp only [Act.put, List.setIfInBounds_toArray, List.set_cons_zero, List.set_cons_succ]
    refine takeL 1 (.slice (some ⟨d, 0, none⟩) 6 6) rfl (by kernel_rfl) (by kernel_rfl) (by kernel_rfl) (fun _ _ _ h => h) (Or.inl ⟨rfl, fun w9 hSw => by have hc := (hSw.cell (b := sb) 1 (by omega) (by simp; omega)).trans (cB3.cell 1 _ rfl); go_simp⟩) hHeld ?_
    try simp only [Act.put, List.setIfInBounds_toArray, List.set_cons_zero, List.set_cons_succ]
    refine takeL 2 (.pointer (some ⟨rb, 0, none⟩)) rfl (by kernel_rfl) (by kernel_rfl) (by kernel_rfl) (fun _ _ _ h => h) (Or.inl ⟨rfl, fun _ _ => rfl⟩) hHeld ?_
    try simp only [Act.put, List.setIfInBounds_toArray, List.set_cons_zero, List.set_cons_succ]
    refine takeL 5 (.pointer (some ⟨rb, 0, none⟩)) rfl (by kernel_rfl) (by kernel_rfl) (by kernel_rfl) (fun _ _ _ h => h) (Or.inl ⟨rfl, fun _ _ => rfl⟩) hHeld ?_
    try simp only [Act.put, List.setIfInBounds_toArray, List.set_cons_zero, List.set_cons_succ]
    have x0 := d3.drew
    have n0 : Kept [rb] w3 w3.drew := (Kept.refl _ w3).drew
    generalize w3.drew = y0 at *
    refine twoL 3 4 rfl rfl (by kernel_rfl) rfl rfl (fun K hK => ?_) (fun K hK => ?_)
    · go_simp
      refine (pick_k u w0 _ rb a len cap (p1 + 1) 6 hr hl x0 (by omega) (by omega) (by omega) (by omega)).mono ?_
      rintro e y1 ⟨i0, rfl, i00, i01, x1, m⟩
      go_wp2_with fail
      refine hK.out _ _ (hHeld.trans (m.sub (fun x hx => by simp at hx; simp [hx]))) (fun hHeld => ?_)
      clear hK K
      try simp only [Act.put, List.setIfInBounds_toArray, List.set_cons_zero, List.set_cons_succ]
      have n1 := n0.trans m
      clear m
      refine twoL 4 6 rfl rfl (by kernel_rfl) rfl rfl (fun K hK => ?_) (fun K hK => ?_)
      · go_simp
        have c2 := CsAt.new y1 [.int .i64 (-1), .int .i64 10, .int .i64 0, .int .i64 5] 3
        have x2 := x1.alloc (.cells #[.int .i64 (-1), .int .i64 10, .int .i64 0, .int .i64 5] 3)
        have l2 : y1.heap.size < (y1.alloc (.cells #[.int .i64 (-1), .int .i64 10, .int .i64 0, .int .i64 5] 3)).heap.size := by simp
        have m : Kept [rb] y1 (y1.alloc (.cells #[.int .i64 (-1), .int .i64 10, .int .i64 0, .int .i64 5] 3)) := Kept.of ((Below.refl _ _).alloc (Nat.le_refl _) _)
        have n2 := n1.trans m
        have zA : sb + 1 ≤ y1.heap.size := by have := n1.size; omega
        refine hK.out _ _ (hHeld.trans (m.sub (fun x hx => by simp at hx; simp [hx]))) (fun hHeld => ?_)
        clear hK K m
        try simp only [Act.put, List.setIfInBounds_toArray, List.set_cons_zero, List.set_cons_succ]
        generalize y1.alloc (.cells #[.int .i64 (-1), .int .i64 10, .int .i64 0, .int .i64 5] 3) = y2 at *
        generalize hA : y1.heap.size = A at *
        refine oneL 6 rfl (by kernel_rfl) rfl (fun K hK => ?_)
        go_simp
        refine (pick_k u w0 _ rb a len cap (p1 + 1 + 1) 4 hr hl x2 (by omega) (by omega) (by omega) (by omega)).mono ?_
        rintro e y3 ⟨j0, rfl, j00, j01, x3, m⟩
        go_wp2_with fail
        refine hK.out _ _ (hHeld.trans (m.sub (fun x hx => by simp at hx; simp [hx]))) (fun hHeld => ?_)
        clear hK K
        try simp only [Act.put, List.setIfInBounds_toArray, List.set_cons_zero, List.set_cons_succ]
        have n3 := n2.trans m
        have c3 := csAt_kept c2 m l2 (by simp; omega)
        have l3 := Nat.lt_of_lt_of_le l2 m.size
        clear m
        obtain ⟨i, rfl⟩ := Int.eq_ofNat_of_zero_le i00
        obtain ⟨j, rfl⟩ := Int.eq_ofNat_of_zero_le j00
        have hi : i < 6 := by omega
        have hj : j < 4 := by omega
        obtain ⟨x, hx⟩ : ∃ x : Int, y3.cell? ⟨A, j, none⟩ = some (.int .i64 x) := by
          match j, hj with
          | 0, _ => exact ⟨_, c3.cell 0 _ rfl⟩
          | 1, _ => exact ⟨_, c3.cell 1 _ rfl⟩
          | 2, _ => exact ⟨_, c3.cell 2 _ rfl⟩
          | 3, _ => exact ⟨_, c3.cell 3 _ rfl⟩
        have S9 := S3.kept n3 (fun x hx hm => by simp at hm; subst hm; exact hrbG hx)
        have cB9 := csAt_kept cB3 n3 (by omega) (by simp; omega)
        have cR9 := csAt_kept cR3 n3 (by omega) (by simp; omega)
        have k9 := k3.trans n3
        have s9 := n3.size
        obtain ⟨v0, hv0⟩ : ∃ v, y3.cell? ⟨d, i, none⟩ = some v := ⟨_, S9.disk.cell i (.int .i64 (D.getD i 0)) (by rw [StA.isC, List.getElem?_map, List.getElem?_eq_getElem (by omega), List.getD_eq_getElem?_getD, List.getElem?_eq_getElem (by omega)]; rfl)⟩
        have fz := S9.disk.frozen i (by rw [StA.len_isC]; omega)
        refine oneL 7 rfl (by kernel_rfl) rfl (fun K hK => ?_)
        go_simp
        refine hK.out _ _ hHeld (fun hHeld => ?_)
        clear hK K
        try simp only [Act.put, List.setIfInBounds_toArray, List.set_cons_zero, List.set_cons_succ]
        refine oneL 8 rfl (by kernel_rfl) rfl (fun K hK => ?_)
        go_simp
        refine hK.out _ _ hHeld (fun hHeld => ?_)
        clear hK K
        try simp only [Act.put, List.setIfInBounds_toArray, List.set_cons_zero, List.set_cons_succ]
        refine oneL 9 rfl (by kernel_rfl) rfl (fun K hK => ?_)
        go_simp
        refine hK.out _ _ hHeld (fun hHeld => ?_)
        clear hK K
        try simp only [Act.put, List.setIfInBounds_toArray, List.set_cons_zero, List.set_cons_succ]
        refine oneL 10 rfl (by kernel_rfl) rfl (fun K hK => ?_)
        go_simp
        refine hK.out _ _ (hHeld.setCell (p := ⟨d, i, none⟩) (.inl (by simp)) _) (fun hHeld => ?_)
        clear hK K
        try simp only [Act.put, List.setIfInBounds_toArray, List.set_cons_zero, List.set_cons_succ]
        refine wpAnyH_done (by kernel_rfl) ?_ _
        refine NoPanic.normal ?_
        have kd := kept_cell y3 d i (.int .i64 x)
        have SX := St.setInt S9 (i := i) (by omega) x
        have cBX := csAt_kept cB9 kd (by omega) (by simp; omega)
        have cRX := csAt_kept cR9 kd (by omega) (by simp; omega)
        have dX := rd_set x3 kd (by omega) (by omega) (by omega)
        have kX := k9.then kd (fun y hy => by simp at hy; subst hy; right; omega)
        have sX := kd.size
        clear hHeld cB9 cR9 k9 S9
        generalize y3.setCell ⟨d, i, none⟩ (.int .i64 x) = wX at *
        have SNX := SN.of SX (by omega) (by have := ok_fours (unhide HOK); intro b hb; have := this b hb; omega)
        have hlx : (D.set i x).length = 6 := by simp; omega
        have e0 := cBX.cell 0 _ rfl
        have e1 := cBX.cell 1 _ rfl
        have d0 := cRX.cell 0 _ rfl
        have d1 := cRX.cell 1 _ rfl
        have f0 := cRX.frozen 0 (by simp)
        have f1 := cRX.frozen 1 (by simp)
        have pt1 := cRX.put [.slice (some ⟨g, 0, none⟩) 4 c, .slice (some ⟨d, 0, none⟩) 6 6] rfl
        have kz := kept_cells wX RB 0 [.slice (some ⟨g, 0, none⟩) 4 c, .slice (some ⟨d, 0, none⟩) 6 6]
        have DONE := HDN g 0 c B d 0 6 (D.set i x) (p1 + 1 + 1 + 1) _ _ rfl (SNX.kept kz (fun x hx => by simp at hx; omega)) (fun _ => hc4) (by omega) (by omega) (rd_set dX kz (by omega) (by omega) (by omega)) (kX.then kz (fun y hy => by simp at hy; subst hy; right; omega))
        rw [hB4, hlx] at DONE
        go_wp2
        refine bodyPost_ret (res_cell_mid Try.results91 _ _ RB [.slice (some ⟨g, 0, none⟩) 4 c, .slice (some ⟨d, 0, none⟩) 6 6] _ rfl pt1.cells Try.underlying54 rfl (by kernel_rfl)) rfl ?_
        exact DONE
      · go_simp
        refine (pick_k u w0 _ rb a len cap (p1 + 1 + 1) 4 hr hl x1 (by omega) (by omega) (by omega) (by omega)).mono ?_
        rintro e y2 ⟨j0, rfl, j00, j01, x2, m⟩
        go_wp2_with fail
        refine hK.out _ _ (hHeld.trans (m.sub (fun x hx => by simp at hx; simp [hx]))) (fun hHeld => ?_)
        clear hK K
        try simp only [Act.put, List.setIfInBounds_toArray, List.set_cons_zero, List.set_cons_succ]
        have n2 := n1.trans m
        clear m
        refine oneL 4 rfl (by kernel_rfl) rfl (fun K hK => ?_)
        go_simp
        have c3 := CsAt.new y2 [.int .i64 (-1), .int .i64 10, .int .i64 0, .int .i64 5] 3
        have x3 := x2.alloc (.cells #[.int .i64 (-1), .int .i64 10, .int .i64 0, .int .i64 5] 3)
        have l3 : y2.heap.size < (y2.alloc (.cells #[.int .i64 (-1), .int .i64 10, .int .i64 0, .int .i64 5] 3)).heap.size := by simp
        have m : Kept [rb] y2 (y2.alloc (.cells #[.int .i64 (-1), .int .i64 10, .int .i64 0, .int .i64 5] 3)) := Kept.of ((Below.refl _ _).alloc (Nat.le_refl _) _)
        have n3 := n2.trans m
        have zA : sb + 1 ≤ y2.heap.size := by have := n2.size; omega
        refine hK.out _ _ (hHeld.trans (m.sub (fun x hx => by simp at hx; simp [hx]))) (fun hHeld => ?_)
        clear hK K m
        try simp only [Act.put, List.setIfInBounds_toArray, List.set_cons_zero, List.set_cons_succ]
        generalize y2.alloc (.cells #[.int .i64 (-1), .int .i64 10, .int .i64 0, .int .i64 5] 3) = y3 at *
        generalize hA : y2.heap.size = A at *
        obtain ⟨i, rfl⟩ := Int.eq_ofNat_of_zero_le i00
        obtain ⟨j, rfl⟩ := Int.eq_ofNat_of_zero_le j00
        have hi : i < 6 := by omega
        have hj : j < 4 := by omega
        obtain ⟨x, hx⟩ : ∃ x : Int, y3.cell? ⟨A, j, none⟩ = some (.int .i64 x) := by
          match j, hj with
          | 0, _ => exact ⟨_, c3.cell 0 _ rfl⟩
          | 1, _ => exact ⟨_, c3.cell 1 _ rfl⟩
          | 2, _ => exact ⟨_, c3.cell 2 _ rfl⟩
          | 3, _ => exact ⟨_, c3.cell 3 _ rfl⟩
        have S9 := S3.kept n3 (fun x hx hm => by simp at hm; subst hm; exact hrbG hx)
        have cB9 := csAt_kept cB3 n3 (by omega) (by simp; omega)
        have cR9 := csAt_kept cR3 n3 (by omega) (by simp; omega)
        have k9 := k3.trans n3
        have s9 := n3.size
        obtain ⟨v0, hv0⟩ : ∃ v, y3.cell? ⟨d, i, none⟩ = some v := ⟨_, S9.disk.cell i (.int .i64 (D.getD i 0)) (by rw [StA.isC, List.getElem?_map, List.getElem?_eq_getElem (by omega), List.getD_eq_getElem?_getD, List.getElem?_eq_getElem (by omega)]; rfl)⟩
        have fz := S9.disk.frozen i (by rw [StA.len_isC]; omega)
        refine oneL 7 rfl (by kernel_rfl) rfl (fun K hK => ?_)
        go_simp
        refine hK.out _ _ hHeld (fun hHeld => ?_)
        clear hK K
        try simp only [Act.put, List.setIfInBounds_toArray, List.set_cons_zero, List.set_cons_succ]
        refine oneL 8 rfl (by kernel_rfl) rfl (fun K hK => ?_)
        go_simp
        refine hK.out _ _ hHeld (fun hHeld => ?_)
        clear hK K
        try simp only [Act.put, List.setIfInBounds_toArray, List.set_cons_zero, List.set_cons_succ]
        refine oneL 9 rfl (by kernel_rfl) rfl (fun K hK => ?_)
        go_simp
        refine hK.out _ _ hHeld (fun hHeld => ?_)
        clear hK K
        try simp only [Act.put, List.setIfInBounds_toArray, List.set_cons_zero, List.set_cons_succ]
        refine oneL 10 rfl (by kernel_rfl) rfl (fun K hK => ?_)
        go_simp
        refine hK.out _ _ (hHeld.setCell (p := ⟨d, i, none⟩) (.inl (by simp)) _) (fun hHeld => ?_)
        clear hK K
        try simp only [Act.put, List.setIfInBounds_toArray, List.set_cons_zero, List.set_cons_succ]
        refine wpAnyH_done (by kernel_rfl) ?_ _
        refine NoPanic.normal ?_
        have kd := kept_cell y3 d i (.int .i64 x)
        have SX := St.setInt S9 (i := i) (by omega) x
        have cBX := csAt_kept cB9 kd (by omega) (by simp; omega)
        have cRX := csAt_kept cR9 kd (by omega) (by simp; omega)
        have dX := rd_set x3 kd (by omega) (by omega) (by omega)
        have kX := k9.then kd (fun y hy => by simp at hy; subst hy; right; omega)
        have sX := kd.size
        clear hHeld cB9 cR9 k9 S9
        generalize y3.setCell ⟨d, i, none⟩ (.int .i64 x) = wX at *
        have SNX := SN.of SX (by omega) (by have := ok_fours (unhide HOK); intro b hb; have := this b hb; omega)
        have hlx : (D.set i x).length = 6 := by simp; omega
        have e0 := cBX.cell 0 _ rfl
        have e1 := cBX.cell 1 _ rfl
        have d0 := cRX.cell 0 _ rfl
        have d1 := cRX.cell 1 _ rfl
        have f0 := cRX.frozen 0 (by simp)
        have f1 := cRX.frozen 1 (by simp)
        have pt1 := cRX.put [.slice (some ⟨g, 0, none⟩) 4 c, .slice (some ⟨d, 0, none⟩) 6 6] rfl
        have kz := kept_cells wX RB 0 [.slice (some ⟨g, 0, none⟩) 4 c, .slice (some ⟨d, 0, none⟩) 6 6]
        have DONE := HDN g 0 c B d 0 6 (D.set i x) (p1 + 1 + 1 + 1) _ _ rfl (SNX.kept kz (fun x hx => by simp at hx; omega)) (fun _ => hc4) (by omega) (by omega) (rd_set dX kz (by omega) (by omega) (by omega)) (kX.then kz (fun y hy => by simp at hy; subst hy; right; omega))
        rw [hB4, hlx] at DONE
        go_wp2
        refine bodyPost_ret (res_cell_mid Try.results91 _ _ RB [.slice (some ⟨g, 0, none⟩) 4 c, .slice (some ⟨d, 0, none⟩) 6 6] _ rfl pt1.cells Try.underlying54 rfl (by kernel_rfl)) rfl ?_
        exact DONE
    · go_simp
      have c1 := CsAt.new y0 [.int .i64 (-1), .int .i64 10, .int .i64 0, .int .i64 5] 3
      have x1 := x0.alloc (.cells #[.int .i64 (-1), .int .i64 10, .int .i64 0, .int .i64 5] 3)
      have l1 : y0.heap.size < (y0.alloc (.cells #[.int .i64 (-1), .int .i64 10, .int .i64 0, .int .i64 5] 3)).heap.size := by simp
      have m : Kept [rb] y0 (y0.alloc (.cells #[.int .i64 (-1), .int .i64 10, .int .i64 0, .int .i64 5] 3)) := Kept.of ((Below.refl _ _).alloc (Nat.le_refl _) _)
      have n1 := n0.trans m
      have zA : sb + 1 ≤ y0.heap.size := by have := n0.size; omega
      refine hK.out _ _ (hHeld.trans (m.sub (fun x hx => by simp at hx; simp [hx]))) (fun hHeld => ?_)
      clear hK K m
      try simp only [Act.put, List.setIfInBounds_toArray, List.set_cons_zero, List.set_cons_succ]
      generalize y0.alloc (.cells #[.int .i64 (-1), .int .i64 10, .int .i64 0, .int .i64 5] 3) = y1 at *
      generalize hA : y0.heap.size = A at *
      refine oneL 3 rfl (by kernel_rfl) rfl (fun K hK => ?_)
      go_simp
      refine (pick_k u w0 _ rb a len cap (p1 + 1) 6 hr hl x1 (by omega) (by omega) (by omega) (by omega)).mono ?_
      rintro e y2 ⟨i0, rfl, i00, i01, x2, m⟩
      go_wp2_with fail
      refine hK.out _ _ (hHeld.trans (m.sub (fun x hx => by simp at hx; simp [hx]))) (fun hHeld => ?_)
      clear hK K
      try simp only [Act.put, List.setIfInBounds_toArray, List.set_cons_zero, List.set_cons_succ]
      have n2 := n1.trans m
      have c2 := csAt_kept c1 m l1 (by simp; omega)
      have l2 := Nat.lt_of_lt_of_le l1 m.size
      clear m
      refine oneL 6 rfl (by kernel_rfl) rfl (fun K hK => ?_)
      go_simp
      refine (pick_k u w0 _ rb a len cap (p1 + 1 + 1) 4 hr hl x2 (by omega) (by omega) (by omega) (by omega)).mono ?_
      rintro e y3 ⟨j0, rfl, j00, j01, x3, m⟩
      go_wp2_with fail
      refine hK.out _ _ (hHeld.trans (m.sub (fun x hx => by simp at hx; simp [hx]))) (fun hHeld => ?_)
      clear hK K
      try simp only [Act.put, List.setIfInBounds_toArray, List.set_cons_zero, List.set_cons_succ]
      have n3 := n2.trans m
      have c3 := csAt_kept c2 m l2 (by simp; omega)
      have l3 := Nat.lt_of_lt_of_le l2 m.size
      clear m
      obtain ⟨i, rfl⟩ := Int.eq_ofNat_of_zero_le i00
      obtain ⟨j, rfl⟩ := Int.eq_ofNat_of_zero_le j00
      have hi : i < 6 := by omega
      have hj : j < 4 := by omega
      obtain ⟨x, hx⟩ : ∃ x : Int, y3.cell? ⟨A, j, none⟩ = some (.int .i64 x) := by
        match j, hj with
        | 0, _ => exact ⟨_, c3.cell 0 _ rfl⟩
        | 1, _ => exact ⟨_, c3.cell 1 _ rfl⟩
        | 2, _ => exact ⟨_, c3.cell 2 _ rfl⟩
        | 3, _ => exact ⟨_, c3.cell 3 _ rfl⟩
      have S9 := S3.kept n3 (fun x hx hm => by simp at hm; subst hm; exact hrbG hx)
      have cB9 := csAt_kept cB3 n3 (by omega) (by simp; omega)
      have cR9 := csAt_kept cR3 n3 (by omega) (by simp; omega)
      have k9 := k3.trans n3
      have s9 := n3.size
      obtain ⟨v0, hv0⟩ : ∃ v, y3.cell? ⟨d, i, none⟩ = some v := ⟨_, S9.disk.cell i (.int .i64 (D.getD i 0)) (by rw [StA.isC, List.getElem?_map, List.getElem?_eq_getElem (by omega), List.getD_eq_getElem?_getD, List.getElem?_eq_getElem (by omega)]; rfl)⟩
      have fz := S9.disk.frozen i (by rw [StA.len_isC]; omega)
      refine oneL 7 rfl (by kernel_rfl) rfl (fun K hK => ?_)
      go_simp
      refine hK.out _ _ hHeld (fun hHeld => ?_)
      clear hK K
      try simp only [Act.put, List.setIfInBounds_toArray, List.set_cons_zero, List.set_cons_succ]
      refine oneL 8 rfl (by kernel_rfl) rfl (fun K hK => ?_)
      go_simp
      refine hK.out _ _ hHeld (fun hHeld => ?_)
      clear hK K
      try simp only [Act.put, List.setIfInBounds_toArray, List.set_cons_zero, List.set_cons_succ]
      refine oneL 9 rfl (by kernel_rfl) rfl (fun K hK => ?_)
      go_simp
      refine hK.out _ _ hHeld (fun hHeld => ?_)
      clear hK K
      try simp only [Act.put, List.setIfInBounds_toArray, List.set_cons_zero, List.set_cons_succ]
      refine oneL 10 rfl (by kernel_rfl) rfl (fun K hK => ?_)
      go_simp
      refine hK.out _ _ (hHeld.setCell (p := ⟨d, i, none⟩) (.inl (by simp)) _) (fun hHeld => ?_)
      clear hK K
      try simp only [Act.put, List.setIfInBounds_toArray, List.set_cons_zero, List.set_cons_succ]
      refine wpAnyH_done (by kernel_rfl) ?_ _
      refine NoPanic.normal ?_
      have kd := kept_cell y3 d i (.int .i64 x)
      have SX := St.setInt S9 (i := i) (by omega) x
      have cBX := csAt_kept cB9 kd (by omega) (by simp; omega)
      have cRX := csAt_kept cR9 kd (by omega) (by simp; omega)
      have dX := rd_set x3 kd (by omega) (by omega) (by omega)
      have kX := k9.then kd (fun y hy => by simp at hy; subst hy; right; omega)
      have sX := kd.size
      clear hHeld cB9 cR9 k9 S9
      generalize y3.setCell ⟨d, i, none⟩ (.int .i64 x) = wX at *
      have SNX := SN.of SX (by omega) (by have := ok_fours (unhide HOK); intro b hb; have := this b hb; omega)
      have hlx : (D.set i x).length = 6 := by simp; omega
      have e0 := cBX.cell 0 _ rfl
      have e1 := cBX.cell 1 _ rfl
      have d0 := cRX.cell 0 _ rfl
      have d1 := cRX.cell 1 _ rfl
      have f0 := cRX.frozen 0 (by simp)
      have f1 := cRX.frozen 1 (by simp)
      have pt1 := cRX.put [.slice (some ⟨g, 0, none⟩) 4 c, .slice (some ⟨d, 0, none⟩) 6 6] rfl
      have kz := kept_cells wX RB 0 [.slice (some ⟨g, 0, none⟩) 4 c, .slice (some ⟨d, 0, none⟩) 6 6]
      have DONE := HDN g 0 c B d 0 6 (D.set i x) (p1 + 1 + 1 + 1) _ _ rfl (SNX.kept kz (fun x hx => by simp at hx; omega)) (fun _ => hc4) (by omega) (by omega) (rd_set dX kz (by omega) (by omega) (by omega)) (kX.then kz (fun y hy => by simp at hy; subst hy; right; omega))
      rw [hB4, hlx] at DONE
      go_wp2
      refine bodyPost_ret (res_cell_mid Try.results91 _ _ RB [.slice (some ⟨g, 0, none⟩) 4 c, .slice (some ⟨d, 0, none⟩) 6 6] _ rfl pt1.cells Try.underlying54 rfl (by kernel_rfl)) rfl ?_
      exact DONE
  by_cases q1 : r = 1
  · subst q1
    have b1 := cB3.cell 1 _ rfl
    have g1 := cB3.frozen 1 (by simp)
    have kd := kept_cell w3 sb 1 (.slice (some ⟨d, 1, none⟩) 5 5)
    have cBX := csAt_set cB3 1 (by simp) (.slice (some ⟨d, 1, none⟩) 5 5)
    have cRX := csAt_kept cR3 kd (by omega) (by simp; omega)
    have dX := rd_set d3 kd (by omega) (by omega) (by omega)
    have kX := k3.then kd (fun y hy => by simp at hy; subst hy; right; omega)
    have SX := S3.kept kd (fun x hx hm => by simp at hm; subst hm; have := hdg _ hx; omega)
    have SNX := (SN.of SX (by omega) (by have := ok_fours (unhide HOK); intro b hb; have := this b hb; omega)).less (by omega)
    have sX := kd.size
    have hlx : D.tail.length = 5 := by simp; omega
    have b0 := cB3.cell 0 _ rfl
    clear S3 SX cB3 cR3 d3 k3
    go_upto_region 14 with fail
    generalize w3.setCell ⟨sb, 1, none⟩ (.slice (some ⟨d, 1, none⟩) 5 5) = wX at *
    have e0 := cBX.cell 0 _ rfl
    have e1 := cBX.cell 1 _ rfl
    have d0 := cRX.cell 0 _ rfl
    have d1 := cRX.cell 1 _ rfl
    have f0 := cRX.frozen 0 (by simp)
    have f1 := cRX.frozen 1 (by simp)
    have pt1 := cRX.put [.slice (some ⟨g, 0, none⟩) 4 c, .slice (some ⟨d, 1, none⟩) 5 5] rfl
    have kz := kept_cells wX RB 0 [.slice (some ⟨g, 0, none⟩) 4 c, .slice (some ⟨d, 1, none⟩) 5 5]
    have DONE := HDN g 0 c B d 1 5 D.tail (p1 + 1) _ _ rfl (SNX.kept kz (fun x hx => by simp at hx; omega)) (fun _ => hc4) (by omega) (by omega) (rd_set dX kz (by omega) (by omega) (by omega)) (kX.then kz (fun y hy => by simp at hy; subst hy; right; omega))
    rw [hB4, hlx] at DONE
    go_wp2
    refine bodyPost_ret (res_cell_mid Try.results91 _ _ RB [.slice (some ⟨g, 0, none⟩) 4 c, .slice (some ⟨d, 1, none⟩) 5 5] _ rfl pt1.cells Try.underlying54 rfl (by kernel_rfl)) rfl ?_
    exact DONE
  by_cases q2 : r = 2
  · subst q2
    have HFL := hide (flash_own u w0 w3 rb a len cap (p1 + 1) hr hl d3 (by omega) (by omega))
    go_wp2_with fail
    refine (unhide HFL).mono ?_
    rintro e w4 ⟨g', o', c', bs', p4, rfl, F4, hp3, hp4, d4, k4, own4⟩
    have S4 := S3.kept k4 (fun x hx hm => by simp at hm; subst hm; exact hrbG hx)
    have cR4 := csAt_kept cR3 k4 (by omega) (by simp; omega)
    have cB4 := csAt_kept cB3 k4 (by omega) (by simp; omega)
    have kk4 := k3.trans k4
    have sz4 := k4.size
    clear HFL S3 cR3 cB3 d3 k3
    have b0 := cB4.cell 0 _ rfl
    have b1 := cB4.cell 1 _ rfl
    have g0 := cB4.frozen 0 (by simp)
    have kd := kept_cell w4 sb 0 (.slice (some ⟨g', o', none⟩) bs'.length c')
    have cBX := csAt_set cB4 0 (by simp) (.slice (some ⟨g', o', none⟩) bs'.length c')
    have cRX := csAt_kept cR4 kd (by omega) (by simp; omega)
    have dX := rd_set d4 kd (by omega) (by omega) (by omega)
    have kX := kk4.then kd (fun y hy => by simp at hy; subst hy; right; omega)
    have SX := S4.kept kd (fun x hx hm => by simp at hm; subst hm; have := hdg _ hx; omega)
    have FX := FsN.mono (F4.kept kd (fun x hx => by simp at hx; omega)) (show RB + 1 ≤ w3.heap.size by omega)
    have sX := kd.size
    have ownX : okB bs' = true → D.length = 6 → o' = 0 ∧ 0 = 0 ∧ ∃ G', St (w4.setCell ⟨sb, 0, none⟩ (.slice (some ⟨g', o', none⟩) bs'.length c')) (RB + 1) g' d G' bs' D := fun q1 q2 => by
      obtain ⟨e1, e2, G', O⟩ := own4 q1
      have O' := own_mono (own_kept O kd (fun x hx hm => by simp at hm; subst hm; have := O.lo _ hx; omega)) (show RB + 1 ≤ w3.heap.size by omega)
      exact ⟨e1, rfl, G', O', SX.disk, SX.dlo, SX.dhi, fun hm => by have := O.lo _ hm; omega, q2⟩
    have hc4' : okB bs' = true → 4 ≤ c' := fun q => (own4 q).2.1
    have hgl := F4.glo
    have SNX : SN (RB + 1) (w4.setCell ⟨sb, 0, none⟩ (.slice (some ⟨g', o', none⟩) bs'.length c')) g' o' bs' d 0 D := ⟨FX, SX.disk.cells, SX.dlo, SX.dhi, by omega, by omega, ownX⟩
    clear S4 SX cB4 cR4 d4 kk4 k4 F4 FX ownX own4
    go_upto_region 14 with fail
    generalize w4.setCell ⟨sb, 0, none⟩ (.slice (some ⟨g', o', none⟩) bs'.length c') = wX at *
    have e0 := cBX.cell 0 _ rfl
    have e1 := cBX.cell 1 _ rfl
    have d0 := cRX.cell 0 _ rfl
    have d1 := cRX.cell 1 _ rfl
    have f0 := cRX.frozen 0 (by simp)
    have f1 := cRX.frozen 1 (by simp)
    have pt1 := cRX.put [.slice (some ⟨g', o', none⟩) bs'.length c', .slice (some ⟨d, 0, none⟩) 6 6] rfl
    have kz := kept_cells wX RB 0 [.slice (some ⟨g', o', none⟩) bs'.length c', .slice (some ⟨d, 0, none⟩) 6 6]
    have DONE := HDN g' o' c' bs' d 0 6 D p4 _ _ rfl (SNX.kept kz (fun x hx => by simp at hx; omega)) hc4' (by omega) (by omega) (rd_set dX kz (by omega) (by omega) (by omega)) (kX.then kz (fun y hy => by simp at hy; subst hy; right; omega))
    rw [h6] at DONE
    go_wp2
    refine bodyPost_ret (res_cell_mid Try.results91 _ _ RB [.slice (some ⟨g', o', none⟩) bs'.length c', .slice (some ⟨d, 0, none⟩) 6 6] _ rfl pt1.cells Try.underlying54 rfl (by kernel_rfl)) rfl ?_
    exact DONE
  by_cases q3 : r = 3
  · subst q3
    have HF := hide (show ∀ b ∈ B, b.ps.length ≤ 4 from fun b hb => by have := ok_fours (unhide HOK) b hb; omega)
    go_upto_region 11 with fail
    go_loopw [5] (fun i w' => ∃ (k : Nat) (bs' : List Bk), k ≤ 4 ∧ i = .int .i64 k ∧ bs'.length = 4 ∧ Hid (∀ b ∈ bs', b.ps.length ≤ 4) ∧ St w' (RB + 1) g d G bs' D ∧ CsAt w' sb [.slice (some ⟨g, 0, none⟩) 4 c, .slice (some ⟨d, 0, none⟩) 6 6] ∧ CsAt w' RB [.slice none 0 0, .slice none 0 0] ∧ Rd u w0 rb a len cap (p1 + 1) w' ∧ Kept [rb] w w' ∧ sb + 1 ≤ w'.heap.size) (fun i _ => 4 - (intOf i).toNat)
    case atStart => exact ⟨0, B, by omega, rfl, hB4, HF, S3, cB3, cR3, d3, k3, by omega⟩
    case round =>
      clear S3 cB3 cR3 d3 k3
      obtain ⟨k, bs', hk, rfl, hl4, HF', S5, cB5, cR5, d5, k5, s5⟩ := hrel
      have b0 := cB5.cell 0 _ rfl
      by_cases h0 : k = 4
      · subst h0
        have SNX := SN.of S5 (by omega) (unhide HF')
        go_upto_region 14 with fail
        have e0 := cB5.cell 0 _ rfl
        have e1 := cB5.cell 1 _ rfl
        have d0 := cR5.cell 0 _ rfl
        have d1 := cR5.cell 1 _ rfl
        have f0 := cR5.frozen 0 (by simp)
        have f1 := cR5.frozen 1 (by simp)
        have pt1 := cR5.put [.slice (some ⟨g, 0, none⟩) 4 c, .slice (some ⟨d, 0, none⟩) 6 6] rfl
        have kz := kept_cells wr RB 0 [.slice (some ⟨g, 0, none⟩) 4 c, .slice (some ⟨d, 0, none⟩) 6 6]
        have DONE := HDN g 0 c bs' d 0 6 D (p1 + 1) _ _ rfl (SNX.kept kz (fun x hx => by simp at hx; omega)) (fun _ => hc4) (by omega) (by omega) (rd_set d5 kz (by omega) (by omega) (by omega)) (k5.then kz (fun y hy => by simp at hy; subst hy; right; omega))
        rw [hl4, h6] at DONE
        go_wp2
        refine bodyPost_ret (res_cell_mid Try.results91 _ _ RB [.slice (some ⟨g, 0, none⟩) 4 c, .slice (some ⟨d, 0, none⟩) 6 6] _ rfl pt1.cells Try.underlying54 rfl (by kernel_rfl)) rfl ?_
        exact DONE
      · have hlt : (k : Int) < 4 := by omega
        have hkb : k < bs'.length := by omega
        have c1 := S5.own.worn k hkb
        have f1 : wr.frozen? ⟨g, k * 2 + 1, none⟩ = false := by have := (S5.own.room (k * 2 + 1) (by omega)).2; rwa [Nat.zero_add] at this
        have oZ := SpecW.wear S5.own k hkb 200
        have kz := kept_cell wr g (k * 2 + 1) (.int .i64 200)
        have hgG : g ∉ G := (List.nodup_cons.1 S5.own.nd).1
        have hgd' : d ≠ g := fun e => S5.dn (by simp [e])
        have SX : St (wr.setCell ⟨g, k * 2 + 1, none⟩ (.int .i64 200)) (RB + 1) g d G (bs'.set k ⟨bs'[k].ps, 200⟩) D := ⟨oZ, csAt_kept S5.disk kz S5.dhi (by simp; exact hgd'), S5.dlo, Nat.lt_of_lt_of_le S5.dhi kz.size, S5.dn, S5.six⟩
        have cBX := csAt_kept cB5 kz (by omega) (by simp; omega)
        have cRX := csAt_kept cR5 kz (by omega) (by simp; omega)
        have dX := rd_set d5 kz (by omega) (by omega) (by omega)
        have kX := k5.then kz (fun y hy => by simp at hy; subst hy; right; omega)
        have sX := Nat.le_trans s5 kz.size
        have HFX : Hid (∀ b ∈ bs'.set k ⟨bs'[k].ps, 200⟩, b.ps.length ≤ 4) := fun b hb => by
          rcases List.mem_or_eq_of_mem_set hb with hb | rfl
          · exact unhide HF' b hb
          · exact unhide HF' bs'[k] (List.getElem_mem hkb)
        clear oZ S5 cB5 cR5 d5 k5
        go_wp2
        go_roundw
        case rel => exact ⟨k + 1, _, by omega, by first | rfl | go_num, by simp [hl4], HFX, SX, cBX, cRX, dX, kX, sX⟩
        case measure => simp [intOf]; omega
  have SN3 := SN.of S3 (by omega) (by have := ok_fours (unhide HOK); intro b hb; have := this b hb; omega)
  have b0 := cB3.cell 0 _ rfl
  go_upto_region 14 with fail
  have e0 := cB3.cell 0 _ rfl
  have e1 := cB3.cell 1 _ rfl
  have d0 := cR3.cell 0 _ rfl
  have d1 := cR3.cell 1 _ rfl
  have f0 := cR3.frozen 0 (by simp)
  have f1 := cR3.frozen 1 (by simp)
  have pt1 := cR3.put [.slice (some ⟨g, 0, none⟩) 4 c, .slice (some ⟨d, 0, none⟩) 6 6] rfl
  have kz := kept_cells w3 RB 0 [.slice (some ⟨g, 0, none⟩) 4 c, .slice (some ⟨d, 0, none⟩) 6 6]
  have DONE := HDN g 0 c B d 0 6 D (p1 + 1) _ _ rfl (SN3.kept kz (fun x hx => by simp at hx; omega)) (fun _ => hc4) (by omega) (by omega) (rd_set d3 kz (by omega) (by omega) (by omega)) (k3.then kz (fun y hy => by simp at hy; subst hy; right; omega))
  rw [hB4, h6] at DONE
  go_wp2
  refine bodyPost_ret (res_cell_mid Try.results91 _ _ RB [.slice (some ⟨g, 0, none⟩) 4 c, .slice (some ⟨d, 0, none⟩) 6 6] _ rfl pt1.cells Try.underlying54 rfl (by kernel_rfl)) rfl ?_
  exact DONE
end Go.Proofs.Ytkikeapfjpnkgaa.StN

/-
  Stores that are drawn: alone; with an address.
-/
namespace Go.Proofs.Ytkikeapfjpnkgaa.DrS
open Go.ChangeShapes Go.WideShapes Go.ChangeAt Go.RowKit Go.Shelf Big Fl ImplF ImplL Kp StA RmA DoA AlA DpA NwA Pick Draw EvA ImplB ImplS ImplU SpecC SpecD SpecW ImplW PyA FlB ClA DrB StB StG StN
set_option linter.unusedVariables false
set_option linter.unusedSimpArgs false
attribute [local go_sem ↓] Go.wp_at_zero Go.wp_at_succ

def DsPost (w : World) (e : Ending) (w' : World) : Prop := ∃ g o c bs d z dc dk, e = .returned (.agg #[.slice (some ⟨g, o, none⟩) bs.length c, .slice (some ⟨d, z, none⟩) dk.length dc]) ∧ SN w.heap.size w' g o bs d z dk ∧ (okB bs = true → 4 ≤ c) ∧ Below w.heap.size w w'
def DaPost (w : World) (e : Ending) (w' : World) : Prop := ∃ g o c bs d z dc dk k, e = .returned (.tuple #[.agg #[.slice (some ⟨g, o, none⟩) bs.length c, .slice (some ⟨d, z, none⟩) dk.length dc], .int .i64 k]) ∧ SN w.heap.size w' g o bs d z dk ∧ (okB bs = true → 4 ≤ c) ∧ 1 ≤ k ∧ k ≤ 12 ∧ Below w.heap.size w w'

theorem here : True := trivial
end Go.Proofs.Ytkikeapfjpnkgaa.DrS

/-
  The program and the specification of a store, as the laws ask them; a store in a box.
-/
namespace Go.Proofs.Ytkikeapfjpnkgaa.Sv
open Go.ChangeShapes Go.WideShapes Go.ChangeAt Go.RowKit Go.Shelf OkA Big Fl ImplB ImplF ImplS ImplT ImplU SpecA SpecB SpecC SpecD SpecW SpecF SpecG SpecH FindP ImplL FindN FindL Pl Kp StA StB StC StD StE StF StG SpS SpT
set_option linter.unusedVariables false
set_option linter.unusedSimpArgs false

/-- Two values in a block. -/
structure Bx (w : World) (s : Nat) (x y : Value) : Prop where
  c0 : w.cell? ⟨s, 0, none⟩ = some x
  c1 : w.cell? ⟨s, 1, none⟩ = some y
  lt : s < w.heap.size
theorem Bx.new (w : World) (x y : Value) (T : TypeId) : Bx (w.alloc (.cells #[x, y] T)) w.heap.size x y := by
  have c := CsAt.new w [x, y] T
  exact ⟨c.cell 0 _ rfl, c.cell 1 _ rfl, by simp⟩
theorem Bx.below {w w' : World} {s : Nat} {x y : Value} (h : Bx w s x y) (b : Below w.heap.size w w') : Bx w' s x y :=
  ⟨(b.cell (p := ⟨s, 0, none⟩) h.lt).trans h.c0, (b.cell (p := ⟨s, 1, none⟩) h.lt).trans h.c1, Nat.lt_of_lt_of_le h.lt b.size⟩
theorem _root_.Go.Proofs.Ytkikeapfjpnkgaa.StB.DkAt.lies {w : World} {a : Option Addr} {dk : List Int} (h : DkAt w a dk) (hp : 0 < dk.length) : ∃ b o, a = some ⟨b, o, none⟩ ∧ ∀ j, j < dk.length → w.cell? ⟨b, o + j, none⟩ = some (.int .i64 (dk.getD j 0)) := by
  rcases h with rfl | ⟨b, o, rfl, h⟩
  · simp at hp
  · exact ⟨b, o, rfl, fun j hj => isC_at h j hj⟩

variable {fa da : Option Addr} {fc dc : Nat} {bs : List Bk} {dk : List Int}
theorem sOk (w : World) (h : SAt w fa bs da dk) (h4 : bs.length ≤ 4) (h6 : dk.length ≤ 6) (hp : ∀ b ∈ bs, b.ps.length ≤ 4) :
    Calls Try.prog 72 #[.agg #[.slice fa bs.length fc, .slice da dk.length dc]] w fun e w' => e = .returned (.bool (stB bs dk)) ∧ Below w.heap.size w w' :=
  specOk_st fa fc bs da dc dk w h (by omega) (fun b hb => by have := hp b hb; omega) (by omega)
/-- What is read of a store that is ok. -/
theorem rd_ok {k : Int} (h : stB bs dk = true) (h1 : 1 ≤ k) (h6 : k ≤ 6) : rdS bs dk k = if flO bs k then (flR bs k).v else dk.getD (k - 1).toNat 0 := by
  have hin : inB k 1 6 = true := by simp [inB]; omega
  have hok := (st_parts h).1
  unfold rdS flO flR readI
  rw [h, hin, hok]
  simp
theorem al_len (h : stB bs dk = true) : (alS bs dk).length = 6 := by unfold alS; rw [if_pos h]; exact alK_len _ _ _
theorem al_at (h : stB bs dk = true) (j : Nat) (hj : j < 6) : (alS bs dk).getD j 0 = rdS bs dk ((j : Int) + 1) := by
  have hin : inB ((j : Int) + 1) 1 6 = true := by simp [inB]; omega
  unfold alS rdS alK
  rw [if_pos h, h, hin, List.getD_eq_getElem?_getD, List.getElem?_map, List.getElem?_range hj]
  simp
theorem al_not (h : stB bs dk = false) : alS bs dk = [] := by unfold alS; rw [h]; rfl
theorem iLast (k : Int) (r : Rc) (o : Bool) (hr : flR bs k = r) (ho : flO bs k = o) (w : World) (hf : FsAt w fa bs) (h4 : bs.length ≤ 4) :
    Calls Try.prog 27 #[.slice fa bs.length fc, .int .i64 k] w fun e w' => e = .returned (.tuple #[.agg #[.int .i64 r.k, .int .i64 r.s, .int .i64 r.a, .int .i64 r.v], .bool o]) ∧ Below w.heap.size w w' := by
  subst hr ho
  exact implLast_any fa fc k bs w hf (by omega)
theorem here : True := trivial
end Go.Proofs.Ytkikeapfjpnkgaa.Sv
