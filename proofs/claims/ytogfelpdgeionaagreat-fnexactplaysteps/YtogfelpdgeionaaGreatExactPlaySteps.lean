/-
  At every store and event the program's PlaySteps answers as the specification's, leaves its argument as it was, and its answer owns its memory: the given statement, with no condition.
-/
import Derived.Test.YtogfelpdgeionaaGreatGbI
import Derived.Test.YtogfelpdgeionaaGreatGbE
import Derived.Test.YtogfelpdgeionaaGreatPaB
import Derived.Test.YtogfelpdgeionaaGreatPaC
import Derived.Test.YtogfelpdgeionaaGreatEvL
import Derived.Test.YtogfelpdgeionaaGreatOrdL
import Derived.Test.YtogfelpdgeionaaGreatDoA
import Derived.Test.YtogfelpdgeionaaGreatLv
import Derived.Test.YtogfelpdgeionaaGreatFacts
namespace Go.Proofs.YtogfelpdgeionaaGreat.ExactPlaySteps
open Go.ChangeShapes Go.WideShapes Go.ChangeAt Go.RowKit Go.Shelf Go.Joins OkA Big Fl ImplB ImplF ImplS _root_.Go.Proofs.YtogfelpdgeionaaGreat.Own ImplT ImplU SpecA SpecB SpecC SpecD SpecW Ok2 Pl ImplL Kp StA StB StD StF StG SpS SpT LawsA LawsB LawsE LawV LawI LawS LawT OpenF RmA WrA FlA SpU TwC LawU LawX PaA PaB PaC EvL DoA
open Facts (own laidOut)
set_option linter.unusedVariables false
attribute [local go_sem ↓] Go.wp_at_zero Go.wp_at_succ

set_option maxRecDepth 100000 in
set_option maxHeartbeats 4000000 in
theorem walk (fa0 : Option Addr) (fc0 : Nat) (zb : List Bk) (da0 : Option Addr) (dc0 : Nat) (dk0 : List Int) (x : Ev) (hx : EvOk x) (w : World) (h0 : SAt w fa0 zb da0 dk0) (fit : FitS zb dk0) :
    Calls Tryz.prog 16 #[.agg #[.slice fa0 zb.length fc0, .slice da0 dk0.length dc0], .agg #[.int .i64 x.k, .int .i64 x.a, .int .i64 x.b, .int .i64 x.c, .bool x.t]] w fun e w' => e = .returned (.bool true) ∧ Below w.heap.size w w' := by
  have B0 : Below w.heap.size w ((w.alloc (.cells #[.slice fa0 zb.length fc0, .slice da0 dk0.length dc0] 56)).alloc (.cells #[.int .i64 x.k, .int .i64 x.a, .int .i64 x.b, .int .i64 x.c, .bool x.t] 58)) := ((Below.refl _ _).alloc (Nat.le_refl _) _).alloc (by simp) _
  have cA := (CsAt.new w [.slice fa0 zb.length fc0, .slice da0 dk0.length dc0] 56).alloc (by simp) (.cells #[.int .i64 x.k, .int .i64 x.a, .int .i64 x.b, .int .i64 x.c, .bool x.t] 58)
  have cE := CsAt.new (w.alloc (.cells #[.slice fa0 zb.length fc0, .slice da0 dk0.length dc0] 56)) [.int .i64 x.k, .int .i64 x.a, .int .i64 x.b, .int .i64 x.c, .bool x.t] 58
  rw [World.size_alloc] at cE
  have s0 : w.heap.size + 1 < ((w.alloc (.cells #[.slice fa0 zb.length fc0, .slice da0 dk0.length dc0] 56)).alloc (.cells #[.int .i64 x.k, .int .i64 x.a, .int .i64 x.b, .int .i64 x.c, .bool x.t] 58)).heap.size := by simp
  have HSW := hide (show (Tryz.prog.info? 56).map (·.size) = some 2 by kernel_rfl)
  have HSE := hide (show (Tryz.prog.info? 58).map (·.size) = some 5 by kernel_rfl)
  have HSI := hide (show (Tryz.prog.info? 26).map (·.size) = some 2 by kernel_rfl)
  have HW := hide h0
  have HS := hide (szStore_any fa0 fc0 zb da0 dc0 dk0 _ (h0.below B0) fit)
  have x0 := cA.cell 0 _ rfl
  have x1 := cA.cell 1 _ rfl
  clear h0
  go_enter Tryz.func16, Tryz.ntmps16
  go_wp2_with fail
  generalize (w.alloc (.cells #[.slice fa0 zb.length fc0, .slice da0 dk0.length dc0] 56)).alloc (.cells #[.int .i64 x.k, .int .i64 x.a, .int .i64 x.b, .int .i64 x.c, .bool x.t] 58) = w0 at *
  refine (unhide HS).mono ?_
  rintro e w1 ⟨r, rfl, r0, r1, hr, b1⟩
  have cA1 := cA.below b1 (by omega)
  have cE1 := cE.below b1 s0
  have B1 := B0.trans (b1.mono B0.size)
  have s1 := Nat.lt_of_lt_of_le s0 b1.size
  clear x0 x1 cA cE B0 b1 s0 HS
  by_cases hneg : r < 0
  · clear hr
    go_wp2
    go_ret
    exact ⟨rfl, B1⟩
  obtain ⟨hl, hp, hd⟩ := hr (by omega)
  have HP := hide hp
  clear hr hp
  go_wp2
  refine wp_region_noPanic ?_
  refine wp_region_held_drew (S := fun w' => Kept [] w1 w') (by kernel_rfl) (Kept.refl _ _).drew (fun hHeld => ?_)
  generalize w1.drew = y0 at *
  have z0 := hHeld.size
  refine takeL 0 (.agg #[.slice fa0 zb.length fc0, .slice da0 dk0.length dc0]) rfl (by kernel_rfl) (by kernel_rfl) (by kernel_rfl) (fun _ _ _ h => h) (yieldsIf_load_mid rfl 56 _ rfl (w.heap.size) 0 rfl [.slice fa0 zb.length fc0, .slice da0 dk0.length dc0] _ (fun _ h => (CsAt.below cA1 (Kept.all h (by simp)) (CsAt.lt cA1 (by simp))).cells) Tryz.underlying56 rfl (unhide HSW)) hHeld ?_
  try simp only [Act.put, List.setIfInBounds_toArray, List.set_cons_zero, List.set_cons_succ]
  refine takeL 2 (.agg #[.int .i64 x.k, .int .i64 x.a, .int .i64 x.b, .int .i64 x.c, .bool x.t]) rfl (by kernel_rfl) (by kernel_rfl) (by kernel_rfl) (fun _ _ _ h => h) (yieldsIf_load_mid rfl 58 _ rfl (w.heap.size + 1) 0 rfl [.int .i64 x.k, .int .i64 x.a, .int .i64 x.b, .int .i64 x.c, .bool x.t] _ (fun _ h => (CsAt.below cE1 (Kept.all h (by simp)) (CsAt.lt cE1 (by simp))).cells) Tryz.underlying58 rfl (unhide HSE)) hHeld ?_
  try simp only [Act.put, List.setIfInBounds_toArray, List.set_cons_zero, List.set_cons_succ]
  refine oneL 1 rfl (by kernel_rfl) rfl (fun K hK => ?_)
  go_simp
  refine (toStore_any fa0 fc0 zb da0 dc0 dk0 _ ((unhide HW).below (B1.trans ((Kept.all hHeld (by simp)).mono B1.size))) hl (unhide HP) hd).mono ?_
  rintro e y1 ⟨g, G, d, rfl, o2, b⟩
  go_wp2_with fail
  refine hK.out _ _ (hHeld.trans (Kept.of b)) (fun hHeld => ?_)
  clear hK K
  try simp only [Act.put, List.setIfInBounds_toArray, List.set_cons_zero, List.set_cons_succ]
  have z1 := b.size
  clear b
  refine oneL 3 rfl (by kernel_rfl) rfl (fun K hK => ?_)
  go_simp
  refine (toEvent_any _ _ _ _ _ _).mono ?_
  rintro e y2 ⟨rfl, b⟩
  go_wp2_with fail
  replace o2 := o2.below b (Nat.le_refl _)
  refine hK.out _ _ (hHeld.trans (Kept.of b)) (fun hHeld => ?_)
  clear hK K
  try simp only [Act.put, List.setIfInBounds_toArray, List.set_cons_zero, List.set_cons_succ]
  have z2 := b.size
  clear b
  refine oneL 4 rfl (by kernel_rfl) rfl (fun K hK => ?_)
  go_simp
  refine (specPlaySteps_any x.k x.a x.b x.c x.t _ _ zb _ _ dk0 _ o2.sat hl (unhide HP) hd).mono ?_
  rintro e y3 ⟨v1, rfl, n3, b⟩
  go_wp2_with fail
  replace o2 := o2.below b (Nat.le_refl _)
  refine hK.out _ _ (hHeld.trans (Kept.of b)) (fun hHeld => ?_)
  clear hK K
  try simp only [Act.put, List.setIfInBounds_toArray, List.set_cons_zero, List.set_cons_succ]
  have z3 := b.size
  clear b
  refine takeL 5 (v1) rfl (by kernel_rfl) (by kernel_rfl) (by kernel_rfl) (fun _ _ _ h => h) (Or.inl ⟨rfl, fun _ _ => rfl⟩) hHeld ?_
  try simp only [Act.put, List.setIfInBounds_toArray, List.set_cons_zero, List.set_cons_succ]
  refine wpAnyH_done (by kernel_rfl) ?_ _
  refine NoPanic.normal ?_
  have I1 := InS.of n3
  have q23 := z3
  have q12 := Nat.le_trans z1 (Nat.le_trans z2 z3)
  have b13 : Below w1.heap.size w1 y3 := Kept.all hHeld (by simp)
  clear hHeld n3 o2
  generalize y3 = w3 at *
  generalize y2 = w2 at *
  have cA3 := cA1.below b13 (by omega)
  have cE3 := cE1.below b13 s1
  have B3 := B1.trans (b13.mono B1.size)
  have s3 := Nat.lt_of_lt_of_le s1 b13.size
  clear cA1 cE1 B1 s1 b13
  have HIM := hide (fun (a : Option Addr) (c : Nat) (b : Option Addr) (e : Nat) (w' : World) (h : SAt w' a zb b dk0) => implPlaySteps_any x hx.1.1 hx.1.2 a c zb b e dk0 w' h (by omega) (by omega))
  have hR6 := ev_len zb dk0 x
  generalize evS zb dk0 x = R at *
  have x0 := cA3.cell 0 _ rfl
  have x1 := cA3.cell 1 _ rfl
  go_wp2_with fail
  refine (toStore_any fa0 fc0 zb da0 dc0 dk0 _ ((unhide HW).below B3) hl (unhide HP) hd).mono ?_
  rintro e w4 ⟨g4, G4, d4, rfl, o4, b4⟩
  have cA4 := cA3.below b4 (by omega)
  have cE4 := cE3.below b4 s3
  have B4 := B3.trans (b4.mono B3.size)
  have s4 := Nat.lt_of_lt_of_le s3 b4.size
  have q34 := b4.size
  have bX : Below w4.heap.size w4 (w4.alloc (.cells #[.slice (some ⟨g4, 0, none⟩) zb.length zb.length, .slice (some ⟨d4, 0, none⟩) dk0.length dk0.length] 26)) := (Below.refl _ _).alloc (Nat.le_refl _) _
  have cX := store_box w4 (.slice (some ⟨g4, 0, none⟩) zb.length zb.length) (.slice (some ⟨d4, 0, none⟩) dk0.length dk0.length)
  have o5 := o4.below bX (Nat.le_refl _)
  have cA5 := cA4.below bX (by omega)
  have cE5 := cE4.below bX s4
  have B5 := B4.trans (bX.mono B4.size)
  have s5 : (w4.alloc (.cells #[.slice (some ⟨g4, 0, none⟩) zb.length zb.length, .slice (some ⟨d4, 0, none⟩) dk0.length dk0.length] 26)).heap.size = w4.heap.size + 1 := by simp
  have hi4 : ∀ x ∈ d4 :: g4 :: G4, w3.heap.size ≤ x ∧ x < w4.heap.size := fun x hx => by
    rcases List.mem_cons.1 hx with rfl | hx
    · exact ⟨o4.dlo, o4.dhi⟩
    · exact ⟨o4.own.lo x hx, o4.own.hi x hx⟩
  have I1 := (I1.below b4 (Nat.le_refl _)).below bX q34
  clear x0 x1 cA3 cA4 cE3 cE4 B3 B4 o4 b4 bX
  go_upto_region 7 with fail
  generalize w4.alloc (.cells #[.slice (some ⟨g4, 0, none⟩) zb.length zb.length, .slice (some ⟨d4, 0, none⟩) dk0.length dk0.length] 26) = w5 at *
  generalize w4.heap.size = X at *
  generalize hL1 : w2.heap.size = l1 at *
  generalize hH1 : w3.heap.size = h1 at *
  clear hL1 hH1
  refine wp_region_noPanic ?_
  refine wp_region_held_drew (S := fun w' => Kept [] w5 w') (by kernel_rfl) (Kept.refl _ _).drew (fun hHeld => ?_)
  generalize w5.drew = y0 at *
  have z0 := hHeld.size
  refine takeL 0 (.agg #[.slice (some ⟨g4, 0, none⟩) zb.length zb.length, .slice (some ⟨d4, 0, none⟩) dk0.length dk0.length]) rfl (by kernel_rfl) (by kernel_rfl) (by kernel_rfl) (fun _ _ _ h => h) (yieldsIf_load_mid rfl 26 _ rfl (X) 0 rfl [.slice (some ⟨g4, 0, none⟩) zb.length zb.length, .slice (some ⟨d4, 0, none⟩) dk0.length dk0.length] _ (fun _ h => (CsAt.below cX (Kept.all h (by simp)) (CsAt.lt cX (by simp))).cells) Tryz.underlying26 rfl (unhide HSI)) hHeld ?_
  try simp only [Act.put, List.setIfInBounds_toArray, List.set_cons_zero, List.set_cons_succ]
  refine takeL 1 (.agg #[.int .i64 x.k, .int .i64 x.a, .int .i64 x.b, .int .i64 x.c, .bool x.t]) rfl (by kernel_rfl) (by kernel_rfl) (by kernel_rfl) (fun _ _ _ h => h) (yieldsIf_load_mid rfl 58 _ rfl (w.heap.size + 1) 0 rfl [.int .i64 x.k, .int .i64 x.a, .int .i64 x.b, .int .i64 x.c, .bool x.t] _ (fun _ h => (CsAt.below cE5 (Kept.all h (by simp)) (CsAt.lt cE5 (by simp))).cells) Tryz.underlying58 rfl (unhide HSE)) hHeld ?_
  try simp only [Act.put, List.setIfInBounds_toArray, List.set_cons_zero, List.set_cons_succ]
  refine oneL 2 rfl (by kernel_rfl) rfl (fun K hK => ?_)
  go_simp
  refine (toEvent_any _ _ _ _ _ _).mono ?_
  rintro e y1 ⟨rfl, b⟩
  go_wp2_with fail
  refine hK.out _ _ (hHeld.trans (Kept.of b)) (fun hHeld => ?_)
  clear hK K
  try simp only [Act.put, List.setIfInBounds_toArray, List.set_cons_zero, List.set_cons_succ]
  have z1 := b.size
  clear b
  refine oneL 3 rfl (by kernel_rfl) rfl (fun K hK => ?_)
  go_simp
  refine (unhide HIM _ _ _ _ _ (o5.below (Kept.all hHeld (by simp)) (Nat.le_refl _)).sat).mono ?_
  rintro e y2 ⟨v2, rfl, n6, b⟩
  go_wp2_with fail
  refine hK.out _ _ (hHeld.trans (Kept.of b)) (fun hHeld => ?_)
  clear hK K
  try simp only [Act.put, List.setIfInBounds_toArray, List.set_cons_zero, List.set_cons_succ]
  have z2 := b.size
  clear b
  refine takeL 4 (v2) rfl (by kernel_rfl) (by kernel_rfl) (by kernel_rfl) (fun _ _ _ h => h) (Or.inl ⟨rfl, fun _ _ => rfl⟩) hHeld ?_
  try simp only [Act.put, List.setIfInBounds_toArray, List.set_cons_zero, List.set_cons_succ]
  refine wpAnyH_done (by kernel_rfl) ?_ _
  refine NoPanic.normal ?_
  have I2 := InS.of (n6.mono (show w5.heap.size ≤ y1.heap.size by omega))
  have ba : Below w5.heap.size w5 y2 := Kept.all hHeld (by simp)
  clear hHeld n6
  generalize y2 = wa at *
  have qa := ba.size
  have cEa := cE5.below ba (by omega)
  have cXa := cX.below ba (by omega)
  have cAa := cA5.below ba (by omega)
  have oa := o5.below ba (Nat.le_refl _)
  have Ba := B5.trans (ba.mono B5.size)
  have I1a := I1.below ba (by omega)
  clear cX cA5 cE5 o5 B5 ba I1
  generalize hH2 : wa.heap.size = h2 at *
  go_wp2_with fail
  refine (eqSt (by omega) I2 I1a).mono ?_
  rintro e w6 ⟨rfl, b6⟩
  have q6 := b6.size
  have cX6 := cXa.below b6 (by omega)
  have cE6 := cEa.below b6 (by omega)
  have cA6 := cAa.below b6 (by omega)
  have o6 := oa.below b6 (Nat.le_refl _)
  have B6 := Ba.trans (b6.mono Ba.size)
  have I1b := I1a.below b6 (by omega)
  have I2b := I2.below b6 (by omega)
  clear cXa cAa cEa oa Ba b6 I1a I2
  go_wp2
  refine wp_region_noPanic ?_
  refine wp_region_held_drew (S := fun w' => Below w6.heap.size w6 w') (by kernel_rfl) ((Below.refl _ _).drew) (fun hHeld => ?_)
  refine takeL 0 (.agg #[.slice (some ⟨g4, 0, none⟩) zb.length zb.length, .slice (some ⟨d4, 0, none⟩) dk0.length dk0.length]) rfl (by kernel_rfl) (by kernel_rfl) (by kernel_rfl) (fun _ _ _ h => h) (Or.inl ⟨rfl, fun w9 hSw => by have hx0 := (cX6.below hSw (by omega)).cell 0 _ rfl; have hx1 := (cX6.below hSw (by omega)).cell 1 _ rfl; go_simp⟩) hHeld ?_
  try simp only [Act.put, List.setIfInBounds_toArray, List.set_cons_zero, List.set_cons_succ]
  refine takeL 1 (.agg #[.slice fa0 zb.length fc0, .slice da0 dk0.length dc0]) rfl (by kernel_rfl) (by kernel_rfl) (by kernel_rfl) (fun _ _ _ h => h) (Or.inl ⟨rfl, fun w9 hSw => by have hx0 := (cA6.below hSw (by omega)).cell 0 _ rfl; have hx1 := (cA6.below hSw (by omega)).cell 1 _ rfl; go_simp⟩) hHeld ?_
  try simp only [Act.put, List.setIfInBounds_toArray, List.set_cons_zero, List.set_cons_succ]
  refine oneL 2 rfl (by kernel_rfl) rfl (fun K hK => ?_)
  go_simp
  refine (toStore_any fa0 fc0 zb da0 dc0 dk0 _ ((unhide HW).below B6.drew) hl (unhide HP) hd).mono ?_
  rintro e w7 ⟨g7, G7, d7, rfl, o7, b7⟩
  go_wp2_with fail
  have b67 : Below w6.heap.size w6 w7 := hHeld.trans b7
  refine hK.out _ _ b67 (fun hHeld => ?_)
  clear hK K
  try simp only [Act.put, List.setIfInBounds_toArray, List.set_cons_zero, List.set_cons_succ]
  refine oneL 3 rfl (by kernel_rfl) rfl (fun K hK => ?_)
  go_simp
  refine (eqStore_any _ _ _ _ _ _ _ _ zb dk0 _ (o6.below b67 (Nat.le_refl _)).sat o7.sat hl (unhide HP) hd).mono ?_
  rintro e w8 ⟨rfl, b8⟩
  go_wp2_with fail
  have b68 : Below w6.heap.size w6 w8 := b67.trans (b8.mono b67.size)
  refine hK.out _ _ b68 (fun hHeld => ?_)
  clear hK K
  try simp only [Act.put, List.setIfInBounds_toArray, List.set_cons_zero, List.set_cons_succ]
  refine takeL 4 (.bool false) rfl (by kernel_rfl) (by kernel_rfl) (by kernel_rfl) (fun _ _ _ h => h) (Or.inl ⟨rfl, fun w9 hSw => by go_simp⟩) hHeld ?_
  try simp only [Act.put, List.setIfInBounds_toArray, List.set_cons_zero, List.set_cons_succ]
  refine wpAnyH_done (by kernel_rfl) ?_ _
  refine NoPanic.normal ?_
  have q8 := b68.size
  have cX8 := cX6.below b68 (by omega)
  have cE8 := cE6.below b68 (by omega)
  have cA8 := cA6.below b68 (by omega)
  have o8 := o6.below b68 (Nat.le_refl _)
  have B8 := B6.trans (b68.mono B6.size)
  have I1c := I1b.below b68 (by omega)
  have I2c := I2b.below b68 (by omega)
  clear hHeld b67 b68 b7 b8 o6 o7 cX6 cA6 cE6 B6 I1b I2b
  have x0 := cX8.cell 0 _ rfl
  have x1 := cX8.cell 1 _ rfl
  go_wp2_with fail
  refine (markS_any h1 g4 d4 _ _ G4 zb dk0 w8 (by omega) o8 hl (unhide HP) hd).mono ?_
  rintro e w9 ⟨m, rfl, hm0, y9, b9⟩
  have q9 := y9.size
  have cA9 := cA8.below b9 (by omega)
  have cE9 := cE8.below b9 (by omega)
  have B9 := B8.trans (b9.mono (by omega))
  have I1d := I1c.only y9 (by omega) (fun x hx => .inr (hi4 x hx).1)
  have I2d := I2c.only y9 (by omega) (fun x hx => .inl (by have := (hi4 x hx).2; omega))
  have hmn : ¬ m < 0 := by omega
  clear x0 x1 cX8 cA8 cE8 o8 B8 b9 y9 I1c I2c
  go_wp2_with fail
  refine (eqSt (by omega) I2d I1d).mono ?_
  rintro e wb ⟨rfl, bb⟩
  have qb := bb.size
  have cAb := cA9.below bb (by omega)
  have cEb := cE9.below bb (by omega)
  have Bb := B9.trans (bb.mono B9.size)
  have I1e := I1d.below bb (by omega)
  have I2e := I2d.below bb (by omega)
  clear cA9 cE9 B9 bb I1d I2d
  go_wp2_with fail
  refine (markSt (by omega) (by omega) I2e).mono ?_
  rintro e wc ⟨rfl, I2f, M, yc, bc, hM⟩
  have qc := yc.size
  have cAc := cAb.below bc (by omega)
  have cEc := cEb.below bc (by omega)
  have Bc := Bb.trans (bc.mono (by omega))
  have I1f := I1e.only yc (by omega) (fun x hx => .inr (by have := (hM x hx).1; omega))
  clear cAb cEb Bb bc yc hM I1e I2e
  generalize hn : R.length = n at *
  have hnn : ¬ (1 : Int) + 8 * (n : Nat) < 0 := by omega
  have hne : (((1 : Int) + 8 * (n : Nat)) != (1 + 8 * (n : Nat))) = false := by simp
  have HE := hide (heldSt (by omega) I2f)
  go_wp2_with (go_at_call 59; refine (unhide HE).mono ?_; rintro e w' ⟨rfl, hw'⟩; obtain rfl := hw'.symm)
  refine wp_region_noPanic ?_
  refine wp_region_held_drew (S := fun w' => Kept [] wc w') (by kernel_rfl) (Kept.refl _ _).drew (fun hHeld => ?_)
  generalize wc.drew = y0 at *
  have z0 := hHeld.size
  refine takeL 0 (.agg #[.slice fa0 zb.length fc0, .slice da0 dk0.length dc0]) rfl (by kernel_rfl) (by kernel_rfl) (by kernel_rfl) (fun _ _ _ h => h) (yieldsIf_load_mid rfl 56 _ rfl (w.heap.size) 0 rfl [.slice fa0 zb.length fc0, .slice da0 dk0.length dc0] _ (fun _ h => (CsAt.below cAc (Kept.all h (by simp)) (CsAt.lt cAc (by simp))).cells) Tryz.underlying56 rfl (unhide HSW)) hHeld ?_
  try simp only [Act.put, List.setIfInBounds_toArray, List.set_cons_zero, List.set_cons_succ]
  refine takeL 2 (.agg #[.int .i64 x.k, .int .i64 x.a, .int .i64 x.b, .int .i64 x.c, .bool x.t]) rfl (by kernel_rfl) (by kernel_rfl) (by kernel_rfl) (fun _ _ _ h => h) (yieldsIf_load_mid rfl 58 _ rfl (w.heap.size + 1) 0 rfl [.int .i64 x.k, .int .i64 x.a, .int .i64 x.b, .int .i64 x.c, .bool x.t] _ (fun _ h => (CsAt.below cEc (Kept.all h (by simp)) (CsAt.lt cEc (by simp))).cells) Tryz.underlying58 rfl (unhide HSE)) hHeld ?_
  try simp only [Act.put, List.setIfInBounds_toArray, List.set_cons_zero, List.set_cons_succ]
  refine oneL 1 rfl (by kernel_rfl) rfl (fun K hK => ?_)
  go_simp
  refine (toStore_any fa0 fc0 zb da0 dc0 dk0 _ ((unhide HW).below (Bc.trans ((Kept.all hHeld (by simp)).mono Bc.size))) hl (unhide HP) hd).mono ?_
  rintro e y1 ⟨g, G, d, rfl, o2, b⟩
  go_wp2_with fail
  refine hK.out _ _ (hHeld.trans (Kept.of b)) (fun hHeld => ?_)
  clear hK K
  try simp only [Act.put, List.setIfInBounds_toArray, List.set_cons_zero, List.set_cons_succ]
  have z1 := b.size
  clear b
  refine oneL 3 rfl (by kernel_rfl) rfl (fun K hK => ?_)
  go_simp
  refine (toEvent_any _ _ _ _ _ _).mono ?_
  rintro e y2 ⟨rfl, b⟩
  go_wp2_with fail
  replace o2 := o2.below b (Nat.le_refl _)
  refine hK.out _ _ (hHeld.trans (Kept.of b)) (fun hHeld => ?_)
  clear hK K
  try simp only [Act.put, List.setIfInBounds_toArray, List.set_cons_zero, List.set_cons_succ]
  have z2 := b.size
  clear b
  refine oneL 4 rfl (by kernel_rfl) rfl (fun K hK => ?_)
  go_simp
  refine (unhide HIM _ _ _ _ _ o2.sat).mono ?_
  rintro e y3 ⟨v3, rfl, n9, b⟩
  go_wp2_with fail
  replace o2 := o2.below b (Nat.le_refl _)
  refine hK.out _ _ (hHeld.trans (Kept.of b)) (fun hHeld => ?_)
  clear hK K
  try simp only [Act.put, List.setIfInBounds_toArray, List.set_cons_zero, List.set_cons_succ]
  have z3 := b.size
  clear b
  refine takeL 5 (v3) rfl (by kernel_rfl) (by kernel_rfl) (by kernel_rfl) (fun _ _ _ h => h) (Or.inl ⟨rfl, fun _ _ => rfl⟩) hHeld ?_
  try simp only [Act.put, List.setIfInBounds_toArray, List.set_cons_zero, List.set_cons_succ]
  refine wpAnyH_done (by kernel_rfl) ?_ _
  refine NoPanic.normal ?_
  have I3 := InS.of n9
  have bce : Below wc.heap.size wc y3 := Kept.all hHeld (by simp)
  clear hHeld o2 n9
  generalize y3 = we at *
  have qe := bce.size
  have Be := Bc.trans (bce.mono Bc.size)
  have I1g := I1f.below bce (by omega)
  have I2g := I2f.below bce (by omega)
  clear Bc I1f I2f HE
  go_wp2_with fail
  refine (eqSt (by omega) I3 I1g).mono ?_
  rintro e wf ⟨rfl, bf⟩
  have qf := bf.size
  have Bf := Be.trans (bf.mono Be.size)
  have I2h := I2g.below bf (by omega)
  clear Be bf I1g I2g I3
  have HE := hide (heldSt (by omega) I2h)
  go_wp2_with (go_at_call 59; refine (unhide HE).mono ?_; rintro e w' ⟨rfl, hw'⟩; obtain rfl := hw'.symm)
  go_ret
  exact ⟨rfl, Bf⟩


set_option maxRecDepth 100000 in
theorem lifted (os : Os) (started : os.Started) (H : Type) (enc : TypeId × Value → H) :
    ReturnsInHanded {} Tryz.checked os 16 .any (Rows.fnExactPlayStepsSpec.pre6 enc Tryz.prog Tryz.f16 Rows.fnExactPlayStepsRow.domain false) (Rows.fnExactPlayStepsSpec.post enc Tryz.prog Tryz.f16 false true false false) := by
  refine returnsInHanded_of_change (C := Tryz.checked) own started (by kernel_rfl) Tryz.func16
    (ChangeSpec.witness6 (enc := enc) (C := Tryz.checked) false ⟨#[], #[.agg #[.slice none 0 0, .slice none 0 0], .agg #[.int .i64 0, .int .i64 0, .int .i64 0, .int .i64 0, .bool false]], []⟩ 8 (by kernel_rfl) (by kernel_rfl) (by kernel_rfl) (by kernel_rfl)) ?_
  intro W base args ds gs before hval0 hW hcnd _
  have hval : ∀ (j : Nat) t v, Tryz.f16.params[j]? = some t → args[j]? = some v → Value.okWide Tryz.prog W .any base t v := hval0
  have hW' := hW
  obtain ⟨p, q, hA0, hV, rfl, hfz, hnd⟩ := hW
  have hA : DataW.TrodAll enc Tryz.prog W 0 (fun _ => true) true Tryz.f16.params.toList args.toList ds p := hA0
  rw [Tryz.params16] at hA hval
  obtain ⟨v0, vs0, d0, ds0, p0, q0, hargs, rfl, rfl, h0, r0⟩ := trodAll_cons hA
  obtain ⟨v1, vs1, d1, ds1, p1, q1, rfl, rfl, rfl, h1, r1⟩ := trodAll_cons r0
  obtain ⟨rfl, rfl, rfl⟩ := trodAll_nil r1
  obtain rfl : args = #[v0, v1] := by cases args; simp_all
  obtain ⟨rfl, rfl⟩ := trodVars_none hV
  have kk0 := h0
  have lt0 : ∀ x ∈ p0, x.block < W.heap.size := by obtain ⟨m, hm⟩ := kk0; exact DataW.trod_lt m _ _ _ hm
  obtain ⟨fa0, fc0, z0, da0, dc0, dk0, rfl, w0, fit0⟩ : ∃ fa fc z da dc dk, v0 = .agg #[.slice fa (z : List Bk).length fc, .slice da (dk : List Int).length dc] ∧ SAt W fa z da dk ∧ FitS z dk := by
    obtain ⟨c0, c1, y0, y1, n, rfl, _, _, g0, g1⟩ := open_agg2 Tryz.underlying56 (by kernel_rfl) (show Tryz.prog.cellsOf 56 = 2 by kernel_rfl) (hval 0 56 v0 rfl rfl) h0
    obtain ⟨fa, z, fc, e0, hz, fit⟩ := open_flash g0
    obtain ⟨da, dk, dc, e1, hd, hle⟩ := open_intS g1
    subst e0 e1
    exact ⟨fa, fc, z, da, dc, dk, rfl, ⟨hz, hd⟩, fit, by omega⟩
  have kk1 := h1
  have lt1 : ∀ x ∈ p1, x.block < W.heap.size := by obtain ⟨m, hm⟩ := kk1; exact DataW.trod_lt m _ _ _ hm
  obtain ⟨x1, rfl, ok1⟩ : ∃ x : Ev, v1 = .agg #[.int .i64 x.k, .int .i64 x.a, .int .i64 x.b, .int .i64 x.c, .bool x.t] ∧ EvOk x := by
    obtain ⟨cs, rfl, hsz⟩ := okWide_struct Tryz.underlying58 (hval 1 58 v1 rfl rfl)
    obtain ⟨fuel, hf⟩ := h1
    obtain ⟨p, hp, hok⟩ := open_event (cs := cs.toList) (by simpa [Value.cells] using hf)
    refine ⟨p, ?_, hok⟩
    rw [show cs = (evC p).toArray by rw [← hp]]
    rfl
  clear hA0
  refine (walk fa0 fc0 z0 da0 dc0 dk0 x1 ok1 W w0 fit0 ).mono fun e W' ⟨he, bel⟩ => ?_
  subst he
  exact ⟨_, rfl, _, _, _, [], _, [], hW', trodAll_mk1 (shut_bool Tryz.underlying4 _), (trodAll_cons_mk (Below.trod laidOut (by kernel_rfl) (of_decide_eq_true (by kernel_rfl)) kk0 bel lt0) (trodAll_cons_mk (Below.trod laidOut (by kernel_rfl) (of_decide_eq_true (by kernel_rfl)) kk1 bel lt1) trodAll_mk0)), rfl, bel.frame _, fun h => by cases h⟩

set_option maxRecDepth 100000 in
set_option maxHeartbeats 8000000 in
theorem facts : joinedFacts Tryz.prog 16 Tryz.f16 Rows.fnExactPlayStepsSpec Rows.fnExactPlayStepsRow = true := by
  unfold joinedFacts
  refine Facts.and_t ?_ (by as_aux_lemma => kernel_rfl)
  refine Facts.and_t ?_ (by as_aux_lemma => kernel_rfl)
  refine Facts.and_t ?_ (by as_aux_lemma => kernel_rfl)
  refine Facts.and_t ?_ (by as_aux_lemma => kernel_rfl)
  refine Facts.and_t ?_ (by show (Tryz.prog.make == some Make.cut) = true; rw [Facts.made]; rfl)
  refine Facts.and_t ?_ (by show (false == Tryz.prog.liftsFinal) = true; rw [Facts.lifts]; rfl)
  refine Facts.and_t ?_ (Facts.enters)
  refine Facts.and_t ?_ (Facts.heard)
  refine Facts.and_t ?_ (rfl)
  refine Facts.and_t ?_ (by show (true == Tryz.prog.plainKeys) = true; rw [Facts.keys]; rfl)
  refine Facts.and_t ?_ (by as_aux_lemma => kernel_rfl)
  refine Facts.and_t ?_ (by as_aux_lemma => kernel_rfl)
  refine Facts.and_t ?_ (by as_aux_lemma => kernel_rfl)
  refine Facts.and_t ?_ (by as_aux_lemma => kernel_rfl)
  refine Facts.and_t ?_ (by as_aux_lemma => kernel_rfl)
  refine Facts.and_t ?_ (by as_aux_lemma => kernel_rfl)
  refine Facts.and_t ?_ (by as_aux_lemma => kernel_rfl)
  refine Facts.and_t ?_ (by as_aux_lemma => kernel_rfl)
  refine Facts.and_t ?_ (by as_aux_lemma => kernel_rfl)
  refine Facts.and_t ?_ (by as_aux_lemma => kernel_rfl)
  refine Facts.and_t ?_ (by as_aux_lemma => kernel_rfl)
  refine Facts.and_t ?_ (by as_aux_lemma => kernel_rfl)
  refine Facts.and_t ?_ (by as_aux_lemma => kernel_rfl)
  refine Facts.and_t ?_ (by as_aux_lemma => kernel_rfl)
  refine Facts.and_t ?_ (by as_aux_lemma => kernel_rfl)
  refine Facts.and_t ?_ (by as_aux_lemma => kernel_rfl)
  refine Facts.and_t ?_ (by as_aux_lemma => kernel_rfl)
  refine Facts.and_t ?_ (by as_aux_lemma => kernel_rfl)
  refine Facts.and_t ?_ (by as_aux_lemma => kernel_rfl)
  refine Facts.and_t ?_ (Facts.rowed)
  refine Facts.and_t ?_ (Facts.laidOut)
  kernel_rfl

theorem over : Rows.fnExactPlayStepsRow.holds Tryz.pinned (OpenSpec.ofChange Rows.fnExactPlayStepsSpec) :=
  OpenClaim.holds_of_wide_leaving 16 Tryz.f16 rfl rfl rfl rfl rfl rfl rfl ⟨rfl, rfl, rfl, rfl, rfl⟩ rfl rfl rfl rfl rfl (by kernel_rfl) Tryz.func16 facts
    (of_decide_eq_true (by kernel_rfl)) (by unfold Func.isWrapper; first | (rw [if_pos (by decide +kernel)]; kernel_rfl) | (rw [if_neg (by decide +kernel)]; exact ⟨rfl, rfl⟩))
    (fun os started H enc _ => Lv.leave_of (lifted os started H enc))

end Go.Proofs.YtogfelpdgeionaaGreat.ExactPlaySteps
namespace Go.Proofs.YtogfelpdgeionaaGreat
theorem fnExactPlaySteps_holds : Rows.FnExactPlayStepsSaid := ExactPlaySteps.over
end Go.Proofs.YtogfelpdgeionaaGreat
