/-
  At every store, list of steps and number, cut off or torn, the program's StepsTo answers as the specification's, leaves its arguments as they were, and its answer owns its memory: the given statement, with no condition.
-/
import Derived.Test.YtcmklcfedeeahaaGreatQ24

namespace Go.Proofs.YtcmklcfedeeahaaGreat.ExactStepsTo
open Go.ChangeShapes Go.WideShapes Go.ChangeAt Go.RowKit Go.Shelf OkA Big Fl ImplB ImplF ImplS _root_.Go.Proofs.YtcmklcfedeeahaaGreat.Own ImplT ImplU SpecA SpecB SpecC SpecD SpecW SpecF SpecG SpecH Ok2 Pl FindP SpecX SpecY ImplW ImplX ImplL Kp StA MpA StB StC StD StE StF StG Go.Joins FindL Gd LawsA LawsB LawsE OpenF LawU LawS LawV LawI LawT LawW MarkB SpS SpT DoA ToA QuA QuB QuC QuD QuE SpV1 SpV MkN
open Facts (own laidOut)
set_option linter.unusedVariables false
set_option linter.unusedSimpArgs false
attribute [local go_sem ↓] Go.wp_at_zero Go.wp_at_succ

theorem og {w w' : World} {L : List Nat} {b : Nat} {cs : List Value} (h : CsAt w b cs) (ho : OnlyG L w w') (hb : b < w.heap.size) (hn : b ∉ L) : CsAt w' b cs :=
  ⟨fun j u hu => by rw [ho.cell b _ hb hn]; exact h.cells j u hu, fun j hj => by rw [ho.cell b _ hb hn, ho.frozen b _ hb hn]; exact h.free j hj⟩

set_option maxRecDepth 100000 in
set_option maxHeartbeats 4000000 in
theorem walk (fa0 : Option Addr) (fc0 : Nat) (z0 : List Bk) (da0 : Option Addr) (dc0 : Nat) (dk0 : List Int) (sa : Option Addr) (sc : Nat) (L : List Stp) (cut : Int) (hc0 : -9223372036854775808 ≤ cut) (hc1 : cut ≤ 9223372036854775807) (torn : Bool) (w : World) (h0 : SAt w fa0 z0 da0 dk0) (fit : FitS z0 dk0) (hL0 : SsAt w sa L) (hln : L.length ≤ 9223372036854775807) :
    Calls Tryz.prog 3 #[.agg #[.slice fa0 z0.length fc0, .slice da0 dk0.length dc0], .slice sa L.length sc, .int .i64 cut, .bool torn] w fun e w' => e = .returned (.bool true) ∧ Below w.heap.size w w' := by
  have B0 : Below w.heap.size w (w.alloc (.cells #[.slice fa0 z0.length fc0, .slice da0 dk0.length dc0] 25)) := (Below.refl _ _).alloc (Nat.le_refl _) _
  have cA0 := CsAt.new w [.slice fa0 z0.length fc0, .slice da0 dk0.length dc0] 25
  have s0 : w.heap.size < (w.alloc (.cells #[.slice fa0 z0.length fc0, .slice da0 dk0.length dc0] 25)).heap.size := by simp
  have HW := hide h0
  have HWS := hide hL0
  have HS := hide (szStore_any fa0 fc0 z0 da0 dc0 dk0 _ (h0.below B0) fit)
  have x0 := cA0.cell 0 _ rfl
  have x1 := cA0.cell 1 _ rfl
  clear h0 hL0
  go_enter Tryz.func3, Tryz.ntmps3
  go_wp2_with fail
  generalize w.alloc (.cells #[.slice fa0 z0.length fc0, .slice da0 dk0.length dc0] 25) = w0 at *
  refine (unhide HS).mono ?_
  rintro e w1 ⟨r, rfl, r0, r1, hr, b1⟩
  have cA1 := cA0.below b1 s0
  have B1 := B0.trans (b1.mono B0.size)
  have s1 := Nat.lt_of_lt_of_le s0 b1.size
  clear x0 x1 cA0 B0 b1 s0 HS
  by_cases hneg : r < 0
  · clear hr
    go_wp2
    go_ret
    exact ⟨rfl, B1⟩
  obtain ⟨hl, hp, hd⟩ := hr (by omega)
  have HP := hide hp
  clear hr hp
  have HSZ := hide (szStepS_any sa L.length sc r w1 (by omega) r1 (by omega))
  go_wp2_with fail
  refine (unhide HSZ).mono ?_
  rintro e w' ⟨rfl, hw'⟩
  obtain rfl := hw'.symm
  clear hw' HSZ
  by_cases hneg2 : r - L.length < 0
  · rw [show szR r L.length = -1 from if_pos hneg2]
    go_wp2
    go_ret
    exact ⟨rfl, B1⟩
  rw [show szR r L.length = r - L.length from if_neg hneg2]
  have hlen : L.length ≤ 1048576 := by omega
  have x0 := cA1.cell 0 _ rfl
  have x1 := cA1.cell 1 _ rfl
  go_wp2_with fail
  refine (toStore_any fa0 fc0 z0 da0 dc0 dk0 _ ((unhide HW).below B1) hl (unhide HP) hd).mono ?_
  rintro e w2 ⟨g, G, d, rfl, o2, b2⟩
  have B2 := B1.trans (b2.mono B1.size)
  have cA2 := cA1.below b2 s1
  have q2 := b2.size
  clear x0 x1 cA1 B1 b2
  go_wp2_with fail
  refine (toStepS_any sa sc L _ ((unhide HWS).below B2) hlen).mono ?_
  rintro e w3 ⟨rfl, cL3, s3, b3⟩
  have B3 := B2.trans (b3.mono B2.size)
  have cA3 := cA2.below b3 (by omega)
  have o3 := o2.below b3 (Nat.le_refl _)
  clear cA2 B2 b3 o2
  generalize w2.heap.size = R1 at *
  go_wp2_with fail
  refine (specTo_any _ _ z0 _ _ dk0 _ _ L cut torn _ o3.sat (.inr ⟨R1, 0, rfl, cL3.cells⟩) hl (unhide HP) hd hlen).mono ?_
  intro e w4 hT
  obtain ⟨X1, Y1, rfl, I1, b4⟩ := InT.of hT
  obtain ⟨f1, n1, k1, f2, n2, k2, rfl, rfl⟩ := I1.form
  clear hT
  have q4 := b4.size
  have B4 := B3.trans (b4.mono B3.size)
  have cA4 := cA3.below b4 (by omega)
  clear cA3 B3 b4 o3 cL3
  have HIM := hide (fun (a : Option Addr) (c : Nat) (b : Option Addr) (e : Nat) (s : Option Addr) (t : Nat) (w' : World) (h : SAt w' a z0 b dk0) (hs : SsAt w' s L) => implTo_any a c z0 b e dk0 s t L cut hc0 hc1 torn w' h hs (by omega) (by omega) hlen)
  have HOF := hide (fun (w' : World) (e : Ending) (w'' : World) (h : TpPost w' z0 dk0 L cut torn e w'') => InT.of h)
  generalize toOk z0 dk0 L cut = ok at *
  generalize toB z0 L cut torn = BB at *
  generalize toK dk0 L cut torn = KK at *
  have bx : Below w4.heap.size w4 (w4.alloc (.cells #[.slice f1 n1 k1, .slice f2 n2 k2] 31)) := (Below.refl _ _).alloc (Nat.le_refl _) _
  have cS_n := store_box w4 (.slice f1 n1 k1) (.slice f2 n2 k2)
  have scS : (w4.alloc (.cells #[.slice f1 n1 k1, .slice f2 n2 k2] 31)).heap.size = w4.heap.size + 1 := by simp
  have q5 := bx.size
  have cA_5 := cA4.below bx (by omega)
  have I1_5 := I1.below bx
  have B_5 := B4.trans (bx.mono B4.size)
  clear cA4 I1 B4 bx
  have cA0 := cA_5.cell 0 _ rfl
  have cA1 := cA_5.cell 1 _ rfl
  go_wp2_with fail
  generalize w4.alloc (.cells #[.slice f1 n1 k1, .slice f2 n2 k2] 31) = w5 at *
  generalize w4.heap.size = S10 at *
  refine (toStore_any fa0 fc0 z0 da0 dc0 dk0 _ ((unhide HW).below B_5) hl (unhide HP) hd).mono ?_
  rintro e w6 ⟨g6, G6, d6, rfl, o6, b6⟩
  clear cA0 cA1
  have hi6 : ∀ x ∈ d6 :: g6 :: G6, w5.heap.size ≤ x ∧ x < w6.heap.size := fun x hx => by
    rcases List.mem_cons.1 hx with rfl | hx
    · exact ⟨o6.dlo, o6.dhi⟩
    · exact ⟨o6.own.lo x hx, o6.own.hi x hx⟩
  have q6 := b6.size
  have cA_6 := cA_5.below b6 (by omega)
  have cS_6 := cS_n.below b6 (by omega)
  have I1_6 := I1_5.below b6
  have B_6 := B_5.trans (b6.mono B_5.size)
  clear cA_5 cS_n I1_5 B_5 b6
  have bx : Below w6.heap.size w6 (w6.alloc (.cells #[.slice (some ⟨g6, 0, none⟩) z0.length z0.length, .slice (some ⟨d6, 0, none⟩) dk0.length dk0.length] 31)) := (Below.refl _ _).alloc (Nat.le_refl _) _
  have cX_n := store_box w6 (.slice (some ⟨g6, 0, none⟩) z0.length z0.length) (.slice (some ⟨d6, 0, none⟩) dk0.length dk0.length)
  have scX : (w6.alloc (.cells #[.slice (some ⟨g6, 0, none⟩) z0.length z0.length, .slice (some ⟨d6, 0, none⟩) dk0.length dk0.length] 31)).heap.size = w6.heap.size + 1 := by simp
  have q7 := bx.size
  have cA_7 := cA_6.below bx (by omega)
  have cS_7 := cS_6.below bx (by omega)
  have I1_7 := I1_6.below bx
  have o_7 := o6.below bx (Nat.le_refl _)
  have B_7 := B_6.trans (bx.mono B_6.size)
  clear cA_6 cS_6 I1_6 o6 B_6 bx
  go_wp2_with fail
  generalize w6.alloc (.cells #[.slice (some ⟨g6, 0, none⟩) z0.length z0.length, .slice (some ⟨d6, 0, none⟩) dk0.length dk0.length] 31) = w7 at *
  generalize w6.heap.size = X at *
  refine (toStepS_any sa sc L _ ((unhide HWS).below B_7) hlen).mono ?_
  rintro e w8 ⟨rfl, cL8, sL8, b8⟩
  have q8 := b8.size
  have cA_8 := cA_7.below b8 (by omega)
  have cS_8 := cS_7.below b8 (by omega)
  have cX_8 := cX_n.below b8 (by omega)
  have I1_8 := I1_7.below b8
  have o_8 := o_7.below b8 (Nat.le_refl _)
  have B_8 := B_7.trans (b8.mono B_7.size)
  clear cA_7 cS_7 cX_n I1_7 o_7 B_7 b8
  rw [scX] at cL8 sL8
  have cX0 := cX_8.cell 0 _ rfl
  have cX1 := cX_8.cell 1 _ rfl
  go_wp2_with fail
  refine (unhide HIM _ _ _ _ _ _ _ o_8.sat (.inr ⟨X + 1, 0, rfl, cL8.cells⟩)).mono ?_
  intro e w9 hT
  obtain ⟨X2, Y2, rfl, I2, b9⟩ := unhide HOF _ _ _ hT
  obtain ⟨f3, n3, k3, f4, n4, k4, rfl, rfl⟩ := I2.form
  clear hT
  clear cX0 cX1
  have q9 := b9.size
  have cA_9 := cA_8.below b9 (by omega)
  have cS_9 := cS_8.below b9 (by omega)
  have cX_9 := cX_8.below b9 (by omega)
  have cL_9 := cL8.below b9 (by omega)
  have I1_9 := I1_8.below b9
  have o_9 := o_8.below b9 (Nat.le_refl _)
  have B_9 := B_8.trans (b9.mono B_8.size)
  clear cA_8 cS_8 cX_8 cL8 I1_8 o_8 B_8 b9
  generalize hLo : w8.heap.size = lo2 at *
  have bx : Below w9.heap.size w9 (w9.alloc (.cells #[.slice f3 n3 k3, .slice f4 n4 k4] 31)) := (Below.refl _ _).alloc (Nat.le_refl _) _
  have cY_n := store_box w9 (.slice f3 n3 k3) (.slice f4 n4 k4)
  have scY : (w9.alloc (.cells #[.slice f3 n3 k3, .slice f4 n4 k4] 31)).heap.size = w9.heap.size + 1 := by simp
  have q10 := bx.size
  have cA_10 := cA_9.below bx (by omega)
  have cS_10 := cS_9.below bx (by omega)
  have cX_10 := cX_9.below bx (by omega)
  have cL_10 := cL_9.below bx (by omega)
  have I1_10 := I1_9.below bx
  have I2_10 := I2.below bx
  have o_10 := o_9.below bx (Nat.le_refl _)
  have B_10 := B_9.trans (bx.mono B_9.size)
  clear cA_9 cS_9 cX_9 cL_9 I1_9 I2 o_9 B_9 bx
  have cS0 := cS_10.cell 0 _ rfl
  have cS1 := cS_10.cell 1 _ rfl
  have cY0 := cY_n.cell 0 _ rfl
  have cY1 := cY_n.cell 1 _ rfl
  go_wp2_with fail
  generalize w9.alloc (.cells #[.slice f3 n3 k3, .slice f4 n4 k4] 31) = w10 at *
  generalize w9.heap.size = Y at *
  refine (eqT I2_10 I1_10).mono ?_
  rintro e w11 ⟨rfl, b11⟩
  clear cS0 cS1 cY0 cY1
  have q11 := b11.size
  have cA_11 := cA_10.below b11 (by omega)
  have cS_11 := cS_10.below b11 (by omega)
  have cX_11 := cX_10.below b11 (by omega)
  have cL_11 := cL_10.below b11 (by omega)
  have cY_11 := cY_n.below b11 (by omega)
  have I1_11 := I1_10.below b11
  have I2_11 := I2_10.below b11
  have o_11 := o_10.below b11 (Nat.le_refl _)
  have B_11 := B_10.trans (b11.mono B_10.size)
  clear cA_10 cS_10 cX_10 cL_10 cY_n I1_10 I2_10 o_10 B_10 b11
  go_wp2
  refine wp_region_noPanic ?_
  refine wp_region_held_drew (S := fun w' => Below w11.heap.size w11 w') (by kernel_rfl) ((Below.refl _ _).drew) (fun hHeld => ?_)
  refine takeL 0 (.agg #[.slice (some ⟨g6, 0, none⟩) z0.length z0.length, .slice (some ⟨d6, 0, none⟩) dk0.length dk0.length]) rfl (by kernel_rfl) (by kernel_rfl) (by kernel_rfl) (fun _ _ _ h => h) (Or.inl ⟨rfl, fun w9 hSw => by have hx0 := (cX_11.below hSw (by omega)).cell 0 _ rfl; have hx1 := (cX_11.below hSw (by omega)).cell 1 _ rfl; go_simp⟩) hHeld ?_
  try simp only [Act.put, List.setIfInBounds_toArray, List.set_cons_zero, List.set_cons_succ]
  refine takeL 1 (.agg #[.slice fa0 z0.length fc0, .slice da0 dk0.length dc0]) rfl (by kernel_rfl) (by kernel_rfl) (by kernel_rfl) (fun _ _ _ h => h) (Or.inl ⟨rfl, fun w9 hSw => by have hx0 := (cA_11.below hSw (by omega)).cell 0 _ rfl; have hx1 := (cA_11.below hSw (by omega)).cell 1 _ rfl; go_simp⟩) hHeld ?_
  try simp only [Act.put, List.setIfInBounds_toArray, List.set_cons_zero, List.set_cons_succ]
  refine oneL 2 rfl (by kernel_rfl) rfl (fun K hK => ?_)
  go_simp
  refine (toStore_any fa0 fc0 z0 da0 dc0 dk0 _ ((unhide HW).below B_11.drew) hl (unhide HP) hd).mono ?_
  rintro e w12 ⟨g12, G12, d12, rfl, o12, b12⟩
  go_wp2_with fail
  have bb : Below w11.heap.size w11 w12 := hHeld.trans b12
  refine hK.out _ _ bb (fun hHeld => ?_)
  clear hK K
  try simp only [Act.put, List.setIfInBounds_toArray, List.set_cons_zero, List.set_cons_succ]
  refine oneL 3 rfl (by kernel_rfl) rfl (fun K hK => ?_)
  go_simp
  refine (eqStore_any _ _ _ _ _ _ _ _ z0 dk0 _ (o_11.below bb (Nat.le_refl _)).sat o12.sat hl (unhide HP) hd).mono ?_
  rintro e w13 ⟨rfl, b13⟩
  go_wp2_with fail
  have bz : Below w11.heap.size w11 w13 := bb.trans (b13.mono bb.size)
  refine hK.out _ _ bz (fun hHeld => ?_)
  clear hK K
  try simp only [Act.put, List.setIfInBounds_toArray, List.set_cons_zero, List.set_cons_succ]
  refine takeL 4 (.bool false) rfl (by kernel_rfl) (by kernel_rfl) (by kernel_rfl) (fun _ _ _ h => h) (Or.inl ⟨rfl, fun w9 hSw => by go_simp⟩) hHeld ?_
  try simp only [Act.put, List.setIfInBounds_toArray, List.set_cons_zero, List.set_cons_succ]
  refine wpAnyH_done (by kernel_rfl) ?_ _
  refine NoPanic.normal ?_
  clear hHeld bb b12 b13 o12
  have q12 := bz.size
  have cA_12 := cA_11.below bz (by omega)
  have cS_12 := cS_11.below bz (by omega)
  have cX_12 := cX_11.below bz (by omega)
  have cL_12 := cL_11.below bz (by omega)
  have cY_12 := cY_11.below bz (by omega)
  have I1_12 := I1_11.below bz
  have I2_12 := I2_11.below bz
  have o_12 := o_11.below bz (Nat.le_refl _)
  have B_12 := B_11.trans (bz.mono B_11.size)
  clear cA_11 cS_11 cX_11 cL_11 cY_11 I1_11 I2_11 o_11 B_11 bz
  go_wp2_with fail
  refine (toStepS_any sa sc L _ ((unhide HWS).below B_12) hlen).mono ?_
  rintro e w14 ⟨rfl, cL14, sL14, b14⟩
  have cL14' := cL14
  have q13 := b14.size
  have cA_13 := cA_12.below b14 (by omega)
  have cS_13 := cS_12.below b14 (by omega)
  have cX_13 := cX_12.below b14 (by omega)
  have cL_13 := cL_12.below b14 (by omega)
  have cY_13 := cY_12.below b14 (by omega)
  have I1_13 := I1_12.below b14
  have I2_13 := I2_12.below b14
  have o_13 := o_12.below b14 (Nat.le_refl _)
  have B_13 := B_12.trans (b14.mono B_12.size)
  clear cA_12 cS_12 cX_12 cL_12 cY_12 I1_12 I2_12 o_12 B_12 b14
  go_wp2_with fail
  refine (eqStepS_any (some ⟨X + 1, 0, none⟩) _ _ _ L _ (.inr ⟨X + 1, 0, rfl, cL_13.cells⟩) (.inr ⟨_, 0, rfl, cL14.cells⟩) hlen).mono ?_
  rintro e w15 ⟨rfl, b15⟩
  clear cL14 cL14' sL14
  have q14 := b15.size
  have cA_14 := cA_13.below b15 (by omega)
  have cS_14 := cS_13.below b15 (by omega)
  have cX_14 := cX_13.below b15 (by omega)
  have cL_14 := cL_13.below b15 (by omega)
  have cY_14 := cY_13.below b15 (by omega)
  have I1_14 := I1_13.below b15
  have I2_14 := I2_13.below b15
  have o_14 := o_13.below b15 (Nat.le_refl _)
  have B_14 := B_13.trans (b15.mono B_13.size)
  clear cA_13 cS_13 cX_13 cL_13 cY_13 I1_13 I2_13 o_13 B_13 b15
  have cX0 := cX_14.cell 0 _ rfl
  have cX1 := cX_14.cell 1 _ rfl
  go_wp2_with fail
  refine (markB_any w5.heap.size g6 d6 _ _ G6 z0 dk0 w15 (by omega) o_14 hl (unhide HP) hd).mono ?_
  rintro e w16 ⟨m, rfl, hm0, hm1, y16, b16⟩
  clear cX0 cX1
  have q15 := y16.size
  have cA_15 := og cA_14 y16 (by omega) (fun hm => by have := hi6 _ hm; omega)
  have cS_15 := og cS_14 y16 (by omega) (fun hm => by have := hi6 _ hm; omega)
  have cL_15 := og cL_14 y16 (by omega) (fun hm => by have := hi6 _ hm; omega)
  have cY_15 := og cY_14 y16 (by omega) (fun hm => by have := hi6 _ hm; omega)
  have I1_15 := I1_14.only y16 (fun z hz => .inr (by have := hi6 z hz; omega))
  have I2_15 := I2_14.only y16 (fun z hz => .inl (by have := hi6 z hz; omega))
  have B_15 := B_14.trans (b16.mono (by omega))
  clear cA_14 cS_14 cX_14 cL_14 cY_14 I1_14 I2_14 o_14 B_14 y16 b16
  go_wp2_with fail
  refine (markSs m hm0 (by omega) hlen cL_15).mono ?_
  rintro e w17 ⟨m2, rfl, hm2, y17, kk17⟩
  have b17 := kk17.below (B := w5.heap.size) (fun x hx => by simp at hx; omega) (by omega)
  clear kk17
  have q16 := y17.size
  have cA_16 := og cA_15 y17 (by omega) (fun hm => by simp at hm; omega)
  have cS_16 := og cS_15 y17 (by omega) (fun hm => by simp at hm; omega)
  have cY_16 := og cY_15 y17 (by omega) (fun hm => by simp at hm; omega)
  have I1_16 := I1_15.only y17 (fun z hz => .inr (by simp at hz; omega))
  have I2_16 := I2_15.only y17 (fun z hz => .inl (by simp at hz; omega))
  have B_16 := B_15.trans (b17.mono (by omega))
  clear cA_15 cS_15 cL_15 cY_15 I1_15 I2_15 B_15 y17 b17
  have hm2n : ¬ m2 < 0 := by omega
  have cS0 := cS_16.cell 0 _ rfl
  have cS1 := cS_16.cell 1 _ rfl
  have cY0 := cY_16.cell 0 _ rfl
  have cY1 := cY_16.cell 1 _ rfl
  go_wp2_with fail
  refine (eqT I2_16 I1_16).mono ?_
  rintro e w18 ⟨rfl, b18⟩
  clear cS0 cS1 cY0 cY1
  have q17 := b18.size
  have cA_17 := cA_16.below b18 (by omega)
  have cS_17 := cS_16.below b18 (by omega)
  have cY_17 := cY_16.below b18 (by omega)
  have I1_17 := I1_16.below b18
  have I2_17 := I2_16.below b18
  have B_17 := B_16.trans (b18.mono B_16.size)
  clear cA_16 cS_16 cY_16 I1_16 I2_16 B_16 b18
  have cY0 := cY_17.cell 0 _ rfl
  have cY1 := cY_17.cell 1 _ rfl
  go_wp2_with fail
  refine (markT (by omega) I2_17).mono ?_
  rintro e w19 ⟨rfl, J2, M, y19, b19, hM⟩
  clear cY0 cY1
  have q18 := y19.size
  have cA_18 := og cA_17 y19 (by omega) (fun hm => by have := hM _ hm; omega)
  have cS_18 := og cS_17 y19 (by omega) (fun hm => by have := hM _ hm; omega)
  have cY_18 := og cY_17 y19 (by omega) (fun hm => by have := hM _ hm; omega)
  have I1_18 := I1_17.only y19 (fun z hz => .inr (by have := hM z hz; omega))
  have B_18 := B_17.trans (b19.mono (by omega))
  clear cA_17 cS_17 cY_17 I1_17 I2_17 B_17 y19 b19
  have hmt : ¬ mT ok < 0 := by unfold mT; cases ok <;> simp
  have hmn : (mT ok != mT ok) = false := by simp
  have cY0 := cY_18.cell 0 _ rfl
  have cY1 := cY_18.cell 1 _ rfl
  go_wp2_with fail
  refine (heldT J2).mono ?_
  rintro e w20 ⟨rfl, b20⟩
  clear cY0 cY1
  have q19 := b20.size
  have cA_19 := cA_18.below b20 (by omega)
  have cS_19 := cS_18.below b20 (by omega)
  have cY_19 := cY_18.below b20 (by omega)
  have I1_19 := I1_18.below b20
  have J2_19 := J2.below b20
  have B_19 := B_18.trans (b20.mono B_18.size)
  clear cA_18 cS_18 cY_18 I1_18 J2 B_18 b20
  have cA0 := cA_19.cell 0 _ rfl
  have cA1 := cA_19.cell 1 _ rfl
  go_wp2_with fail
  refine (toStore_any fa0 fc0 z0 da0 dc0 dk0 _ ((unhide HW).below B_19) hl (unhide HP) hd).mono ?_
  rintro e w21 ⟨g21, G21, d21, rfl, o21, b21⟩
  clear cA0 cA1
  have q20 := b21.size
  have cA_20 := cA_19.below b21 (by omega)
  have cS_20 := cS_19.below b21 (by omega)
  have cY_20 := cY_19.below b21 (by omega)
  have I1_20 := I1_19.below b21
  have J2_20 := J2_19.below b21
  have B_20 := B_19.trans (b21.mono B_19.size)
  clear cA_19 cS_19 cY_19 I1_19 J2_19 B_19 b21
  go_wp2_with fail
  refine (toStepS_any sa sc L _ ((unhide HWS).below B_20) hlen).mono ?_
  rintro e w22 ⟨rfl, cL22, sL22, b22⟩
  have q21 := b22.size
  have cA_21 := cA_20.below b22 (by omega)
  have cS_21 := cS_20.below b22 (by omega)
  have cY_21 := cY_20.below b22 (by omega)
  have I1_21 := I1_20.below b22
  have J2_21 := J2_20.below b22
  have o_21 := o21.below b22 (Nat.le_refl _)
  have B_21 := B_20.trans (b22.mono B_20.size)
  clear cA_20 cS_20 cY_20 I1_20 J2_20 o21 B_20 b22
  go_wp2_with fail
  refine (unhide HIM _ _ _ _ _ _ _ o_21.sat (.inr ⟨_, 0, rfl, cL22.cells⟩)).mono ?_
  intro e w23 hT
  obtain ⟨X3, Y3, rfl, I3, b23⟩ := unhide HOF _ _ _ hT
  obtain ⟨f5, n5, k5, f6, n6, k6, rfl, rfl⟩ := I3.form
  clear hT cL22 sL22
  have q22 := b23.size
  have cA_22 := cA_21.below b23 (by omega)
  have cS_22 := cS_21.below b23 (by omega)
  have cY_22 := cY_21.below b23 (by omega)
  have I1_22 := I1_21.below b23
  have J2_22 := J2_21.below b23
  have B_22 := B_21.trans (b23.mono B_21.size)
  clear cA_21 cS_21 cY_21 I1_21 J2_21 o_21 B_21 b23
  have bx : Below w23.heap.size w23 (w23.alloc (.cells #[.slice f5 n5 k5, .slice f6 n6 k6] 31)) := (Below.refl _ _).alloc (Nat.le_refl _) _
  have cZ_n := store_box w23 (.slice f5 n5 k5) (.slice f6 n6 k6)
  have scZ : (w23.alloc (.cells #[.slice f5 n5 k5, .slice f6 n6 k6] 31)).heap.size = w23.heap.size + 1 := by simp
  have q23 := bx.size
  have cA_23 := cA_22.below bx (by omega)
  have cS_23 := cS_22.below bx (by omega)
  have cY_23 := cY_22.below bx (by omega)
  have I1_23 := I1_22.below bx
  have J2_23 := J2_22.below bx
  have I3_23 := I3.below bx
  have B_23 := B_22.trans (bx.mono B_22.size)
  clear cA_22 cS_22 cY_22 I1_22 J2_22 I3 B_22 bx
  have cS0 := cS_23.cell 0 _ rfl
  have cS1 := cS_23.cell 1 _ rfl
  have cZ0 := cZ_n.cell 0 _ rfl
  have cZ1 := cZ_n.cell 1 _ rfl
  go_wp2_with fail
  generalize w23.alloc (.cells #[.slice f5 n5 k5, .slice f6 n6 k6] 31) = w24 at *
  generalize w23.heap.size = Z at *
  refine (eqT I3_23 I1_23).mono ?_
  rintro e w25 ⟨rfl, b25⟩
  clear cS0 cS1 cZ0 cZ1
  have q24 := b25.size
  have cA_24 := cA_23.below b25 (by omega)
  have cS_24 := cS_23.below b25 (by omega)
  have cY_24 := cY_23.below b25 (by omega)
  have cZ_24 := cZ_n.below b25 (by omega)
  have I1_24 := I1_23.below b25
  have J2_24 := J2_23.below b25
  have I3_24 := I3_23.below b25
  have B_24 := B_23.trans (b25.mono B_23.size)
  clear cA_23 cS_23 cY_23 cZ_n I1_23 J2_23 I3_23 B_23 b25
  have cY0 := cY_24.cell 0 _ rfl
  have cY1 := cY_24.cell 1 _ rfl
  go_wp2_with fail
  refine (heldT J2_24).mono ?_
  rintro e w26 ⟨rfl, b26⟩
  clear cY0 cY1
  have q25 := b26.size
  have cA_25 := cA_24.below b26 (by omega)
  have cS_25 := cS_24.below b26 (by omega)
  have cY_25 := cY_24.below b26 (by omega)
  have cZ_25 := cZ_24.below b26 (by omega)
  have I1_25 := I1_24.below b26
  have J2_25 := J2_24.below b26
  have I3_25 := I3_24.below b26
  have B_25 := B_24.trans (b26.mono B_24.size)
  clear cA_24 cS_24 cY_24 cZ_24 I1_24 J2_24 I3_24 B_24 b26
  go_wp2
  go_ret
  exact ⟨rfl, B_25⟩


set_option maxRecDepth 100000 in
theorem lifted (os : Os) (started : os.Started) (H : Type) (enc : TypeId × Value → H) :
    ReturnsInHanded {} Tryz.checked os 3 .any (Rows.fnExactStepsToSpec.pre6 enc Tryz.prog Tryz.f3 Rows.fnExactStepsToRow.domain false) (Rows.fnExactStepsToSpec.post enc Tryz.prog Tryz.f3 false true false false) := by
  refine returnsInHanded_of_change (C := Tryz.checked) own started (by kernel_rfl) Tryz.func3
    (ChangeSpec.witness6 (enc := enc) (C := Tryz.checked) false ⟨#[], #[.agg #[.slice none 0 0, .slice none 0 0], .slice none 0 0, .int .i64 0, .bool false], []⟩ 8 (by kernel_rfl) (by kernel_rfl) (by kernel_rfl) (by kernel_rfl)) ?_
  intro W base args ds gs before hval0 hW hcnd _
  have hval : ∀ (j : Nat) t v, Tryz.f3.params[j]? = some t → args[j]? = some v → Value.okWide Tryz.prog W .any base t v := hval0
  have hW' := hW
  obtain ⟨p, q, hA0, hV, rfl, hfz, hnd⟩ := hW
  have hA : DataW.TrodAll enc Tryz.prog W 0 (fun _ => true) true Tryz.f3.params.toList args.toList ds p := hA0
  rw [Tryz.params3] at hA hval
  obtain ⟨v0, vs0, d0, ds0, p0, q0, hargs, rfl, rfl, h0, r0⟩ := trodAll_cons hA
  obtain ⟨v1, vs1, d1, ds1, p1, q1, rfl, rfl, rfl, h1, r1⟩ := trodAll_cons r0
  obtain ⟨v2, vs2, d2, ds2, p2, q2, rfl, rfl, rfl, h2, r2⟩ := trodAll_cons r1
  obtain ⟨v3, vs3, d3, ds3, p3, q3, rfl, rfl, rfl, h3, r3⟩ := trodAll_cons r2
  obtain ⟨rfl, rfl, rfl⟩ := trodAll_nil r3
  obtain rfl : args = #[v0, v1, v2, v3] := by cases args; simp_all
  obtain ⟨rfl, rfl⟩ := trodVars_none hV
  have kk0 := h0
  have lt0 : ∀ x ∈ p0, x.block < W.heap.size := by obtain ⟨m, hm⟩ := kk0; exact DataW.trod_lt m _ _ _ hm
  obtain ⟨fa0, fc0, z0, da0, dc0, dk0, rfl, w0, fit0⟩ : ∃ fa fc z da dc dk, v0 = .agg #[.slice fa (z : List Bk).length fc, .slice da (dk : List Int).length dc] ∧ SAt W fa z da dk ∧ FitS z dk := by
    obtain ⟨c0, c1, y0, y1, n, rfl, _, _, g0, g1⟩ := open_agg2 Tryz.underlying25 (by kernel_rfl) (show Tryz.prog.cellsOf 25 = 2 by kernel_rfl) (hval 0 25 v0 rfl rfl) h0
    obtain ⟨fa, z, fc, e0, hz, fit⟩ := open_flash g0
    obtain ⟨da, dk, dc, e1, hd, hle⟩ := open_intS g1
    subst e0 e1
    exact ⟨fa, fc, z, da, dc, dk, rfl, ⟨hz, hd⟩, fit, by omega⟩
  have kk1 := h1
  have lt1 : ∀ x ∈ p1, x.block < W.heap.size := by obtain ⟨m, hm⟩ := kk1; exact DataW.trod_lt m _ _ _ hm
  obtain ⟨a1, len1, cap1, rfl⟩ := okWide_slice Tryz.underlying26 (hval 1 26 v1 rfl rfl)
  obtain ⟨z1, hz1, w1, ln1⟩ : ∃ z : List Stp, len1 = z.length ∧ SsAt W a1 z ∧ z.length ≤ 9223372036854775807 := by
    obtain ⟨fuel, hf⟩ := h1
    obtain ⟨a', z, cap', e, hz, fit⟩ := open_steps (V := .slice a1 len1 cap1) (by simpa [Value.cells] using hf)
    simp at e
    obtain ⟨rfl, rfl, rfl⟩ := e
    exact ⟨z, rfl, hz, fit⟩
  subst hz1
  have kk2 := h2
  have lt2 : ∀ x ∈ p2, x.block < W.heap.size := by obtain ⟨m, hm⟩ := kk2; exact DataW.trod_lt m _ _ _ hm
  obtain ⟨n2, rfl⟩ := okWide_int Tryz.underlying3 (hval 2 3 v2 rfl rfl)
  have jb2 : -9223372036854775808 ≤ n2 ∧ n2 ≤ 9223372036854775807 := by have h9 := hval 2 3 _ rfl rfl; simpa [Value.okWide, Tryz.underlying3, Cell.okWide, Cell.ok, IntKind.has, IntKind.min, IntKind.max, IntKind.bits, IntKind.signed] using h9
  have kk3 := h3
  have lt3 : ∀ x ∈ p3, x.block < W.heap.size := by obtain ⟨m, hm⟩ := kk3; exact DataW.trod_lt m _ _ _ hm
  obtain ⟨o3, rfl⟩ := okWide_bool Tryz.underlying4 (hval 3 4 v3 rfl rfl)
  clear hA0
  refine (walk fa0 fc0 z0 da0 dc0 dk0 a1 cap1 z1 n2 jb2.1 jb2.2 o3 W w0 fit0 w1 ln1  ).mono fun e W' ⟨he, bel⟩ => ?_
  subst he
  exact ⟨_, rfl, _, _, _, [], _, [], hW', trodAll_mk1 (shut_bool Tryz.underlying4 _), (trodAll_cons_mk (Below.trod laidOut (by kernel_rfl) (of_decide_eq_true (by kernel_rfl)) kk0 bel lt0) (trodAll_cons_mk (Below.trod laidOut (by kernel_rfl) (of_decide_eq_true (by kernel_rfl)) kk1 bel lt1) (trodAll_cons_mk (Below.trod laidOut (by kernel_rfl) (of_decide_eq_true (by kernel_rfl)) kk2 bel lt2) (trodAll_cons_mk (Below.trod laidOut (by kernel_rfl) (of_decide_eq_true (by kernel_rfl)) kk3 bel lt3) trodAll_mk0)))), rfl, bel.frame _, fun h => by cases h⟩

set_option maxRecDepth 100000 in
theorem facts : joinedFacts Tryz.prog 3 Tryz.f3 Rows.fnExactStepsToSpec Rows.fnExactStepsToRow = true := by
  unfold joinedFacts
  refine Facts.and_t ?_ (by as_aux_lemma => kernel_rfl)
  refine Facts.and_t ?_ (by as_aux_lemma => kernel_rfl)
  refine Facts.and_t ?_ (by as_aux_lemma => kernel_rfl)
  refine Facts.and_t ?_ (by as_aux_lemma => kernel_rfl)
  refine Facts.and_t ?_ (by show (Tryz.prog.make == some Make.cut) = true; rw [Facts.made]; rfl)
  refine Facts.and_t ?_ (by show (false == Tryz.prog.liftsFinal) = true; rw [Facts.lifts]; rfl)
  refine Facts.and_t ?_ (Facts.enters)
  refine Facts.and_t ?_ (Facts.heard)
  refine Facts.and_t ?_ (rfl)
  refine Facts.and_t ?_ (by show (true == Tryz.prog.plainKeys) = true; rw [Facts.keys]; rfl)
  refine Facts.and_t ?_ (by as_aux_lemma => kernel_rfl)
  refine Facts.and_t ?_ (by as_aux_lemma => kernel_rfl)
  refine Facts.and_t ?_ (by as_aux_lemma => kernel_rfl)
  refine Facts.and_t ?_ (by as_aux_lemma => kernel_rfl)
  refine Facts.and_t ?_ (by as_aux_lemma => kernel_rfl)
  refine Facts.and_t ?_ (by as_aux_lemma => kernel_rfl)
  refine Facts.and_t ?_ (by as_aux_lemma => kernel_rfl)
  refine Facts.and_t ?_ (by as_aux_lemma => kernel_rfl)
  refine Facts.and_t ?_ (by as_aux_lemma => kernel_rfl)
  refine Facts.and_t ?_ (by as_aux_lemma => kernel_rfl)
  refine Facts.and_t ?_ (by as_aux_lemma => kernel_rfl)
  refine Facts.and_t ?_ (by as_aux_lemma => kernel_rfl)
  refine Facts.and_t ?_ (by as_aux_lemma => kernel_rfl)
  refine Facts.and_t ?_ (by as_aux_lemma => kernel_rfl)
  refine Facts.and_t ?_ (by as_aux_lemma => kernel_rfl)
  refine Facts.and_t ?_ (by as_aux_lemma => kernel_rfl)
  refine Facts.and_t ?_ (by as_aux_lemma => kernel_rfl)
  refine Facts.and_t ?_ (by as_aux_lemma => kernel_rfl)
  refine Facts.and_t ?_ (by as_aux_lemma => kernel_rfl)
  refine Facts.and_t ?_ (Facts.rowed)
  refine Facts.and_t ?_ (Facts.laidOut)
  kernel_rfl

theorem over : Rows.fnExactStepsToRow.holds Tryz.pinned (OpenSpec.ofChange Rows.fnExactStepsToSpec) :=
  OpenClaim.holds_of_wide 3 Tryz.f3 rfl rfl rfl rfl rfl rfl rfl ⟨rfl, rfl, rfl, rfl, rfl⟩ rfl rfl rfl rfl rfl (by kernel_rfl) Tryz.func3 facts
    (of_decide_eq_true (by kernel_rfl)) (by unfold Func.isWrapper; first | (rw [if_pos (by decide +kernel)]; kernel_rfl) | (rw [if_neg (by decide +kernel)]; exact ⟨rfl, rfl⟩))
    (fun os started H enc _ => lifted os started H enc)

end Go.Proofs.YtcmklcfedeeahaaGreat.ExactStepsTo
namespace Go.Proofs.YtcmklcfedeeahaaGreat
theorem fnExactStepsTo_holds : Rows.FnExactStepsToSaid := ExactStepsTo.over
end Go.Proofs.YtcmklcfedeeahaaGreat
