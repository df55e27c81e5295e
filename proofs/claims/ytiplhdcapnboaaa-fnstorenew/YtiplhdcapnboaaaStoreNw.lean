/-
  A store begins with noughts: so it does. The given statement, with no condition.
-/
import Derived.Test.YtiplhdcapnboaaaPx
import Derived.Test.YtiplhdcapnboaaaPlE
import Derived.Test.YtiplhdcapnboaaaImplX
import Derived.Test.YtiplhdcapnboaaaPy
import Derived.Test.YtiplhdcapnboaaaFacts
import Derived.Lib.SmallJoins
namespace Go.Proofs.Ytiplhdcapnboaaa.StoreNw
open Go.ChangeShapes Go.WideShapes Go.ChangeAt Go.RowKit Go.Shelf Go.Joins OkA Big Fl ImplB ImplF ImplS ImplT ImplU SpecA SpecB SpecC SpecD SpecW SpecX SpecF SpecG SpecH FindP FindN FindO FindD ImplW ImplX Pick Draw ClA DrB PlB Pl FindL StA StB StC StD StE StF StG SpS SpT DrS Sv LqI Py LawsA LawsB LawsE Lq Px NwA LqI Sn9 ImplL Kp DoA
open FlB (FsN)
open StN (SN)
open Facts (own laidOut)
set_option linter.unusedVariables false
set_option linter.unusedSimpArgs false
attribute [local go_sem ↓] Go.wp_at_zero Go.wp_at_succ

theorem clean_new (k : Nat) (hk : k < 4) : cleanR zFs (k : Int) = 4 := by
  match k, hk with
  | 0, _ => rfl
  | 1, _ => rfl
  | 2, _ => rfl
  | 3, _ => rfl
theorem fc_new (a : Option Addr) (k : Nat) (hk : k < 4) (w : World) (h : FsAt w a zFs) : Calls Try.prog 28 #[.slice a 4 4, .int .i64 k] w fun e w' => e = .returned (.int .i64 4) ∧ Below w.heap.size w w' := by
  have := flashClean_any a 4 k zFs w h (by decide)
  rw [clean_new k hk] at this
  exact this
theorem ok_newS (a b : Option Addr) (w : World) (h : SAt w a zFs b zDk) : Calls Try.prog 60 #[.agg #[.slice a 4 4, .slice b 6 6]] w fun e w' => e = .returned (.bool true) ∧ Below w.heap.size w w' := by
  have := iOk (fc := 4) (dc := 6) w h (by decide) (by decide)
  rw [show stB zFs zDk = true by decide] at this
  exact this
theorem dy_newS (a b : Option Addr) (w : World) (h : SAt w a zFs b zDk) : Calls Try.prog 57 #[.agg #[.slice a 4 4, .slice b 6 6]] w fun e w' => ∃ p q, e = .returned (.slice p 0 q) ∧ True ∧ Below w.heap.size w w' := by
  have := iDirty2 (fc := 4) (dc := 6) w h (by decide) (by decide)
  rw [dy_new] at this
  refine this.mono ?_
  rintro e w'' ⟨p, q, he, _, b⟩
  exact ⟨p, q, he, trivial, b⟩
theorem lq_new (a b : Option Addr) (c1 c2 : Nat) (w : World) (h : FsAt w a zFs) (h2 : FsAt w b zFs) : Calls Try.prog 27 #[.slice a 4 c1, .slice b 4 c2] w fun e w' => e = .returned (.bool true) ∧ Below w.heap.size w w' :=
  lqFlash_same a b c1 c2 zFs w h h2 (by decide) (by decide)

set_option maxRecDepth 100000 in
set_option maxHeartbeats 8000000 in
theorem walk (a0 : Option Addr) (len0 cap0 : Nat) (z0 : List Int) (w : World) (h0 : IsRow .u8 w a0 len0 cap0 z0) :
    Calls Try.prog 16 #[.slice a0 len0 cap0] w fun e w' => e = .returned (.bool true) ∧ Below w.heap.size w w' := by
  have HD := hide (drawSok_any w a0 len0 cap0 z0 h0)
  clear h0
  go_enter Try.func16, Try.ntmps16
  by_cases hbig0 : 1048576 < (len0 : Int)
  · go_wp2
    go_ret
    exact ⟨rfl, Below.refl _ _⟩
  go_wp2_with fail
  refine (unhide HD).mono ?_
  rintro e w1 ⟨g, o, c, bs, d, z, dc, dk, rfl, S1, hc4, B⟩
  have h4 := S1.fs.four
  have h6 := S1.six
  have hp4 := hide S1.fs.pgs
  have hs := S1.at
  clear HD S1
  generalize (some ⟨g, o, none⟩ : Option Addr) = fa at *
  generalize (some ⟨d, z, none⟩ : Option Addr) = da at *
  have bA : Below w1.heap.size w1 (w1.alloc (.cells #[.slice fa bs.length c, .slice da dk.length dc] 54)) := (Below.refl _ _).alloc (Nat.le_refl _) _
  have bx := Bx.new w1 (.slice fa bs.length c) (.slice da dk.length dc) 54
  replace hs := hs.below bA
  replace B := B.trans (bA.mono B.size)
  clear bA hc4
  have y0 := bx.c0
  have y1 := bx.c1
  have HIO := hide (fun (w' : World) (h : SAt w' fa bs da dk) => iOk (fc := c) (dc := dc)  w' h h4 h6)
  have HSO := hide (fun (w' : World) (h : SAt w' fa bs da dk) => sOk (fc := c) (dc := dc)  w' h h4 h6 (unhide hp4))
  have HSS := hide (show (Try.prog.info? 54).map (·.size) = some 2 by kernel_rfl)
  generalize stB bs dk = q at *
  have hqq : (q != q) = false := by cases q <;> rfl
  go_wp2_with fail
  generalize w1.alloc (.cells #[.slice fa bs.length c, .slice da dk.length dc] 54) = w2 at *
  generalize w1.heap.size = sb at *
  refine (unhide HIO _ hs).mono ?_
  rintro e u1 ⟨rfl, b⟩
  replace hs := hs.below b
  replace bx := bx.below b
  clear y0 y1
  have y0 := bx.c0
  have y1 := bx.c1
  replace B := B.trans (b.mono B.size)
  clear b
  go_wp2_with fail
  refine (unhide HSO _ hs).mono ?_
  rintro e u2 ⟨rfl, b⟩
  replace hs := hs.below b
  replace bx := bx.below b
  clear y0 y1
  have y0 := bx.c0
  have y1 := bx.c1
  replace B := B.trans (b.mono B.size)
  clear b
  go_wp2_with fail
  refine (newS_any _).mono ?_
  rintro e v1 ⟨g9, d9, rfl, hz, b⟩
  replace B := B.trans (b.mono B.size)
  clear b hs bx y0 y1
  have b : Below v1.heap.size v1 (v1.alloc (.cells #[.slice (some ⟨g9, 0, none⟩) 4 4, .slice (some ⟨d9, 0, none⟩) 6 6] 54)) := (Below.refl _ _).alloc (Nat.le_refl _) _
  replace hz := hz.below b
  replace B := B.trans (b.mono B.size)
  have bx := Bx.new v1 (.slice (some ⟨g9, 0, none⟩) 4 4) (.slice (some ⟨d9, 0, none⟩) 6 6) 54
  have y0 := bx.c0
  have y1 := bx.c1
  clear b
  go_upto_region 10 with fail
  generalize v1.alloc (.cells #[.slice (some ⟨g9, 0, none⟩) 4 4, .slice (some ⟨d9, 0, none⟩) 6 6] 54) = v2 at *
  generalize v1.heap.size = nb at *
  go_loopw [6, 7] (fun c i w' => ∃ k : Nat, k ≤ 4 ∧ c = .int .i64 (4 * k : Nat) ∧ i = .int .i64 k ∧ Below v2.heap.size v2 w') (fun c i _ => 4 - (intOf i).toNat)
  case atStart => exact ⟨0, by omega, rfl, rfl, Below.refl _ _⟩
  case round =>
    obtain ⟨k, hk, rfl, rfl, bw⟩ := hrel
    replace hz := hz.below bw
    replace bx := bx.below bw
    replace B := B.trans (bw.mono B.size)
    clear y0 y1
    have y0 := bx.c0
    have y1 := bx.c1
    by_cases h0 : k = 4
    · subst h0
      clear bw
      go_upto_region 13 with fail
      refine wp_region_noPanic ?_
      refine wp_region_held_drew (S := fun w' => Kept [] wr w') (by kernel_rfl) (Kept.refl _ _).drew (fun hHeld => ?_)
      generalize wr.drew = y0 at *
      have z0 := hHeld.size
      refine takeL 0 (.agg #[.slice (some ⟨g9, 0, none⟩) 4 4, .slice (some ⟨d9, 0, none⟩) 6 6]) rfl (by kernel_rfl) (by kernel_rfl) (by kernel_rfl) (fun _ _ _ h => h) (yieldsIf_load_mid rfl 54 _ rfl nb 0 rfl [.slice (some ⟨g9, 0, none⟩) 4 4, .slice (some ⟨d9, 0, none⟩) 6 6] _ (fun _ h => rng2 (bx.below (Kept.all h (by simp)))) Try.underlying54 rfl (unhide HSS)) hHeld ?_
      try simp only [Act.put, List.setIfInBounds_toArray, List.set_cons_zero, List.set_cons_succ]
      refine oneL 1 rfl (by kernel_rfl) rfl (fun K hK => ?_)
      go_simp
      refine (ok_newS _ _ _ (hz.below (Kept.all hHeld (by simp)))).mono ?_
      rintro e y1 ⟨rfl, b⟩
      go_wp2_with fail
      refine hK.out _ _ (hHeld.trans (Kept.of b)) (fun hHeld => ?_)
      clear hK K
      try simp only [Act.put, List.setIfInBounds_toArray, List.set_cons_zero, List.set_cons_succ]
      have z1 := b.size
      clear b
      refine takeL 2 (.bool true) rfl (by kernel_rfl) (by kernel_rfl) (by kernel_rfl) (fun _ _ _ h => h) (Or.inl ⟨rfl, fun _ _ => rfl⟩) hHeld ?_
      try simp only [Act.put, List.setIfInBounds_toArray, List.set_cons_zero, List.set_cons_succ]
      refine takeL 3 (.agg #[.slice (some ⟨g9, 0, none⟩) 4 4, .slice (some ⟨d9, 0, none⟩) 6 6]) rfl (by kernel_rfl) (by kernel_rfl) (by kernel_rfl) (fun _ _ _ h => h) (yieldsIf_load_mid rfl 54 _ rfl nb 0 rfl [.slice (some ⟨g9, 0, none⟩) 4 4, .slice (some ⟨d9, 0, none⟩) 6 6] _ (fun _ h => rng2 (bx.below (Kept.all h (by simp)))) Try.underlying54 rfl (unhide HSS)) hHeld ?_
      try simp only [Act.put, List.setIfInBounds_toArray, List.set_cons_zero, List.set_cons_succ]
      refine oneL 4 rfl (by kernel_rfl) rfl (fun K hK => ?_)
      go_simp
      refine (dy_newS _ _ _ (hz.below (Kept.all hHeld (by simp)))).mono ?_
      rintro e y2 ⟨pa, pc, rfl, _, b⟩
      go_wp2_with fail
      refine hK.out _ _ (hHeld.trans (Kept.of b)) (fun hHeld => ?_)
      clear hK K
      try simp only [Act.put, List.setIfInBounds_toArray, List.set_cons_zero, List.set_cons_succ]
      have z2 := b.size
      clear b
      refine takeL 5 (.int .i64 0) rfl (by kernel_rfl) (by kernel_rfl) (by kernel_rfl) (fun _ _ _ h => h) (Or.inl ⟨rfl, fun w9 hSw => by go_simp⟩) hHeld ?_
      try simp only [Act.put, List.setIfInBounds_toArray, List.set_cons_zero, List.set_cons_succ]
      refine takeL 6 (.bool true) rfl (by kernel_rfl) (by kernel_rfl) (by kernel_rfl) (fun _ _ _ h => h) (Or.inl ⟨rfl, fun w9 hSw => by go_simp⟩) hHeld ?_
      try simp only [Act.put, List.setIfInBounds_toArray, List.set_cons_zero, List.set_cons_succ]
      refine takeL 7 (.bool true) rfl (by kernel_rfl) (by kernel_rfl) (by kernel_rfl) (fun _ _ _ h => h) (Or.inl ⟨rfl, fun w9 hSw => by go_simp⟩) hHeld ?_
      try simp only [Act.put, List.setIfInBounds_toArray, List.set_cons_zero, List.set_cons_succ]
      refine takeL 8 (.bool true) rfl (by kernel_rfl) (by kernel_rfl) (by kernel_rfl) (fun _ _ _ h => h) (Or.inl ⟨rfl, fun _ _ => rfl⟩) hHeld ?_
      try simp only [Act.put, List.setIfInBounds_toArray, List.set_cons_zero, List.set_cons_succ]
      refine takeL 9 (.int .i64 16) rfl (by kernel_rfl) (by kernel_rfl) (by kernel_rfl) (fun _ _ _ h => h) (Or.inl ⟨rfl, fun _ _ => rfl⟩) hHeld ?_
      try simp only [Act.put, List.setIfInBounds_toArray, List.set_cons_zero, List.set_cons_succ]
      refine takeL 10 (.bool true) rfl (by kernel_rfl) (by kernel_rfl) (by kernel_rfl) (fun _ _ _ h => h) (Or.inl ⟨rfl, fun w9 hSw => by go_simp⟩) hHeld ?_
      try simp only [Act.put, List.setIfInBounds_toArray, List.set_cons_zero, List.set_cons_succ]
      refine takeL 11 (.bool true) rfl (by kernel_rfl) (by kernel_rfl) (by kernel_rfl) (fun _ _ _ h => h) (Or.inl ⟨rfl, fun w9 hSw => by go_simp⟩) hHeld ?_
      try simp only [Act.put, List.setIfInBounds_toArray, List.set_cons_zero, List.set_cons_succ]
      refine takeL 12 (.bool true) rfl (by kernel_rfl) (by kernel_rfl) (by kernel_rfl) (fun _ _ _ h => h) (Or.inl ⟨rfl, fun _ _ => rfl⟩) hHeld ?_
      try simp only [Act.put, List.setIfInBounds_toArray, List.set_cons_zero, List.set_cons_succ]
      refine takeL 13 (.pointer (some ⟨nb, 0, none⟩)) rfl (by kernel_rfl) (by kernel_rfl) (by kernel_rfl) (fun _ _ _ h => h) (Or.inl ⟨rfl, fun w9 hSw => by go_simp⟩) hHeld ?_
      try simp only [Act.put, List.setIfInBounds_toArray, List.set_cons_zero, List.set_cons_succ]
      refine takeL 14 (.slice (some ⟨g9, 0, none⟩) 4 4) rfl (by kernel_rfl) (by kernel_rfl) (by kernel_rfl) (fun _ _ _ h => h) (Or.inl ⟨rfl, fun w9 hSw => by have hc := (hSw.cell (b := nb) 0 bx.lt (by simp)).trans bx.c0; go_simp⟩) hHeld ?_
      try simp only [Act.put, List.setIfInBounds_toArray, List.set_cons_zero, List.set_cons_succ]
      refine oneL 15 rfl (by kernel_rfl) rfl (fun K hK => ?_)
      go_simp
      refine (flashNew_any _).mono ?_
      rintro e y3 ⟨h9, H9, rfl, O, b⟩
      go_wp2_with fail
      refine hK.out _ _ (hHeld.trans (Kept.of b)) (fun hHeld => ?_)
      clear hK K
      try simp only [Act.put, List.setIfInBounds_toArray, List.set_cons_zero, List.set_cons_succ]
      have hf9 := O.fs
      have z3 := b.size
      clear b
      refine oneL 16 rfl (by kernel_rfl) rfl (fun K hK => ?_)
      go_simp
      refine (lq_new _ _ _ _ _ (hz.below (Kept.all hHeld (by simp))).fs hf9).mono ?_
      rintro e y4 ⟨rfl, b⟩
      go_wp2_with fail
      replace hf9 := FsAt.below hf9 b
      refine hK.out _ _ (hHeld.trans (Kept.of b)) (fun hHeld => ?_)
      clear hK K
      try simp only [Act.put, List.setIfInBounds_toArray, List.set_cons_zero, List.set_cons_succ]
      have z4 := b.size
      clear b
      refine takeL 17 (.bool true) rfl (by kernel_rfl) (by kernel_rfl) (by kernel_rfl) (fun _ _ _ h => h) (Or.inl ⟨rfl, fun w9 hSw => by go_simp⟩) hHeld ?_
      try simp only [Act.put, List.setIfInBounds_toArray, List.set_cons_zero, List.set_cons_succ]
      refine takeL 18 (.bool true) rfl (by kernel_rfl) (by kernel_rfl) (by kernel_rfl) (fun _ _ _ h => h) (Or.inl ⟨rfl, fun _ _ => rfl⟩) hHeld ?_
      try simp only [Act.put, List.setIfInBounds_toArray, List.set_cons_zero, List.set_cons_succ]
      refine takeL 19 (.pointer (some ⟨nb, 1, none⟩)) rfl (by kernel_rfl) (by kernel_rfl) (by kernel_rfl) (fun _ _ _ h => h) (Or.inl ⟨rfl, fun w9 hSw => by go_simp⟩) hHeld ?_
      try simp only [Act.put, List.setIfInBounds_toArray, List.set_cons_zero, List.set_cons_succ]
      refine takeL 20 (.slice (some ⟨d9, 0, none⟩) 6 6) rfl (by kernel_rfl) (by kernel_rfl) (by kernel_rfl) (fun _ _ _ h => h) (Or.inl ⟨rfl, fun w9 hSw => by have hc := (hSw.cell (b := nb) 1 bx.lt (by simp)).trans bx.c1; go_simp⟩) hHeld ?_
      try simp only [Act.put, List.setIfInBounds_toArray, List.set_cons_zero, List.set_cons_succ]
      refine takeL 21 (.int .i64 6) rfl (by kernel_rfl) (by kernel_rfl) (by kernel_rfl) (fun _ _ _ h => h) (Or.inl ⟨rfl, fun w9 hSw => by go_simp⟩) hHeld ?_
      try simp only [Act.put, List.setIfInBounds_toArray, List.set_cons_zero, List.set_cons_succ]
      refine takeL 22 (.bool true) rfl (by kernel_rfl) (by kernel_rfl) (by kernel_rfl) (fun _ _ _ h => h) (Or.inl ⟨rfl, fun w9 hSw => by go_simp⟩) hHeld ?_
      try simp only [Act.put, List.setIfInBounds_toArray, List.set_cons_zero, List.set_cons_succ]
      refine takeL 23 (.bool true) rfl (by kernel_rfl) (by kernel_rfl) (by kernel_rfl) (fun _ _ _ h => h) (Or.inl ⟨rfl, fun w9 hSw => by go_simp⟩) hHeld ?_
      try simp only [Act.put, List.setIfInBounds_toArray, List.set_cons_zero, List.set_cons_succ]
      refine takeL 24 (.bool true) rfl (by kernel_rfl) (by kernel_rfl) (by kernel_rfl) (fun _ _ _ h => h) (Or.inl ⟨rfl, fun _ _ => rfl⟩) hHeld ?_
      try simp only [Act.put, List.setIfInBounds_toArray, List.set_cons_zero, List.set_cons_succ]
      refine wpAnyH_done (by kernel_rfl) ?_ _
      refine NoPanic.normal ?_
      have B2 := B.trans ((Kept.all hHeld (by simp)).mono B.size)
      clear hHeld
      go_wp2
      go_ret
      exact ⟨rfl, B2⟩
    · have hlt : (k : Int) < 4 := by omega
      have hk4 : k < 4 := by omega
      have hlo : (0 : Int) ≤ (k : Int) := by omega
      go_wp2_with fail
      refine (fc_new _ k hk4 _ hz.fs).mono ?_
      rintro e v3 ⟨rfl, b⟩
      replace bw := bw.trans (b.mono bw.size)
      have hwk : IntKind.i64.wrap (((4 * k : Nat) : Int) + 4) = ((4 * (k + 1) : Nat) : Int) := by rw [IntKind.wrap_i64] <;> omega
      clear b hz bx y0 y1
      go_wp2
      go_roundw
      case rel => exact ⟨k + 1, by omega, by first | rfl | go_num | (congr 1; omega), by first | rfl | go_num, bw⟩
      case measure => simp [intOf]; omega


set_option maxRecDepth 100000 in
theorem lifted (os : Os) (started : os.Started) (H : Type) (enc : TypeId × Value → H) :
    ReturnsInHanded {} Try.checked os 16 .any (Rows.fnStoreNewSpec.pre6 enc Try.prog Try.f16 Rows.fnStoreNewRow.domain false) (Rows.fnStoreNewSpec.post enc Try.prog Try.f16 false true false false) := by
  refine returnsInHanded_of_change (C := Try.checked) own started (by kernel_rfl) Try.func16
    (ChangeSpec.witness6 (enc := enc) (C := Try.checked) false ⟨#[], #[.slice none 0 0], []⟩ 8 (by kernel_rfl) (by kernel_rfl) (by kernel_rfl) (by kernel_rfl)) ?_
  intro W base args ds gs before hval0 hW hcnd _
  have hval : ∀ (j : Nat) t v, Try.f16.params[j]? = some t → args[j]? = some v → Value.okWide Try.prog W .any base t v := hval0
  have hW' := hW
  obtain ⟨p, q, hA0, hV, rfl, hfz, hnd⟩ := hW
  have hA : DataW.TrodAll enc Try.prog W 0 (fun _ => true) true Try.f16.params.toList args.toList ds p := hA0
  rw [Try.params16] at hA hval
  obtain ⟨v0, vs0, d0, ds0, p0, q0, hargs, rfl, rfl, h0, r0⟩ := trodAll_cons hA
  obtain ⟨rfl, rfl, rfl⟩ := trodAll_nil r0
  obtain rfl : args = #[v0] := by cases args; simp_all
  obtain ⟨rfl, rfl⟩ := trodVars_none hV
  have kk0 := h0
  have lt0 : ∀ x ∈ p0, x.block < W.heap.size := by obtain ⟨m, hm⟩ := kk0; exact DataW.trod_lt m _ _ _ hm
  obtain ⟨a0, len0, cap0, rfl⟩ := okWide_slice Try.underlying22 (hval 0 22 v0 rfl rfl)
  obtain ⟨z0, w0⟩ : ∃ zs, IsRow .u8 W a0 len0 cap0 zs := by
    obtain ⟨fuel, hf⟩ := h0
    rcases open_ints Try.underlying22 Try.underlying5 (by kernel_rfl) hf with ⟨hcs, _⟩ | ⟨x, l, c, zs, hcs, _, hl, hm, hz, _, hcell, hwz⟩
    · simp [Value.cells] at hcs
      obtain ⟨rfl, rfl, rfl⟩ := hcs
      exact ⟨[], .inl ⟨rfl, rfl, rfl, rfl⟩⟩
    · simp [Value.cells] at hcs
      obtain ⟨rfl, rfl, rfl⟩ := hcs
      exact ⟨zs, .inr ⟨_, rfl, hl, hm, by simpa using hz, hcell, hwz⟩⟩
  clear hA0
  refine (walk a0 len0 cap0 z0 W w0).mono fun e W' ⟨he, bel⟩ => ?_
  subst he
  exact ⟨_, rfl, _, _, _, [], _, [], hW', trodAll_mk1 (shut_bool Try.underlying4 _), (trodAll_cons_mk (Below.trod laidOut (by kernel_rfl) (of_decide_eq_true (by kernel_rfl)) kk0 bel lt0) trodAll_mk0), rfl, bel.frame _, fun h => by cases h⟩

set_option maxRecDepth 100000 in
theorem facts : joinedFacts Try.prog 16 Try.f16 Rows.fnStoreNewSpec Rows.fnStoreNewRow = true := by
  unfold joinedFacts
  refine Facts.and_t ?_ (by as_aux_lemma => kernel_rfl)
  refine Facts.and_t ?_ (by as_aux_lemma => kernel_rfl)
  refine Facts.and_t ?_ (by as_aux_lemma => kernel_rfl)
  refine Facts.and_t ?_ (by as_aux_lemma => kernel_rfl)
  refine Facts.and_t ?_ (by show (Try.prog.make == some Make.cut) = true; rw [Facts.made]; rfl)
  refine Facts.and_t ?_ (by show (false == Try.prog.liftsFinal) = true; rw [Facts.lifts]; rfl)
  refine Facts.and_t ?_ (Facts.enters)
  refine Facts.and_t ?_ (Facts.heard)
  refine Facts.and_t ?_ (rfl)
  refine Facts.and_t ?_ (by show (true == Try.prog.plainKeys) = true; rw [Facts.keys]; rfl)
  refine Facts.and_t ?_ (by as_aux_lemma => kernel_rfl)
  refine Facts.and_t ?_ (by as_aux_lemma => kernel_rfl)
  refine Facts.and_t ?_ (by as_aux_lemma => kernel_rfl)
  refine Facts.and_t ?_ (by as_aux_lemma => kernel_rfl)
  refine Facts.and_t ?_ (by as_aux_lemma => kernel_rfl)
  refine Facts.and_t ?_ (by as_aux_lemma => kernel_rfl)
  refine Facts.and_t ?_ (by as_aux_lemma => kernel_rfl)
  refine Facts.and_t ?_ (by as_aux_lemma => kernel_rfl)
  refine Facts.and_t ?_ (by as_aux_lemma => kernel_rfl)
  refine Facts.and_t ?_ (by as_aux_lemma => kernel_rfl)
  refine Facts.and_t ?_ (by as_aux_lemma => kernel_rfl)
  refine Facts.and_t ?_ (by as_aux_lemma => kernel_rfl)
  refine Facts.and_t ?_ (by as_aux_lemma => kernel_rfl)
  refine Facts.and_t ?_ (by as_aux_lemma => kernel_rfl)
  refine Facts.and_t ?_ (by as_aux_lemma => kernel_rfl)
  refine Facts.and_t ?_ (by as_aux_lemma => kernel_rfl)
  refine Facts.and_t ?_ (by as_aux_lemma => kernel_rfl)
  refine Facts.and_t ?_ (by as_aux_lemma => kernel_rfl)
  refine Facts.and_t ?_ (by as_aux_lemma => kernel_rfl)
  refine Facts.and_t ?_ (Facts.rowed)
  refine Facts.and_t ?_ (Facts.laidOut)
  kernel_rfl

theorem over : Rows.fnStoreNewRow.holds Try.pinned (OpenSpec.ofChange Rows.fnStoreNewSpec) :=
  OpenClaim.holds_of_wide 16 Try.f16 rfl rfl rfl rfl rfl rfl rfl ⟨rfl, rfl, rfl, rfl, rfl⟩ rfl rfl rfl rfl rfl (by kernel_rfl) Try.func16 facts
    (of_decide_eq_true (by kernel_rfl)) (by unfold Func.isWrapper; first | (rw [if_pos (by decide +kernel)]; kernel_rfl) | (rw [if_neg (by decide +kernel)]; exact ⟨rfl, rfl⟩))
    (fun os started H enc _ => lifted os started H enc)

end Go.Proofs.Ytiplhdcapnboaaa.StoreNw
namespace Go.Proofs.Ytiplhdcapnboaaa
theorem fnStoreNew_holds : Rows.FnStoreNewSaid := StoreNw.over
end Go.Proofs.Ytiplhdcapnboaaa
