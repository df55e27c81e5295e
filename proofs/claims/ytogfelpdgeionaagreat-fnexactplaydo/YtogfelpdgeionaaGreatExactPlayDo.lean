/-
  At every store and event the program's PlayDo answers as the specification's, leaves its arguments as they were, and its answer owns its memory: the given statement, with no condition.
-/
import Derived.Test.YtogfelpdgeionaaGreatPdD
import Derived.Lib.SmallJoins
import Derived.Test.YtogfelpdgeionaaGreatHbX
import Derived.Test.YtogfelpdgeionaaGreatHbS
import Derived.Test.YtogfelpdgeionaaGreatHbZ
import Derived.Test.YtogfelpdgeionaaGreatFacts
namespace Go.Proofs.YtogfelpdgeionaaGreat.ExactPlayDo
open TwA Go.ChangeShapes Go.WideShapes Go.ChangeAt Go.RowKit Go.Shelf OkA Big Fl ImplB ImplF ImplS _root_.Go.Proofs.YtogfelpdgeionaaGreat.Own ImplT ImplU SpecA SpecB SpecC SpecD SpecW SpecF SpecG SpecH Ok2 Pl FindP ImplL Kp StA StB StC StD StE StF StG SpS SpT RmA WrA FlA DoA ToA PlA LawU LawS LawV LawI LawT LawW SpU TwB TwC QuB QuE SpV MkN Ct AlX PaA PaB DpX Cu Go.Joins FindL Gd LawsA LawsB LawsE OpenF MarkB QuA QuB QuC QuD SpV1 PdA PdB PdC PdD EvL OrdM
open Facts (own laidOut)
set_option linter.unusedVariables false
set_option linter.unusedSimpArgs false
attribute [local go_sem ↓] Go.wp_at_zero Go.wp_at_succ

theorem _root_.Go.Proofs.YtogfelpdgeionaaGreat.OrdM.join9 {P : Program} {c : Code} {Q' : Exit → Act → World → Prop} {a : Act} {w : World} {α0 α1 α2 α3 α4 α5 α6 α7 α8 : Type} {f : α0 → α1 → α2 → α3 → α4 → α5 → α6 → α7 → α8 → Act} {F : α0 → α1 → α2 → α3 → α4 → α5 → α6 → α7 → α8 → World → Prop}
    (h : c.wp P (fun e a' w' => e = Exit.normal ∧ ∃ x0, ∃ x1, ∃ x2, ∃ x3, ∃ x4, ∃ x5, ∃ x6, ∃ x7, ∃ x8, a' = f x0 x1 x2 x3 x4 x5 x6 x7 x8 ∧ F x0 x1 x2 x3 x4 x5 x6 x7 x8 w') a w) (k : ∀ x0 x1 x2 x3 x4 x5 x6 x7 x8 w', F x0 x1 x2 x3 x4 x5 x6 x7 x8 w' → Q' Exit.normal (f x0 x1 x2 x3 x4 x5 x6 x7 x8) w') : c.wp P Q' a w :=
  Code.wp_mono (fun e a' w' q => by obtain ⟨rfl, x0, x1, x2, x3, x4, x5, x6, x7, x8, rfl, q⟩ := q; exact k _ _ _ _ _ _ _ _ _ w' q) h
theorem og {w w' : World} {L : List Nat} {b : Nat} {cs : List Value} (h : CsAt w b cs) (ho : OnlyG L w w') (hb : b < w.heap.size) (hn : b ∉ L) : CsAt w' b cs :=
  ⟨fun j u hu => by rw [ho.cell b _ hb hn]; exact h.cells j u hu, fun j hj => by rw [ho.cell b _ hb hn, ho.frozen b _ hb hn]; exact h.free j hj⟩
/-- An answer, its two slices by name. -/
def DfPost (w : World) (ok : Bool) (BB : List Bk) (KK : List Int) (e : Ending) (w' : World) : Prop := ∃ f1 n1 k1 f2 n2 k2, e = .returned (.agg #[.slice f1 n1 k1, .slice f2 n2 k2]) ∧ InT w' w.heap.size w'.heap.size (.slice f1 n1 k1) (.slice f2 n2 k2) ok BB KK ∧ Below w.heap.size w w'
theorem do_form {w w' : World} {bs : List Bk} {dk : List Int} {x : Ev} {e : Ending} (h : DoPost w bs dk x e w') : DfPost w (stB bs dk) (doP bs dk x).1 (doP bs dk x).2 e w' := by
  obtain ⟨X, Y, rfl, I, b⟩ := h
  obtain ⟨f1, n1, k1, f2, n2, k2, rfl, rfl⟩ := I.form
  exact ⟨_, _, _, _, _, _, rfl, I, b⟩
/-- An answer that lies in memory of its own, beside the box A. -/
def InA (w : World) (lo0 A : Nat) (x y : Value) (ok : Bool) (BB : List Bk) (KK : List Int) : Prop := ∃ lo hi, lo0 ≤ lo ∧ lo ≤ w.heap.size ∧ hi ≤ w.heap.size ∧ lo0 ≤ A ∧ (A < lo ∨ hi ≤ A) ∧ InT w lo hi x y ok BB KK

set_option maxRecDepth 100000 in
set_option maxHeartbeats 8000000 in
theorem walk (fa0 : Option Addr) (fc0 : Nat) (zb : List Bk) (da0 : Option Addr) (dc0 : Nat) (dk0 : List Int) (x : Ev) (hx : EvOk x) (w : World) (h0 : SAt w fa0 zb da0 dk0) (fit : FitS zb dk0) :
    Calls Tryz.prog 17 #[.agg #[.slice fa0 zb.length fc0, .slice da0 dk0.length dc0], .agg #[.int .i64 x.k, .int .i64 x.a, .int .i64 x.b, .int .i64 x.c, .bool x.t]] w fun e w' => e = .returned (.bool true) ∧ Below w.heap.size w w' := by
  have B0 : Below w.heap.size w ((w.alloc (.cells #[.slice fa0 zb.length fc0, .slice da0 dk0.length dc0] 56)).alloc (.cells #[.int .i64 x.k, .int .i64 x.a, .int .i64 x.b, .int .i64 x.c, .bool x.t] 58)) := ((Below.refl _ _).alloc (Nat.le_refl _) _).alloc (by simp) _
  have cA := (CsAt.new w [.slice fa0 zb.length fc0, .slice da0 dk0.length dc0] 56).alloc (by simp) (.cells #[.int .i64 x.k, .int .i64 x.a, .int .i64 x.b, .int .i64 x.c, .bool x.t] 58)
  have cE := CsAt.new (w.alloc (.cells #[.slice fa0 zb.length fc0, .slice da0 dk0.length dc0] 56)) [.int .i64 x.k, .int .i64 x.a, .int .i64 x.b, .int .i64 x.c, .bool x.t] 58
  rw [World.size_alloc] at cE
  have s0 : w.heap.size + 1 < ((w.alloc (.cells #[.slice fa0 zb.length fc0, .slice da0 dk0.length dc0] 56)).alloc (.cells #[.int .i64 x.k, .int .i64 x.a, .int .i64 x.b, .int .i64 x.c, .bool x.t] 58)).heap.size := by simp
  have HSW := hide (show (Tryz.prog.info? 56).map (·.size) = some 2 by kernel_rfl)
  have HSE := hide (show (Tryz.prog.info? 58).map (·.size) = some 5 by kernel_rfl)
  have HSI := hide (show (Tryz.prog.info? 26).map (·.size) = some 2 by kernel_rfl)
  have HW := hide h0
  have HS := hide (szStore_any fa0 fc0 zb da0 dc0 dk0 _ (h0.below B0) fit)
  have x0 := cA.cell 0 _ rfl
  have x1 := cA.cell 1 _ rfl
  clear h0
  go_enter Tryz.func17, Tryz.ntmps17
  go_wp2_with fail
  generalize (w.alloc (.cells #[.slice fa0 zb.length fc0, .slice da0 dk0.length dc0] 56)).alloc (.cells #[.int .i64 x.k, .int .i64 x.a, .int .i64 x.b, .int .i64 x.c, .bool x.t] 58) = w0 at *
  refine (unhide HS).mono ?_
  rintro e w1 ⟨r, rfl, r0, r1, hr, b1⟩
  have cA1 := cA.below b1 (by omega)
  have cE1 := cE.below b1 s0
  have B1 := B0.trans (b1.mono B0.size)
  have s1 := Nat.lt_of_lt_of_le s0 b1.size
  clear x0 x1 cA cE B0 b1 s0 HS
  by_cases hneg : r < 0
  · clear hr
    go_wp2
    go_ret
    exact ⟨rfl, B1⟩
  obtain ⟨hl, hp, hd⟩ := hr (by omega)
  have HP := hide hp
  clear hr hp
  have HIM := hide (fun (a : Option Addr) (c : Nat) (b : Option Addr) (e : Nat) (w' : World) (h : SAt w' a zb b dk0) => (implDo_any x hx a c zb b e dk0 w' h (by omega) (by omega)).mono fun _ _ q => do_form q)
  have HSP := hide (fun (a : Option Addr) (c : Nat) (b : Option Addr) (e : Nat) (w' : World) (h : SAt w' a zb b dk0) => (specDo_any x a c zb b e dk0 w' h hl (unhide HP) hd).mono fun _ _ q => do_form q)
  generalize stB zb dk0 = ok at *
  generalize (doP zb dk0 x).1 = BB at *
  generalize (doP zb dk0 x).2 = KK at *
  go_upto_region 5 with fail
  apply OrdM.join9 (F := fun (g : Nat) (d : Nat) (f1 : Option Addr) (n1 : Nat) (k1 : Nat) (f2 : Option Addr) (n2 : Nat) (k2 : Nat) (A : Nat) w' => Kept [] w1 w' ∧ CsAt w' A [.slice f1 n1 k1, .slice f2 n2 k2] ∧ w1.heap.size ≤ w'.heap.size ∧ InT w' w1.heap.size w'.heap.size (.slice f1 n1 k1) (.slice f2 n2 k2) ok BB KK)
  case h =>
    refine wp_region_noPanic ?_
    refine wp_region_held_drew (S := fun w' => Kept [] w1 w') (by kernel_rfl) (Kept.refl _ _).drew (fun hHeld => ?_)
    generalize w1.drew = y0 at *
    have z0 := hHeld.size
    refine takeL 0 (.agg #[.slice fa0 zb.length fc0, .slice da0 dk0.length dc0]) rfl (by kernel_rfl) (by kernel_rfl) (by kernel_rfl) (fun _ _ _ h => h) (yieldsIf_load_mid rfl 56 _ rfl (w.heap.size) 0 rfl [.slice fa0 zb.length fc0, .slice da0 dk0.length dc0] _ (fun _ h => (CsAt.below cA1 (Kept.all h (by simp)) (CsAt.lt cA1 (by simp))).cells) Tryz.underlying56 rfl (unhide HSW)) hHeld ?_
    try simp only [Act.put, List.setIfInBounds_toArray, List.set_cons_zero, List.set_cons_succ]
    refine takeL 2 (.agg #[.int .i64 x.k, .int .i64 x.a, .int .i64 x.b, .int .i64 x.c, .bool x.t]) rfl (by kernel_rfl) (by kernel_rfl) (by kernel_rfl) (fun _ _ _ h => h) (yieldsIf_load_mid rfl 58 _ rfl (w.heap.size + 1) 0 rfl [.int .i64 x.k, .int .i64 x.a, .int .i64 x.b, .int .i64 x.c, .bool x.t] _ (fun _ h => (CsAt.below cE1 (Kept.all h (by simp)) (CsAt.lt cE1 (by simp))).cells) Tryz.underlying58 rfl (unhide HSE)) hHeld ?_
    try simp only [Act.put, List.setIfInBounds_toArray, List.set_cons_zero, List.set_cons_succ]
    refine OrdL.twoL 1 5 rfl rfl (by kernel_rfl) rfl rfl  (fun K hK => ?_) (fun K hK => ?_) 
    · go_simp
      refine (toStore_any fa0 fc0 zb da0 dc0 dk0 _ ((unhide HW).below (B1.trans ((Kept.all hHeld (by simp)).mono B1.size))) hl (unhide HP) hd).mono ?_
      rintro e y1 ⟨g, G, d, rfl, o2, b⟩
      go_wp2_with fail
      refine hK.out _ _ (hHeld.trans (Kept.of b)) (fun hHeld => ?_)
      clear hK K
      try simp only [Act.put, List.setIfInBounds_toArray, List.set_cons_zero, List.set_cons_succ]
      have z1 := b.size
      clear b
      refine OrdL.twoL 3 5 rfl rfl (by kernel_rfl) rfl rfl  (fun K hK => ?_) (fun K hK => ?_) 
      · go_simp
        refine (toEvent_any _ _ _ _ _ _).mono ?_
        rintro e y2 ⟨rfl, b⟩
        go_wp2_with fail
        replace o2 := o2.below b (Nat.le_refl _)
        refine hK.out _ _ (hHeld.trans (Kept.of b)) (fun hHeld => ?_)
        clear hK K
        try simp only [Act.put, List.setIfInBounds_toArray, List.set_cons_zero, List.set_cons_succ]
        have z2 := b.size
        clear b
        refine OrdL.twoL 4 5 rfl rfl (by kernel_rfl) rfl rfl  (fun K hK => ?_) (fun K hK => ?_) 
        · go_simp
          refine (unhide HSP _ _ _ _ _ o2.sat).mono ?_
          rintro e y3 ⟨f1, n1, k1, f2, n2, k2, rfl, I, b⟩
          go_wp2_with fail
          replace o2 := o2.below b (Nat.le_refl _)
          refine hK.out _ _ (hHeld.trans (Kept.of b)) (fun hHeld => ?_)
          clear hK K
          try simp only [Act.put, List.setIfInBounds_toArray, List.set_cons_zero, List.set_cons_succ]
          have z3 := b.size
          clear b
          refine oneL 5 rfl (by kernel_rfl) rfl (fun K hK => ?_)
          go_simp
          have b : Below y3.heap.size y3 (y3.alloc (.cells #[.slice none 0 0, .slice none 0 0] 26)) := (Below.refl _ _).alloc (Nat.le_refl _) _
          have cN := CsAt.new y3 [.slice none 0 0, .slice none 0 0] 26
          have lcN := hHeld.size
          replace o2 := o2.below b (Nat.le_refl _)
          replace I := InT.below I b
          refine hK.out _ _ (hHeld.trans (Kept.of b)) (fun hHeld => ?_)
          clear hK K
          try simp only [Act.put, List.setIfInBounds_toArray, List.set_cons_zero, List.set_cons_succ]
          have z4 := b.size
          generalize y3.alloc (.cells #[.slice none 0 0, .slice none 0 0] 26) = y4 at *
          generalize y3.heap.size = A at *
          clear b
          have qcN := CsAt.lt cN (by simp)
          refine oneL 6 rfl (by kernel_rfl) rfl (fun K hK => ?_)
          have pcN := cN.put [.slice f1 n1 k1, .slice f2 n2 k2] rfl
          have kz := OrdL.kcells y4 A 0 [.slice f1 n1 k1, .slice f2 n2 k2]
          refine wp_store_mid 26 _ _ rfl A 0 [.slice f1 n1 k1, .slice f2 n2 k2].toArray rfl rfl cN.free (unhide HSI) (by kernel_rfl) ?_
          refine hK.out _ _ (hHeld.then kz (fun y hy => by simp at hy; subst hy; first | (left; simp; done) | (right; omega))) (fun hHeld => ?_)
          clear hK K
          try simp only [Act.put, List.setIfInBounds_toArray, List.set_cons_zero, List.set_cons_succ]
          skip
          replace I := InT.only I (OnlyG.kept kz) (fun z hz => by simp at hz; subst hz; omega)
          have zk := kz.size
          clear cN kz
          generalize y4.setCells A 0 [.slice f1 n1 k1, .slice f2 n2 k2] = y5 at *
          have cN := pcN
          clear pcN
          refine wpAnyH_done (by kernel_rfl) ?_ _
          refine NoPanic.normal ?_
          exact ⟨rfl, g, d, f1, n1, k1, f2, n2, k2, A, rfl, hHeld, cN, hHeld.size, InT.mono I (by omega) (by omega)⟩
        · go_simp
          have b : Below y2.heap.size y2 (y2.alloc (.cells #[.slice none 0 0, .slice none 0 0] 26)) := (Below.refl _ _).alloc (Nat.le_refl _) _
          have cN := CsAt.new y2 [.slice none 0 0, .slice none 0 0] 26
          have lcN := hHeld.size
          replace o2 := o2.below b (Nat.le_refl _)
          refine hK.out _ _ (hHeld.trans (Kept.of b)) (fun hHeld => ?_)
          clear hK K
          try simp only [Act.put, List.setIfInBounds_toArray, List.set_cons_zero, List.set_cons_succ]
          have z3 := b.size
          generalize y2.alloc (.cells #[.slice none 0 0, .slice none 0 0] 26) = y3 at *
          generalize y2.heap.size = A at *
          clear b
          have qcN := CsAt.lt cN (by simp)
          refine oneL 4 rfl (by kernel_rfl) rfl (fun K hK => ?_)
          go_simp
          refine (unhide HSP _ _ _ _ _ o2.sat).mono ?_
          rintro e y4 ⟨f1, n1, k1, f2, n2, k2, rfl, I, b⟩
          go_wp2_with fail
          replace o2 := o2.below b (Nat.le_refl _)
          replace cN := CsAt.below cN b (CsAt.lt cN (by simp))
          refine hK.out _ _ (hHeld.trans (Kept.of b)) (fun hHeld => ?_)
          clear hK K
          try simp only [Act.put, List.setIfInBounds_toArray, List.set_cons_zero, List.set_cons_succ]
          have z4 := b.size
          clear b
          refine oneL 6 rfl (by kernel_rfl) rfl (fun K hK => ?_)
          have pcN := cN.put [.slice f1 n1 k1, .slice f2 n2 k2] rfl
          have kz := OrdL.kcells y4 A 0 [.slice f1 n1 k1, .slice f2 n2 k2]
          refine wp_store_mid 26 _ _ rfl A 0 [.slice f1 n1 k1, .slice f2 n2 k2].toArray rfl rfl cN.free (unhide HSI) (by kernel_rfl) ?_
          refine hK.out _ _ (hHeld.then kz (fun y hy => by simp at hy; subst hy; first | (left; simp; done) | (right; omega))) (fun hHeld => ?_)
          clear hK K
          try simp only [Act.put, List.setIfInBounds_toArray, List.set_cons_zero, List.set_cons_succ]
          skip
          replace I := InT.only I (OnlyG.kept kz) (fun z hz => by simp at hz; subst hz; omega)
          have zk := kz.size
          clear cN kz
          generalize y4.setCells A 0 [.slice f1 n1 k1, .slice f2 n2 k2] = y5 at *
          have cN := pcN
          clear pcN
          refine wpAnyH_done (by kernel_rfl) ?_ _
          refine NoPanic.normal ?_
          exact ⟨rfl, g, d, f1, n1, k1, f2, n2, k2, A, rfl, hHeld, cN, hHeld.size, InT.mono I (by omega) (by omega)⟩
      · go_simp
        have b : Below y1.heap.size y1 (y1.alloc (.cells #[.slice none 0 0, .slice none 0 0] 26)) := (Below.refl _ _).alloc (Nat.le_refl _) _
        have cN := CsAt.new y1 [.slice none 0 0, .slice none 0 0] 26
        have lcN := hHeld.size
        replace o2 := o2.below b (Nat.le_refl _)
        refine hK.out _ _ (hHeld.trans (Kept.of b)) (fun hHeld => ?_)
        clear hK K
        try simp only [Act.put, List.setIfInBounds_toArray, List.set_cons_zero, List.set_cons_succ]
        have z2 := b.size
        generalize y1.alloc (.cells #[.slice none 0 0, .slice none 0 0] 26) = y2 at *
        generalize y1.heap.size = A at *
        clear b
        have qcN := CsAt.lt cN (by simp)
        refine oneL 3 rfl (by kernel_rfl) rfl (fun K hK => ?_)
        go_simp
        refine (toEvent_any _ _ _ _ _ _).mono ?_
        rintro e y3 ⟨rfl, b⟩
        go_wp2_with fail
        replace o2 := o2.below b (Nat.le_refl _)
        replace cN := CsAt.below cN b (CsAt.lt cN (by simp))
        refine hK.out _ _ (hHeld.trans (Kept.of b)) (fun hHeld => ?_)
        clear hK K
        try simp only [Act.put, List.setIfInBounds_toArray, List.set_cons_zero, List.set_cons_succ]
        have z3 := b.size
        clear b
        refine oneL 4 rfl (by kernel_rfl) rfl (fun K hK => ?_)
        go_simp
        refine (unhide HSP _ _ _ _ _ o2.sat).mono ?_
        rintro e y4 ⟨f1, n1, k1, f2, n2, k2, rfl, I, b⟩
        go_wp2_with fail
        replace o2 := o2.below b (Nat.le_refl _)
        replace cN := CsAt.below cN b (CsAt.lt cN (by simp))
        refine hK.out _ _ (hHeld.trans (Kept.of b)) (fun hHeld => ?_)
        clear hK K
        try simp only [Act.put, List.setIfInBounds_toArray, List.set_cons_zero, List.set_cons_succ]
        have z4 := b.size
        clear b
        refine oneL 6 rfl (by kernel_rfl) rfl (fun K hK => ?_)
        have pcN := cN.put [.slice f1 n1 k1, .slice f2 n2 k2] rfl
        have kz := OrdL.kcells y4 A 0 [.slice f1 n1 k1, .slice f2 n2 k2]
        refine wp_store_mid 26 _ _ rfl A 0 [.slice f1 n1 k1, .slice f2 n2 k2].toArray rfl rfl cN.free (unhide HSI) (by kernel_rfl) ?_
        refine hK.out _ _ (hHeld.then kz (fun y hy => by simp at hy; subst hy; first | (left; simp; done) | (right; omega))) (fun hHeld => ?_)
        clear hK K
        try simp only [Act.put, List.setIfInBounds_toArray, List.set_cons_zero, List.set_cons_succ]
        skip
        replace I := InT.only I (OnlyG.kept kz) (fun z hz => by simp at hz; subst hz; omega)
        have zk := kz.size
        clear cN kz
        generalize y4.setCells A 0 [.slice f1 n1 k1, .slice f2 n2 k2] = y5 at *
        have cN := pcN
        clear pcN
        refine wpAnyH_done (by kernel_rfl) ?_ _
        refine NoPanic.normal ?_
        exact ⟨rfl, g, d, f1, n1, k1, f2, n2, k2, A, rfl, hHeld, cN, hHeld.size, InT.mono I (by omega) (by omega)⟩
    · go_simp
      have b : Below y0.heap.size y0 (y0.alloc (.cells #[.slice none 0 0, .slice none 0 0] 26)) := (Below.refl _ _).alloc (Nat.le_refl _) _
      have cN := CsAt.new y0 [.slice none 0 0, .slice none 0 0] 26
      have lcN := hHeld.size
      refine hK.out _ _ (hHeld.trans (Kept.of b)) (fun hHeld => ?_)
      clear hK K
      try simp only [Act.put, List.setIfInBounds_toArray, List.set_cons_zero, List.set_cons_succ]
      have z1 := b.size
      generalize y0.alloc (.cells #[.slice none 0 0, .slice none 0 0] 26) = y1 at *
      generalize y0.heap.size = A at *
      clear b
      have qcN := CsAt.lt cN (by simp)
      refine oneL 1 rfl (by kernel_rfl) rfl (fun K hK => ?_)
      go_simp
      refine (toStore_any fa0 fc0 zb da0 dc0 dk0 _ ((unhide HW).below (B1.trans ((Kept.all hHeld (by simp)).mono B1.size))) hl (unhide HP) hd).mono ?_
      rintro e y2 ⟨g, G, d, rfl, o2, b⟩
      go_wp2_with fail
      replace cN := CsAt.below cN b (CsAt.lt cN (by simp))
      refine hK.out _ _ (hHeld.trans (Kept.of b)) (fun hHeld => ?_)
      clear hK K
      try simp only [Act.put, List.setIfInBounds_toArray, List.set_cons_zero, List.set_cons_succ]
      have z2 := b.size
      clear b
      refine oneL 3 rfl (by kernel_rfl) rfl (fun K hK => ?_)
      go_simp
      refine (toEvent_any _ _ _ _ _ _).mono ?_
      rintro e y3 ⟨rfl, b⟩
      go_wp2_with fail
      replace cN := CsAt.below cN b (CsAt.lt cN (by simp))
      replace o2 := o2.below b (Nat.le_refl _)
      refine hK.out _ _ (hHeld.trans (Kept.of b)) (fun hHeld => ?_)
      clear hK K
      try simp only [Act.put, List.setIfInBounds_toArray, List.set_cons_zero, List.set_cons_succ]
      have z3 := b.size
      clear b
      refine oneL 4 rfl (by kernel_rfl) rfl (fun K hK => ?_)
      go_simp
      refine (unhide HSP _ _ _ _ _ o2.sat).mono ?_
      rintro e y4 ⟨f1, n1, k1, f2, n2, k2, rfl, I, b⟩
      go_wp2_with fail
      replace cN := CsAt.below cN b (CsAt.lt cN (by simp))
      replace o2 := o2.below b (Nat.le_refl _)
      refine hK.out _ _ (hHeld.trans (Kept.of b)) (fun hHeld => ?_)
      clear hK K
      try simp only [Act.put, List.setIfInBounds_toArray, List.set_cons_zero, List.set_cons_succ]
      have z4 := b.size
      clear b
      refine oneL 6 rfl (by kernel_rfl) rfl (fun K hK => ?_)
      have pcN := cN.put [.slice f1 n1 k1, .slice f2 n2 k2] rfl
      have kz := OrdL.kcells y4 A 0 [.slice f1 n1 k1, .slice f2 n2 k2]
      refine wp_store_mid 26 _ _ rfl A 0 [.slice f1 n1 k1, .slice f2 n2 k2].toArray rfl rfl cN.free (unhide HSI) (by kernel_rfl) ?_
      refine hK.out _ _ (hHeld.then kz (fun y hy => by simp at hy; subst hy; first | (left; simp; done) | (right; omega))) (fun hHeld => ?_)
      clear hK K
      try simp only [Act.put, List.setIfInBounds_toArray, List.set_cons_zero, List.set_cons_succ]
      skip
      replace I := InT.only I (OnlyG.kept kz) (fun z hz => by simp at hz; subst hz; omega)
      have zk := kz.size
      clear cN kz
      generalize y4.setCells A 0 [.slice f1 n1 k1, .slice f2 n2 k2] = y5 at *
      have cN := pcN
      clear pcN
      refine wpAnyH_done (by kernel_rfl) ?_ _
      refine NoPanic.normal ?_
      exact ⟨rfl, g, d, f1, n1, k1, f2, n2, k2, A, rfl, hHeld, cN, hHeld.size, InT.mono I (by omega) (by omega)⟩
  case k =>
    rintro gS dS f1S n1S k1S f2S n2S k2S S w3 ⟨K, cS, W9, IS⟩
    have hltS := CsAt.lt cS (by simp)
    have bK := Kept.all K (by simp)
    clear K
    have q5 := bK.size
    have cA_5 := cA1.below bK (by omega)
    have cE_5 := cE1.below bK (by omega)
    have B_5 := B1.trans (bK.mono B1.size)
    clear cA1 cE1 B1 bK
    have cA0 := cA_5.cell 0 _ rfl
    have cA1 := cA_5.cell 1 _ rfl
    go_wp2_with fail
    refine (toStore_any fa0 fc0 zb da0 dc0 dk0 _ ((unhide HW).below B_5) hl (unhide HP) hd).mono ?_
    rintro e w6 ⟨g6, G6, d6, rfl, o6, b6⟩
    clear cA0 cA1
    have hi6 : ∀ z ∈ d6 :: g6 :: G6, w3.heap.size ≤ z ∧ z < w6.heap.size := fun z hz => by
      rcases List.mem_cons.1 hz with rfl | hz
      · exact ⟨o6.dlo, o6.dhi⟩
      · exact ⟨o6.own.lo z hz, o6.own.hi z hz⟩
    have q6 := b6.size
    have cA_6 := cA_5.below b6 (by omega)
    have cE_6 := cE_5.below b6 (by omega)
    have cS_6 := cS.below b6 (by omega)
    have IS_6 := IS.below b6
    have B_6 := B_5.trans (b6.mono B_5.size)
    clear cA_5 cE_5 cS IS B_5 b6
    have bx : Below w6.heap.size w6 (w6.alloc (.cells #[.slice (some ⟨g6, 0, none⟩) zb.length zb.length, .slice (some ⟨d6, 0, none⟩) dk0.length dk0.length] 26)) := (Below.refl _ _).alloc (Nat.le_refl _) _
    have cX_n := store_box w6 (.slice (some ⟨g6, 0, none⟩) zb.length zb.length) (.slice (some ⟨d6, 0, none⟩) dk0.length dk0.length)
    have scX : (w6.alloc (.cells #[.slice (some ⟨g6, 0, none⟩) zb.length zb.length, .slice (some ⟨d6, 0, none⟩) dk0.length dk0.length] 26)).heap.size = w6.heap.size + 1 := by simp
    have q7 := bx.size
    have cA_7 := cA_6.below bx (by omega)
    have cE_7 := cE_6.below bx (by omega)
    have cS_7 := cS_6.below bx (by omega)
    have IS_7 := IS_6.below bx
    have o_7 := o6.below bx (Nat.le_refl _)
    have B_7 := B_6.trans (bx.mono B_6.size)
    clear cA_6 cE_6 cS_6 IS_6 o6 B_6 bx
    go_upto_region 7 with fail
    generalize w6.alloc (.cells #[.slice (some ⟨g6, 0, none⟩) zb.length zb.length, .slice (some ⟨d6, 0, none⟩) dk0.length dk0.length] 26) = w7 at *
    generalize w6.heap.size = X at *
    apply OrdM.join7 (F := fun (f1 : Option Addr) (n1 : Nat) (k1 : Nat) (f2 : Option Addr) (n2 : Nat) (k2 : Nat) (A : Nat) w' => Kept [] w7 w' ∧ CsAt w' A [.slice f1 n1 k1, .slice f2 n2 k2] ∧ w7.heap.size ≤ w'.heap.size ∧ InA w' w7.heap.size A (.slice f1 n1 k1) (.slice f2 n2 k2) ok BB KK)
    case h =>
      refine wp_region_noPanic ?_
      refine wp_region_held_drew (S := fun w' => Kept [] w7 w') (by kernel_rfl) (Kept.refl _ _).drew (fun hHeld => ?_)
      generalize w7.drew = y0 at *
      have z0 := hHeld.size
      refine takeL 0 (.agg #[.slice (some ⟨g6, 0, none⟩) zb.length zb.length, .slice (some ⟨d6, 0, none⟩) dk0.length dk0.length]) rfl (by kernel_rfl) (by kernel_rfl) (by kernel_rfl) (fun _ _ _ h => h) (yieldsIf_load_mid rfl 26 _ rfl (X) 0 rfl [.slice (some ⟨g6, 0, none⟩) zb.length zb.length, .slice (some ⟨d6, 0, none⟩) dk0.length dk0.length] _ (fun _ h => (CsAt.below cX_n (Kept.all h (by simp)) (CsAt.lt cX_n (by simp))).cells) Tryz.underlying26 rfl (unhide HSI)) hHeld ?_
      try simp only [Act.put, List.setIfInBounds_toArray, List.set_cons_zero, List.set_cons_succ]
      refine takeL 1 (.agg #[.int .i64 x.k, .int .i64 x.a, .int .i64 x.b, .int .i64 x.c, .bool x.t]) rfl (by kernel_rfl) (by kernel_rfl) (by kernel_rfl) (fun _ _ _ h => h) (yieldsIf_load_mid rfl 58 _ rfl (w.heap.size + 1) 0 rfl [.int .i64 x.k, .int .i64 x.a, .int .i64 x.b, .int .i64 x.c, .bool x.t] _ (fun _ h => (CsAt.below cE_7 (Kept.all h (by simp)) (CsAt.lt cE_7 (by simp))).cells) Tryz.underlying58 rfl (unhide HSE)) hHeld ?_
      try simp only [Act.put, List.setIfInBounds_toArray, List.set_cons_zero, List.set_cons_succ]
      refine OrdL.twoL 2 4 rfl rfl (by kernel_rfl) rfl rfl  (fun K hK => ?_) (fun K hK => ?_) 
      · go_simp
        refine (toEvent_any _ _ _ _ _ _).mono ?_
        rintro e y1 ⟨rfl, b⟩
        go_wp2_with fail
        refine hK.out _ _ (hHeld.trans (Kept.of b)) (fun hHeld => ?_)
        clear hK K
        try simp only [Act.put, List.setIfInBounds_toArray, List.set_cons_zero, List.set_cons_succ]
        have z1 := b.size
        clear b
        refine OrdL.twoL 3 4 rfl rfl (by kernel_rfl) rfl rfl  (fun K hK => ?_) (fun K hK => ?_) 
        · go_simp
          refine (unhide HIM _ _ _ _ _ (o_7.below (Kept.all hHeld (by simp)) (Nat.le_refl _)).sat).mono ?_
          rintro e y2 ⟨f1, n1, k1, f2, n2, k2, rfl, I, b⟩
          go_wp2_with fail
          refine hK.out _ _ (hHeld.trans (Kept.of b)) (fun hHeld => ?_)
          clear hK K
          try simp only [Act.put, List.setIfInBounds_toArray, List.set_cons_zero, List.set_cons_succ]
          have z2 := b.size
          clear b
          refine oneL 4 rfl (by kernel_rfl) rfl (fun K hK => ?_)
          go_simp
          have b : Below y2.heap.size y2 (y2.alloc (.cells #[.slice none 0 0, .slice none 0 0] 26)) := (Below.refl _ _).alloc (Nat.le_refl _) _
          have cN := CsAt.new y2 [.slice none 0 0, .slice none 0 0] 26
          have lcN := hHeld.size
          replace I := InT.below I b
          refine hK.out _ _ (hHeld.trans (Kept.of b)) (fun hHeld => ?_)
          clear hK K
          try simp only [Act.put, List.setIfInBounds_toArray, List.set_cons_zero, List.set_cons_succ]
          have z3 := b.size
          generalize y2.alloc (.cells #[.slice none 0 0, .slice none 0 0] 26) = y3 at *
          generalize y2.heap.size = A at *
          clear b
          have qcN := CsAt.lt cN (by simp)
          refine oneL 5 rfl (by kernel_rfl) rfl (fun K hK => ?_)
          have pcN := cN.put [.slice f1 n1 k1, .slice f2 n2 k2] rfl
          have kz := OrdL.kcells y3 A 0 [.slice f1 n1 k1, .slice f2 n2 k2]
          refine wp_store_mid 26 _ _ rfl A 0 [.slice f1 n1 k1, .slice f2 n2 k2].toArray rfl rfl cN.free (unhide HSI) (by kernel_rfl) ?_
          refine hK.out _ _ (hHeld.then kz (fun y hy => by simp at hy; subst hy; first | (left; simp; done) | (right; omega))) (fun hHeld => ?_)
          clear hK K
          try simp only [Act.put, List.setIfInBounds_toArray, List.set_cons_zero, List.set_cons_succ]
          replace I := InT.only I (OnlyG.kept kz) (fun z hz => by simp at hz; subst hz; omega)
          have zk := kz.size
          clear cN kz
          generalize y3.setCells A 0 [.slice f1 n1 k1, .slice f2 n2 k2] = y4 at *
          have cN := pcN
          clear pcN
          refine wpAnyH_done (by kernel_rfl) ?_ _
          refine NoPanic.normal ?_
          exact ⟨rfl, f1, n1, k1, f2, n2, k2, A, rfl, hHeld, cN, hHeld.size, ⟨_, _, by omega, by omega, by omega, by omega, by omega, I⟩⟩
        · go_simp
          have b : Below y1.heap.size y1 (y1.alloc (.cells #[.slice none 0 0, .slice none 0 0] 26)) := (Below.refl _ _).alloc (Nat.le_refl _) _
          have cN := CsAt.new y1 [.slice none 0 0, .slice none 0 0] 26
          have lcN := hHeld.size
          refine hK.out _ _ (hHeld.trans (Kept.of b)) (fun hHeld => ?_)
          clear hK K
          try simp only [Act.put, List.setIfInBounds_toArray, List.set_cons_zero, List.set_cons_succ]
          have z2 := b.size
          generalize y1.alloc (.cells #[.slice none 0 0, .slice none 0 0] 26) = y2 at *
          generalize y1.heap.size = A at *
          clear b
          have qcN := CsAt.lt cN (by simp)
          refine oneL 3 rfl (by kernel_rfl) rfl (fun K hK => ?_)
          go_simp
          refine (unhide HIM _ _ _ _ _ (o_7.below (Kept.all hHeld (by simp)) (Nat.le_refl _)).sat).mono ?_
          rintro e y3 ⟨f1, n1, k1, f2, n2, k2, rfl, I, b⟩
          go_wp2_with fail
          replace cN := CsAt.below cN b (CsAt.lt cN (by simp))
          refine hK.out _ _ (hHeld.trans (Kept.of b)) (fun hHeld => ?_)
          clear hK K
          try simp only [Act.put, List.setIfInBounds_toArray, List.set_cons_zero, List.set_cons_succ]
          have z3 := b.size
          clear b
          refine oneL 5 rfl (by kernel_rfl) rfl (fun K hK => ?_)
          have pcN := cN.put [.slice f1 n1 k1, .slice f2 n2 k2] rfl
          have kz := OrdL.kcells y3 A 0 [.slice f1 n1 k1, .slice f2 n2 k2]
          refine wp_store_mid 26 _ _ rfl A 0 [.slice f1 n1 k1, .slice f2 n2 k2].toArray rfl rfl cN.free (unhide HSI) (by kernel_rfl) ?_
          refine hK.out _ _ (hHeld.then kz (fun y hy => by simp at hy; subst hy; first | (left; simp; done) | (right; omega))) (fun hHeld => ?_)
          clear hK K
          try simp only [Act.put, List.setIfInBounds_toArray, List.set_cons_zero, List.set_cons_succ]
          replace I := InT.only I (OnlyG.kept kz) (fun z hz => by simp at hz; subst hz; omega)
          have zk := kz.size
          clear cN kz
          generalize y3.setCells A 0 [.slice f1 n1 k1, .slice f2 n2 k2] = y4 at *
          have cN := pcN
          clear pcN
          refine wpAnyH_done (by kernel_rfl) ?_ _
          refine NoPanic.normal ?_
          exact ⟨rfl, f1, n1, k1, f2, n2, k2, A, rfl, hHeld, cN, hHeld.size, ⟨_, _, by omega, by omega, by omega, by omega, by omega, I⟩⟩
      · go_simp
        have b : Below y0.heap.size y0 (y0.alloc (.cells #[.slice none 0 0, .slice none 0 0] 26)) := (Below.refl _ _).alloc (Nat.le_refl _) _
        have cN := CsAt.new y0 [.slice none 0 0, .slice none 0 0] 26
        have lcN := hHeld.size
        refine hK.out _ _ (hHeld.trans (Kept.of b)) (fun hHeld => ?_)
        clear hK K
        try simp only [Act.put, List.setIfInBounds_toArray, List.set_cons_zero, List.set_cons_succ]
        have z1 := b.size
        generalize y0.alloc (.cells #[.slice none 0 0, .slice none 0 0] 26) = y1 at *
        generalize y0.heap.size = A at *
        clear b
        have qcN := CsAt.lt cN (by simp)
        refine oneL 2 rfl (by kernel_rfl) rfl (fun K hK => ?_)
        go_simp
        refine (toEvent_any _ _ _ _ _ _).mono ?_
        rintro e y2 ⟨rfl, b⟩
        go_wp2_with fail
        replace cN := CsAt.below cN b (CsAt.lt cN (by simp))
        refine hK.out _ _ (hHeld.trans (Kept.of b)) (fun hHeld => ?_)
        clear hK K
        try simp only [Act.put, List.setIfInBounds_toArray, List.set_cons_zero, List.set_cons_succ]
        have z2 := b.size
        clear b
        refine oneL 3 rfl (by kernel_rfl) rfl (fun K hK => ?_)
        go_simp
        refine (unhide HIM _ _ _ _ _ (o_7.below (Kept.all hHeld (by simp)) (Nat.le_refl _)).sat).mono ?_
        rintro e y3 ⟨f1, n1, k1, f2, n2, k2, rfl, I, b⟩
        go_wp2_with fail
        replace cN := CsAt.below cN b (CsAt.lt cN (by simp))
        refine hK.out _ _ (hHeld.trans (Kept.of b)) (fun hHeld => ?_)
        clear hK K
        try simp only [Act.put, List.setIfInBounds_toArray, List.set_cons_zero, List.set_cons_succ]
        have z3 := b.size
        clear b
        refine oneL 5 rfl (by kernel_rfl) rfl (fun K hK => ?_)
        have pcN := cN.put [.slice f1 n1 k1, .slice f2 n2 k2] rfl
        have kz := OrdL.kcells y3 A 0 [.slice f1 n1 k1, .slice f2 n2 k2]
        refine wp_store_mid 26 _ _ rfl A 0 [.slice f1 n1 k1, .slice f2 n2 k2].toArray rfl rfl cN.free (unhide HSI) (by kernel_rfl) ?_
        refine hK.out _ _ (hHeld.then kz (fun y hy => by simp at hy; subst hy; first | (left; simp; done) | (right; omega))) (fun hHeld => ?_)
        clear hK K
        try simp only [Act.put, List.setIfInBounds_toArray, List.set_cons_zero, List.set_cons_succ]
        replace I := InT.only I (OnlyG.kept kz) (fun z hz => by simp at hz; subst hz; omega)
        have zk := kz.size
        clear cN kz
        generalize y3.setCells A 0 [.slice f1 n1 k1, .slice f2 n2 k2] = y4 at *
        have cN := pcN
        clear pcN
        refine wpAnyH_done (by kernel_rfl) ?_ _
        refine NoPanic.normal ?_
        exact ⟨rfl, f1, n1, k1, f2, n2, k2, A, rfl, hHeld, cN, hHeld.size, ⟨_, _, by omega, by omega, by omega, by omega, by omega, I⟩⟩
    case k =>
      rintro f1Y n1Y k1Y f2Y n2Y k2Y Y w9 ⟨K, cY, W9, IY⟩
      obtain ⟨lo2, hi2, hlo2, hls2, hhi2, hY7, hAY, I2⟩ := IY
      have hltY := CsAt.lt cY (by simp)
      have bK := Kept.all K (by simp)
      clear K
      have q8 := bK.size
      have cA_8 := cA_7.below bK (by omega)
      have cE_8 := cE_7.below bK (by omega)
      have cS_8 := cS_7.below bK (by omega)
      have cX_8 := cX_n.below bK (by omega)
      have IS_8 := IS_7.below bK
      have o_8 := o_7.below bK (Nat.le_refl _)
      have B_8 := B_7.trans (bK.mono B_7.size)
      clear cA_7 cE_7 cS_7 cX_n IS_7 o_7 B_7 bK
      have cS0 := cS_8.cell 0 _ rfl
      have cS1 := cS_8.cell 1 _ rfl
      have cY0 := cY.cell 0 _ rfl
      have cY1 := cY.cell 1 _ rfl
      go_wp2_with fail
      refine (eqT I2 IS_8).mono ?_
      rintro e w11 ⟨rfl, b11⟩
      clear cS0 cS1 cY0 cY1
      have q9 := b11.size
      have cA_9 := cA_8.below b11 (by omega)
      have cE_9 := cE_8.below b11 (by omega)
      have cS_9 := cS_8.below b11 (by omega)
      have cX_9 := cX_8.below b11 (by omega)
      have cY_9 := cY.below b11 (by omega)
      have IS_9 := IS_8.below b11
      have I2_9 := I2.below b11
      have o_9 := o_8.below b11 (Nat.le_refl _)
      have B_9 := B_8.trans (b11.mono B_8.size)
      clear cA_8 cE_8 cS_8 cX_8 cY IS_8 I2 o_8 B_8 b11
      go_upto_region 10 with fail
      refine wp_region_noPanic ?_
      refine wp_region_held_drew (S := fun w' => Below w11.heap.size w11 w') (by kernel_rfl) ((Below.refl _ _).drew) (fun hHeld => ?_)
      refine takeL 0 (.agg #[.slice (some ⟨g6, 0, none⟩) zb.length zb.length, .slice (some ⟨d6, 0, none⟩) dk0.length dk0.length]) rfl (by kernel_rfl) (by kernel_rfl) (by kernel_rfl) (fun _ _ _ h => h) (Or.inl ⟨rfl, fun w9 hSw => by have hx0 := (cX_9.below hSw (by omega)).cell 0 _ rfl; have hx1 := (cX_9.below hSw (by omega)).cell 1 _ rfl; go_simp⟩) hHeld ?_
      try simp only [Act.put, List.setIfInBounds_toArray, List.set_cons_zero, List.set_cons_succ]
      refine takeL 1 (.agg #[.slice fa0 zb.length fc0, .slice da0 dk0.length dc0]) rfl (by kernel_rfl) (by kernel_rfl) (by kernel_rfl) (fun _ _ _ h => h) (Or.inl ⟨rfl, fun w9 hSw => by have hx0 := (cA_9.below hSw (by omega)).cell 0 _ rfl; have hx1 := (cA_9.below hSw (by omega)).cell 1 _ rfl; go_simp⟩) hHeld ?_
      try simp only [Act.put, List.setIfInBounds_toArray, List.set_cons_zero, List.set_cons_succ]
      refine oneL 2 rfl (by kernel_rfl) rfl (fun K hK => ?_)
      go_simp
      refine (toStore_any fa0 fc0 zb da0 dc0 dk0 _ ((unhide HW).below B_9.drew) hl (unhide HP) hd).mono ?_
      rintro e w12 ⟨g12, G12, d12, rfl, o12, b12⟩
      go_wp2_with fail
      have bb : Below w11.heap.size w11 w12 := hHeld.trans b12
      refine hK.out _ _ bb (fun hHeld => ?_)
      clear hK K
      try simp only [Act.put, List.setIfInBounds_toArray, List.set_cons_zero, List.set_cons_succ]
      refine oneL 3 rfl (by kernel_rfl) rfl (fun K hK => ?_)
      go_simp
      refine (eqStore_any _ _ _ _ _ _ _ _ zb dk0 _ (o_9.below bb (Nat.le_refl _)).sat o12.sat hl (unhide HP) hd).mono ?_
      rintro e w13 ⟨rfl, b13⟩
      go_wp2_with fail
      have bz : Below w11.heap.size w11 w13 := bb.trans (b13.mono bb.size)
      refine hK.out _ _ bz (fun hHeld => ?_)
      clear hK K
      try simp only [Act.put, List.setIfInBounds_toArray, List.set_cons_zero, List.set_cons_succ]
      refine takeL 4 (.bool false) rfl (by kernel_rfl) (by kernel_rfl) (by kernel_rfl) (fun _ _ _ h => h) (Or.inl ⟨rfl, fun w9 hSw => by go_simp⟩) hHeld ?_
      try simp only [Act.put, List.setIfInBounds_toArray, List.set_cons_zero, List.set_cons_succ]
      refine wpAnyH_done (by kernel_rfl) ?_ _
      refine NoPanic.normal ?_
      clear hHeld bb b12 b13 o12
      have q10 := bz.size
      have cA_10 := cA_9.below bz (by omega)
      have cE_10 := cE_9.below bz (by omega)
      have cS_10 := cS_9.below bz (by omega)
      have cX_10 := cX_9.below bz (by omega)
      have cY_10 := cY_9.below bz (by omega)
      have IS_10 := IS_9.below bz
      have I2_10 := I2_9.below bz
      have o_10 := o_9.below bz (Nat.le_refl _)
      have B_10 := B_9.trans (bz.mono B_9.size)
      clear cA_9 cE_9 cS_9 cX_9 cY_9 IS_9 I2_9 o_9 B_9 bz
      have cX0 := cX_10.cell 0 _ rfl
      have cX1 := cX_10.cell 1 _ rfl
      go_wp2_with fail
      refine (markB_any w3.heap.size g6 d6 _ _ G6 zb dk0 w13 (by omega) o_10 hl (unhide HP) hd).mono ?_
      rintro e w16 ⟨m, rfl, hm0, hm1, y16, b16⟩
      clear cX0 cX1
      have q11 := y16.size
      have cA_11 := og cA_10 y16 (by omega) (fun hm => by have := hi6 _ hm; omega)
      have cE_11 := og cE_10 y16 (by omega) (fun hm => by have := hi6 _ hm; omega)
      have cS_11 := og cS_10 y16 (by omega) (fun hm => by have := hi6 _ hm; omega)
      have cY_11 := og cY_10 y16 (by omega) (fun hm => by have := hi6 _ hm; omega)
      have IS_11 := IS_10.only y16 (fun z hz => .inr (by have := hi6 z hz; omega))
      have I2_11 := I2_10.only y16 (fun z hz => .inl (by have := hi6 z hz; omega))
      have B_11 := B_10.trans (b16.mono (by omega))
      clear cA_10 cE_10 cS_10 cX_10 cY_10 IS_10 I2_10 o_10 B_10 y16 b16
      have hmn : ¬ m < 0 := by omega
      have cS0 := cS_11.cell 0 _ rfl
      have cS1 := cS_11.cell 1 _ rfl
      have cY0 := cY_11.cell 0 _ rfl
      have cY1 := cY_11.cell 1 _ rfl
      go_wp2_with fail
      refine (eqT I2_11 IS_11).mono ?_
      rintro e w18 ⟨rfl, b18⟩
      clear cS0 cS1 cY0 cY1
      have q12 := b18.size
      have cA_12 := cA_11.below b18 (by omega)
      have cE_12 := cE_11.below b18 (by omega)
      have cS_12 := cS_11.below b18 (by omega)
      have cY_12 := cY_11.below b18 (by omega)
      have IS_12 := IS_11.below b18
      have I2_12 := I2_11.below b18
      have B_12 := B_11.trans (b18.mono B_11.size)
      clear cA_11 cE_11 cS_11 cY_11 IS_11 I2_11 B_11 b18
      have cY0 := cY_12.cell 0 _ rfl
      have cY1 := cY_12.cell 1 _ rfl
      go_wp2_with fail
      refine (markT (by omega) I2_12).mono ?_
      rintro e w19 ⟨rfl, J2, M, y19, b19, hM⟩
      clear cY0 cY1
      have q13 := y19.size
      have cA_13 := og cA_12 y19 (by omega) (fun hm => by have := hM _ hm; omega)
      have cE_13 := og cE_12 y19 (by omega) (fun hm => by have := hM _ hm; omega)
      have cS_13 := og cS_12 y19 (by omega) (fun hm => by have := hM _ hm; omega)
      have cY_13 := og cY_12 y19 (by omega) (fun hm => by have := hM _ hm; omega)
      have IS_13 := IS_12.only y19 (fun z hz => .inr (by have := hM z hz; omega))
      have B_13 := B_12.trans (b19.mono (by omega))
      clear cA_12 cE_12 cS_12 cY_12 IS_12 I2_12 B_12 y19 b19
      have hmt : ¬ mT ok < 0 := by unfold mT; cases ok <;> simp
      have hmq : (mT ok != mT ok) = false := by simp
      have cY0 := cY_13.cell 0 _ rfl
      have cY1 := cY_13.cell 1 _ rfl
      go_wp2_with fail
      refine (heldT J2).mono ?_
      rintro e w20 ⟨rfl, b20⟩
      clear cY0 cY1
      have q14 := b20.size
      have cA_14 := cA_13.below b20 (by omega)
      have cE_14 := cE_13.below b20 (by omega)
      have cS_14 := cS_13.below b20 (by omega)
      have cY_14 := cY_13.below b20 (by omega)
      have IS_14 := IS_13.below b20
      have J2_14 := J2.below b20
      have B_14 := B_13.trans (b20.mono B_13.size)
      clear cA_13 cE_13 cS_13 cY_13 IS_13 J2 B_13 b20
      go_upto_region 24 with fail
      apply OrdM.join9 (F := fun (g : Nat) (d : Nat) (f1 : Option Addr) (n1 : Nat) (k1 : Nat) (f2 : Option Addr) (n2 : Nat) (k2 : Nat) (A : Nat) w' => Kept [] w20 w' ∧ CsAt w' A [.slice f1 n1 k1, .slice f2 n2 k2] ∧ w20.heap.size ≤ w'.heap.size ∧ InT w' w20.heap.size w'.heap.size (.slice f1 n1 k1) (.slice f2 n2 k2) ok BB KK)
      case h =>
        refine wp_region_noPanic ?_
        refine wp_region_held_drew (S := fun w' => Kept [] w20 w') (by kernel_rfl) (Kept.refl _ _).drew (fun hHeld => ?_)
        generalize w20.drew = y0 at *
        have z0 := hHeld.size
        refine takeL 0 (.agg #[.slice fa0 zb.length fc0, .slice da0 dk0.length dc0]) rfl (by kernel_rfl) (by kernel_rfl) (by kernel_rfl) (fun _ _ _ h => h) (yieldsIf_load_mid rfl 56 _ rfl (w.heap.size) 0 rfl [.slice fa0 zb.length fc0, .slice da0 dk0.length dc0] _ (fun _ h => (CsAt.below cA_14 (Kept.all h (by simp)) (CsAt.lt cA_14 (by simp))).cells) Tryz.underlying56 rfl (unhide HSW)) hHeld ?_
        try simp only [Act.put, List.setIfInBounds_toArray, List.set_cons_zero, List.set_cons_succ]
        refine takeL 2 (.agg #[.int .i64 x.k, .int .i64 x.a, .int .i64 x.b, .int .i64 x.c, .bool x.t]) rfl (by kernel_rfl) (by kernel_rfl) (by kernel_rfl) (fun _ _ _ h => h) (yieldsIf_load_mid rfl 58 _ rfl (w.heap.size + 1) 0 rfl [.int .i64 x.k, .int .i64 x.a, .int .i64 x.b, .int .i64 x.c, .bool x.t] _ (fun _ h => (CsAt.below cE_14 (Kept.all h (by simp)) (CsAt.lt cE_14 (by simp))).cells) Tryz.underlying58 rfl (unhide HSE)) hHeld ?_
        try simp only [Act.put, List.setIfInBounds_toArray, List.set_cons_zero, List.set_cons_succ]
        refine OrdL.twoL 1 5 rfl rfl (by kernel_rfl) rfl rfl  (fun K hK => ?_) (fun K hK => ?_) 
        · go_simp
          refine (toStore_any fa0 fc0 zb da0 dc0 dk0 _ ((unhide HW).below (B_14.trans ((Kept.all hHeld (by simp)).mono B_14.size))) hl (unhide HP) hd).mono ?_
          rintro e y1 ⟨g, G, d, rfl, o2, b⟩
          go_wp2_with fail
          refine hK.out _ _ (hHeld.trans (Kept.of b)) (fun hHeld => ?_)
          clear hK K
          try simp only [Act.put, List.setIfInBounds_toArray, List.set_cons_zero, List.set_cons_succ]
          have z1 := b.size
          clear b
          refine OrdL.twoL 3 5 rfl rfl (by kernel_rfl) rfl rfl  (fun K hK => ?_) (fun K hK => ?_) 
          · go_simp
            refine (toEvent_any _ _ _ _ _ _).mono ?_
            rintro e y2 ⟨rfl, b⟩
            go_wp2_with fail
            replace o2 := o2.below b (Nat.le_refl _)
            refine hK.out _ _ (hHeld.trans (Kept.of b)) (fun hHeld => ?_)
            clear hK K
            try simp only [Act.put, List.setIfInBounds_toArray, List.set_cons_zero, List.set_cons_succ]
            have z2 := b.size
            clear b
            refine OrdL.twoL 4 5 rfl rfl (by kernel_rfl) rfl rfl  (fun K hK => ?_) (fun K hK => ?_) 
            · go_simp
              refine (unhide HIM _ _ _ _ _ o2.sat).mono ?_
              rintro e y3 ⟨f1, n1, k1, f2, n2, k2, rfl, I, b⟩
              go_wp2_with fail
              replace o2 := o2.below b (Nat.le_refl _)
              refine hK.out _ _ (hHeld.trans (Kept.of b)) (fun hHeld => ?_)
              clear hK K
              try simp only [Act.put, List.setIfInBounds_toArray, List.set_cons_zero, List.set_cons_succ]
              have z3 := b.size
              clear b
              refine oneL 5 rfl (by kernel_rfl) rfl (fun K hK => ?_)
              go_simp
              have b : Below y3.heap.size y3 (y3.alloc (.cells #[.slice none 0 0, .slice none 0 0] 26)) := (Below.refl _ _).alloc (Nat.le_refl _) _
              have cN := CsAt.new y3 [.slice none 0 0, .slice none 0 0] 26
              have lcN := hHeld.size
              replace o2 := o2.below b (Nat.le_refl _)
              replace I := InT.below I b
              refine hK.out _ _ (hHeld.trans (Kept.of b)) (fun hHeld => ?_)
              clear hK K
              try simp only [Act.put, List.setIfInBounds_toArray, List.set_cons_zero, List.set_cons_succ]
              have z4 := b.size
              generalize y3.alloc (.cells #[.slice none 0 0, .slice none 0 0] 26) = y4 at *
              generalize y3.heap.size = A at *
              clear b
              have qcN := CsAt.lt cN (by simp)
              refine oneL 6 rfl (by kernel_rfl) rfl (fun K hK => ?_)
              have pcN := cN.put [.slice f1 n1 k1, .slice f2 n2 k2] rfl
              have kz := OrdL.kcells y4 A 0 [.slice f1 n1 k1, .slice f2 n2 k2]
              refine wp_store_mid 26 _ _ rfl A 0 [.slice f1 n1 k1, .slice f2 n2 k2].toArray rfl rfl cN.free (unhide HSI) (by kernel_rfl) ?_
              refine hK.out _ _ (hHeld.then kz (fun y hy => by simp at hy; subst hy; first | (left; simp; done) | (right; omega))) (fun hHeld => ?_)
              clear hK K
              try simp only [Act.put, List.setIfInBounds_toArray, List.set_cons_zero, List.set_cons_succ]
              skip
              replace I := InT.only I (OnlyG.kept kz) (fun z hz => by simp at hz; subst hz; omega)
              have zk := kz.size
              clear cN kz
              generalize y4.setCells A 0 [.slice f1 n1 k1, .slice f2 n2 k2] = y5 at *
              have cN := pcN
              clear pcN
              refine wpAnyH_done (by kernel_rfl) ?_ _
              refine NoPanic.normal ?_
              exact ⟨rfl, g, d, f1, n1, k1, f2, n2, k2, A, rfl, hHeld, cN, hHeld.size, InT.mono I (by omega) (by omega)⟩
            · go_simp
              have b : Below y2.heap.size y2 (y2.alloc (.cells #[.slice none 0 0, .slice none 0 0] 26)) := (Below.refl _ _).alloc (Nat.le_refl _) _
              have cN := CsAt.new y2 [.slice none 0 0, .slice none 0 0] 26
              have lcN := hHeld.size
              replace o2 := o2.below b (Nat.le_refl _)
              refine hK.out _ _ (hHeld.trans (Kept.of b)) (fun hHeld => ?_)
              clear hK K
              try simp only [Act.put, List.setIfInBounds_toArray, List.set_cons_zero, List.set_cons_succ]
              have z3 := b.size
              generalize y2.alloc (.cells #[.slice none 0 0, .slice none 0 0] 26) = y3 at *
              generalize y2.heap.size = A at *
              clear b
              have qcN := CsAt.lt cN (by simp)
              refine oneL 4 rfl (by kernel_rfl) rfl (fun K hK => ?_)
              go_simp
              refine (unhide HIM _ _ _ _ _ o2.sat).mono ?_
              rintro e y4 ⟨f1, n1, k1, f2, n2, k2, rfl, I, b⟩
              go_wp2_with fail
              replace o2 := o2.below b (Nat.le_refl _)
              replace cN := CsAt.below cN b (CsAt.lt cN (by simp))
              refine hK.out _ _ (hHeld.trans (Kept.of b)) (fun hHeld => ?_)
              clear hK K
              try simp only [Act.put, List.setIfInBounds_toArray, List.set_cons_zero, List.set_cons_succ]
              have z4 := b.size
              clear b
              refine oneL 6 rfl (by kernel_rfl) rfl (fun K hK => ?_)
              have pcN := cN.put [.slice f1 n1 k1, .slice f2 n2 k2] rfl
              have kz := OrdL.kcells y4 A 0 [.slice f1 n1 k1, .slice f2 n2 k2]
              refine wp_store_mid 26 _ _ rfl A 0 [.slice f1 n1 k1, .slice f2 n2 k2].toArray rfl rfl cN.free (unhide HSI) (by kernel_rfl) ?_
              refine hK.out _ _ (hHeld.then kz (fun y hy => by simp at hy; subst hy; first | (left; simp; done) | (right; omega))) (fun hHeld => ?_)
              clear hK K
              try simp only [Act.put, List.setIfInBounds_toArray, List.set_cons_zero, List.set_cons_succ]
              skip
              replace I := InT.only I (OnlyG.kept kz) (fun z hz => by simp at hz; subst hz; omega)
              have zk := kz.size
              clear cN kz
              generalize y4.setCells A 0 [.slice f1 n1 k1, .slice f2 n2 k2] = y5 at *
              have cN := pcN
              clear pcN
              refine wpAnyH_done (by kernel_rfl) ?_ _
              refine NoPanic.normal ?_
              exact ⟨rfl, g, d, f1, n1, k1, f2, n2, k2, A, rfl, hHeld, cN, hHeld.size, InT.mono I (by omega) (by omega)⟩
          · go_simp
            have b : Below y1.heap.size y1 (y1.alloc (.cells #[.slice none 0 0, .slice none 0 0] 26)) := (Below.refl _ _).alloc (Nat.le_refl _) _
            have cN := CsAt.new y1 [.slice none 0 0, .slice none 0 0] 26
            have lcN := hHeld.size
            replace o2 := o2.below b (Nat.le_refl _)
            refine hK.out _ _ (hHeld.trans (Kept.of b)) (fun hHeld => ?_)
            clear hK K
            try simp only [Act.put, List.setIfInBounds_toArray, List.set_cons_zero, List.set_cons_succ]
            have z2 := b.size
            generalize y1.alloc (.cells #[.slice none 0 0, .slice none 0 0] 26) = y2 at *
            generalize y1.heap.size = A at *
            clear b
            have qcN := CsAt.lt cN (by simp)
            refine oneL 3 rfl (by kernel_rfl) rfl (fun K hK => ?_)
            go_simp
            refine (toEvent_any _ _ _ _ _ _).mono ?_
            rintro e y3 ⟨rfl, b⟩
            go_wp2_with fail
            replace o2 := o2.below b (Nat.le_refl _)
            replace cN := CsAt.below cN b (CsAt.lt cN (by simp))
            refine hK.out _ _ (hHeld.trans (Kept.of b)) (fun hHeld => ?_)
            clear hK K
            try simp only [Act.put, List.setIfInBounds_toArray, List.set_cons_zero, List.set_cons_succ]
            have z3 := b.size
            clear b
            refine oneL 4 rfl (by kernel_rfl) rfl (fun K hK => ?_)
            go_simp
            refine (unhide HIM _ _ _ _ _ o2.sat).mono ?_
            rintro e y4 ⟨f1, n1, k1, f2, n2, k2, rfl, I, b⟩
            go_wp2_with fail
            replace o2 := o2.below b (Nat.le_refl _)
            replace cN := CsAt.below cN b (CsAt.lt cN (by simp))
            refine hK.out _ _ (hHeld.trans (Kept.of b)) (fun hHeld => ?_)
            clear hK K
            try simp only [Act.put, List.setIfInBounds_toArray, List.set_cons_zero, List.set_cons_succ]
            have z4 := b.size
            clear b
            refine oneL 6 rfl (by kernel_rfl) rfl (fun K hK => ?_)
            have pcN := cN.put [.slice f1 n1 k1, .slice f2 n2 k2] rfl
            have kz := OrdL.kcells y4 A 0 [.slice f1 n1 k1, .slice f2 n2 k2]
            refine wp_store_mid 26 _ _ rfl A 0 [.slice f1 n1 k1, .slice f2 n2 k2].toArray rfl rfl cN.free (unhide HSI) (by kernel_rfl) ?_
            refine hK.out _ _ (hHeld.then kz (fun y hy => by simp at hy; subst hy; first | (left; simp; done) | (right; omega))) (fun hHeld => ?_)
            clear hK K
            try simp only [Act.put, List.setIfInBounds_toArray, List.set_cons_zero, List.set_cons_succ]
            skip
            replace I := InT.only I (OnlyG.kept kz) (fun z hz => by simp at hz; subst hz; omega)
            have zk := kz.size
            clear cN kz
            generalize y4.setCells A 0 [.slice f1 n1 k1, .slice f2 n2 k2] = y5 at *
            have cN := pcN
            clear pcN
            refine wpAnyH_done (by kernel_rfl) ?_ _
            refine NoPanic.normal ?_
            exact ⟨rfl, g, d, f1, n1, k1, f2, n2, k2, A, rfl, hHeld, cN, hHeld.size, InT.mono I (by omega) (by omega)⟩
        · go_simp
          have b : Below y0.heap.size y0 (y0.alloc (.cells #[.slice none 0 0, .slice none 0 0] 26)) := (Below.refl _ _).alloc (Nat.le_refl _) _
          have cN := CsAt.new y0 [.slice none 0 0, .slice none 0 0] 26
          have lcN := hHeld.size
          refine hK.out _ _ (hHeld.trans (Kept.of b)) (fun hHeld => ?_)
          clear hK K
          try simp only [Act.put, List.setIfInBounds_toArray, List.set_cons_zero, List.set_cons_succ]
          have z1 := b.size
          generalize y0.alloc (.cells #[.slice none 0 0, .slice none 0 0] 26) = y1 at *
          generalize y0.heap.size = A at *
          clear b
          have qcN := CsAt.lt cN (by simp)
          refine oneL 1 rfl (by kernel_rfl) rfl (fun K hK => ?_)
          go_simp
          refine (toStore_any fa0 fc0 zb da0 dc0 dk0 _ ((unhide HW).below (B_14.trans ((Kept.all hHeld (by simp)).mono B_14.size))) hl (unhide HP) hd).mono ?_
          rintro e y2 ⟨g, G, d, rfl, o2, b⟩
          go_wp2_with fail
          replace cN := CsAt.below cN b (CsAt.lt cN (by simp))
          refine hK.out _ _ (hHeld.trans (Kept.of b)) (fun hHeld => ?_)
          clear hK K
          try simp only [Act.put, List.setIfInBounds_toArray, List.set_cons_zero, List.set_cons_succ]
          have z2 := b.size
          clear b
          refine oneL 3 rfl (by kernel_rfl) rfl (fun K hK => ?_)
          go_simp
          refine (toEvent_any _ _ _ _ _ _).mono ?_
          rintro e y3 ⟨rfl, b⟩
          go_wp2_with fail
          replace cN := CsAt.below cN b (CsAt.lt cN (by simp))
          replace o2 := o2.below b (Nat.le_refl _)
          refine hK.out _ _ (hHeld.trans (Kept.of b)) (fun hHeld => ?_)
          clear hK K
          try simp only [Act.put, List.setIfInBounds_toArray, List.set_cons_zero, List.set_cons_succ]
          have z3 := b.size
          clear b
          refine oneL 4 rfl (by kernel_rfl) rfl (fun K hK => ?_)
          go_simp
          refine (unhide HIM _ _ _ _ _ o2.sat).mono ?_
          rintro e y4 ⟨f1, n1, k1, f2, n2, k2, rfl, I, b⟩
          go_wp2_with fail
          replace cN := CsAt.below cN b (CsAt.lt cN (by simp))
          replace o2 := o2.below b (Nat.le_refl _)
          refine hK.out _ _ (hHeld.trans (Kept.of b)) (fun hHeld => ?_)
          clear hK K
          try simp only [Act.put, List.setIfInBounds_toArray, List.set_cons_zero, List.set_cons_succ]
          have z4 := b.size
          clear b
          refine oneL 6 rfl (by kernel_rfl) rfl (fun K hK => ?_)
          have pcN := cN.put [.slice f1 n1 k1, .slice f2 n2 k2] rfl
          have kz := OrdL.kcells y4 A 0 [.slice f1 n1 k1, .slice f2 n2 k2]
          refine wp_store_mid 26 _ _ rfl A 0 [.slice f1 n1 k1, .slice f2 n2 k2].toArray rfl rfl cN.free (unhide HSI) (by kernel_rfl) ?_
          refine hK.out _ _ (hHeld.then kz (fun y hy => by simp at hy; subst hy; first | (left; simp; done) | (right; omega))) (fun hHeld => ?_)
          clear hK K
          try simp only [Act.put, List.setIfInBounds_toArray, List.set_cons_zero, List.set_cons_succ]
          skip
          replace I := InT.only I (OnlyG.kept kz) (fun z hz => by simp at hz; subst hz; omega)
          have zk := kz.size
          clear cN kz
          generalize y4.setCells A 0 [.slice f1 n1 k1, .slice f2 n2 k2] = y5 at *
          have cN := pcN
          clear pcN
          refine wpAnyH_done (by kernel_rfl) ?_ _
          refine NoPanic.normal ?_
          exact ⟨rfl, g, d, f1, n1, k1, f2, n2, k2, A, rfl, hHeld, cN, hHeld.size, InT.mono I (by omega) (by omega)⟩
      case k =>
        rintro gZ dZ f1Z n1Z k1Z f2Z n2Z k2Z Z w24 ⟨K, cZ, W9, IZ⟩
        have hltZ := CsAt.lt cZ (by simp)
        have bK := Kept.all K (by simp)
        clear K
        have q15 := bK.size
        have cA_15 := cA_14.below bK (by omega)
        have cE_15 := cE_14.below bK (by omega)
        have cS_15 := cS_14.below bK (by omega)
        have cY_15 := cY_14.below bK (by omega)
        have IS_15 := IS_14.below bK
        have J2_15 := J2_14.below bK
        have B_15 := B_14.trans (bK.mono B_14.size)
        clear cA_14 cE_14 cS_14 cY_14 IS_14 J2_14 B_14 bK
        have cS0 := cS_15.cell 0 _ rfl
        have cS1 := cS_15.cell 1 _ rfl
        have cZ0 := cZ.cell 0 _ rfl
        have cZ1 := cZ.cell 1 _ rfl
        go_wp2_with fail
        refine (eqT IZ IS_15).mono ?_
        rintro e w25 ⟨rfl, b25⟩
        clear cS0 cS1 cZ0 cZ1
        have q16 := b25.size
        have cA_16 := cA_15.below b25 (by omega)
        have cE_16 := cE_15.below b25 (by omega)
        have cS_16 := cS_15.below b25 (by omega)
        have cY_16 := cY_15.below b25 (by omega)
        have cZ_16 := cZ.below b25 (by omega)
        have IS_16 := IS_15.below b25
        have J2_16 := J2_15.below b25
        have IZ_16 := IZ.below b25
        have B_16 := B_15.trans (b25.mono B_15.size)
        clear cA_15 cE_15 cS_15 cY_15 cZ IS_15 J2_15 IZ B_15 b25
        have cY0 := cY_16.cell 0 _ rfl
        have cY1 := cY_16.cell 1 _ rfl
        go_wp2_with fail
        refine (heldT J2_16).mono ?_
        rintro e w26 ⟨rfl, b26⟩
        clear cY0 cY1
        have q17 := b26.size
        have cA_17 := cA_16.below b26 (by omega)
        have cE_17 := cE_16.below b26 (by omega)
        have cS_17 := cS_16.below b26 (by omega)
        have cY_17 := cY_16.below b26 (by omega)
        have cZ_17 := cZ_16.below b26 (by omega)
        have IS_17 := IS_16.below b26
        have J2_17 := J2_16.below b26
        have IZ_17 := IZ_16.below b26
        have B_17 := B_16.trans (b26.mono B_16.size)
        clear cA_16 cE_16 cS_16 cY_16 cZ_16 IS_16 J2_16 IZ_16 B_16 b26
        go_wp2
        go_ret
        exact ⟨rfl, B_17⟩


set_option maxRecDepth 100000 in
theorem lifted (os : Os) (started : os.Started) (H : Type) (enc : TypeId × Value → H) :
    ReturnsInHanded {} Tryz.checked os 17 .any (Rows.fnExactPlayDoSpec.pre6 enc Tryz.prog Tryz.f17 Rows.fnExactPlayDoRow.domain false) (Rows.fnExactPlayDoSpec.post enc Tryz.prog Tryz.f17 false true false false) := by
  refine returnsInHanded_of_change (C := Tryz.checked) own started (by kernel_rfl) Tryz.func17
    (ChangeSpec.witness6 (enc := enc) (C := Tryz.checked) false ⟨#[], #[.agg #[.slice none 0 0, .slice none 0 0], .agg #[.int .i64 0, .int .i64 0, .int .i64 0, .int .i64 0, .bool false]], []⟩ 8 (by kernel_rfl) (by kernel_rfl) (by kernel_rfl) (by kernel_rfl)) ?_
  intro W base args ds gs before hval0 hW hcnd _
  have hval : ∀ (j : Nat) t v, Tryz.f17.params[j]? = some t → args[j]? = some v → Value.okWide Tryz.prog W .any base t v := hval0
  have hW' := hW
  obtain ⟨p, q, hA0, hV, rfl, hfz, hnd⟩ := hW
  have hA : DataW.TrodAll enc Tryz.prog W 0 (fun _ => true) true Tryz.f17.params.toList args.toList ds p := hA0
  rw [Tryz.params17] at hA hval
  obtain ⟨v0, vs0, d0, ds0, p0, q0, hargs, rfl, rfl, h0, r0⟩ := trodAll_cons hA
  obtain ⟨v1, vs1, d1, ds1, p1, q1, rfl, rfl, rfl, h1, r1⟩ := trodAll_cons r0
  obtain ⟨rfl, rfl, rfl⟩ := trodAll_nil r1
  obtain rfl : args = #[v0, v1] := by cases args; simp_all
  obtain ⟨rfl, rfl⟩ := trodVars_none hV
  have kk0 := h0
  have lt0 : ∀ x ∈ p0, x.block < W.heap.size := by obtain ⟨m, hm⟩ := kk0; exact DataW.trod_lt m _ _ _ hm
  obtain ⟨fa0, fc0, z0, da0, dc0, dk0, rfl, w0, fit0⟩ : ∃ fa fc z da dc dk, v0 = .agg #[.slice fa (z : List Bk).length fc, .slice da (dk : List Int).length dc] ∧ SAt W fa z da dk ∧ FitS z dk := by
    obtain ⟨c0, c1, y0, y1, n, rfl, _, _, g0, g1⟩ := open_agg2 Tryz.underlying56 (by kernel_rfl) (show Tryz.prog.cellsOf 56 = 2 by kernel_rfl) (hval 0 56 v0 rfl rfl) h0
    obtain ⟨fa, z, fc, e0, hz, fit⟩ := open_flash g0
    obtain ⟨da, dk, dc, e1, hd, hle⟩ := open_intS g1
    subst e0 e1
    exact ⟨fa, fc, z, da, dc, dk, rfl, ⟨hz, hd⟩, fit, by omega⟩
  have kk1 := h1
  have lt1 : ∀ x ∈ p1, x.block < W.heap.size := by obtain ⟨m, hm⟩ := kk1; exact DataW.trod_lt m _ _ _ hm
  obtain ⟨x1, rfl, ok1⟩ : ∃ x : Ev, v1 = .agg #[.int .i64 x.k, .int .i64 x.a, .int .i64 x.b, .int .i64 x.c, .bool x.t] ∧ EvOk x := by
    obtain ⟨cs, rfl, hsz⟩ := okWide_struct Tryz.underlying58 (hval 1 58 v1 rfl rfl)
    obtain ⟨fuel, hf⟩ := h1
    obtain ⟨p, hp, hok⟩ := open_event (cs := cs.toList) (by simpa [Value.cells] using hf)
    refine ⟨p, ?_, hok⟩
    rw [show cs = (evC p).toArray by rw [← hp]]
    rfl
  clear hA0
  refine (walk fa0 fc0 z0 da0 dc0 dk0 x1 ok1 W w0 fit0 ).mono fun e W' ⟨he, bel⟩ => ?_
  subst he
  exact ⟨_, rfl, _, _, _, [], _, [], hW', trodAll_mk1 (shut_bool Tryz.underlying4 _), (trodAll_cons_mk (Below.trod laidOut (by kernel_rfl) (of_decide_eq_true (by kernel_rfl)) kk0 bel lt0) (trodAll_cons_mk (Below.trod laidOut (by kernel_rfl) (of_decide_eq_true (by kernel_rfl)) kk1 bel lt1) trodAll_mk0)), rfl, bel.frame _, fun h => by cases h⟩

set_option maxRecDepth 100000 in
set_option maxHeartbeats 8000000 in
theorem facts : joinedFacts Tryz.prog 17 Tryz.f17 Rows.fnExactPlayDoSpec Rows.fnExactPlayDoRow = true := by
  unfold joinedFacts
  refine Facts.and_t ?_ (by as_aux_lemma => kernel_rfl)
  refine Facts.and_t ?_ (by as_aux_lemma => kernel_rfl)
  refine Facts.and_t ?_ (by as_aux_lemma => kernel_rfl)
  refine Facts.and_t ?_ (by as_aux_lemma => kernel_rfl)
  refine Facts.and_t ?_ (by show (Tryz.prog.make == some Make.cut) = true; rw [Facts.made]; rfl)
  refine Facts.and_t ?_ (by show (false == Tryz.prog.liftsFinal) = true; rw [Facts.lifts]; rfl)
  refine Facts.and_t ?_ (Facts.enters)
  refine Facts.and_t ?_ (Facts.heard)
  refine Facts.and_t ?_ (rfl)
  refine Facts.and_t ?_ (by show (true == Tryz.prog.plainKeys) = true; rw [Facts.keys]; rfl)
  refine Facts.and_t ?_ (by as_aux_lemma => kernel_rfl)
  refine Facts.and_t ?_ (by as_aux_lemma => kernel_rfl)
  refine Facts.and_t ?_ (by as_aux_lemma => kernel_rfl)
  refine Facts.and_t ?_ (by as_aux_lemma => kernel_rfl)
  refine Facts.and_t ?_ (by as_aux_lemma => kernel_rfl)
  refine Facts.and_t ?_ (by as_aux_lemma => kernel_rfl)
  refine Facts.and_t ?_ (by as_aux_lemma => kernel_rfl)
  refine Facts.and_t ?_ (by as_aux_lemma => kernel_rfl)
  refine Facts.and_t ?_ (by as_aux_lemma => kernel_rfl)
  refine Facts.and_t ?_ (by as_aux_lemma => kernel_rfl)
  refine Facts.and_t ?_ (by as_aux_lemma => kernel_rfl)
  refine Facts.and_t ?_ (by as_aux_lemma => kernel_rfl)
  refine Facts.and_t ?_ (by as_aux_lemma => kernel_rfl)
  refine Facts.and_t ?_ (by as_aux_lemma => kernel_rfl)
  refine Facts.and_t ?_ (by as_aux_lemma => kernel_rfl)
  refine Facts.and_t ?_ (by as_aux_lemma => kernel_rfl)
  refine Facts.and_t ?_ (by as_aux_lemma => kernel_rfl)
  refine Facts.and_t ?_ (by as_aux_lemma => kernel_rfl)
  refine Facts.and_t ?_ (by as_aux_lemma => kernel_rfl)
  refine Facts.and_t ?_ (Facts.rowed)
  refine Facts.and_t ?_ (Facts.laidOut)
  kernel_rfl

theorem over : Rows.fnExactPlayDoRow.holds Tryz.pinned (OpenSpec.ofChange Rows.fnExactPlayDoSpec) :=
  OpenClaim.holds_of_wide_leaving 17 Tryz.f17 rfl rfl rfl rfl rfl rfl rfl ⟨rfl, rfl, rfl, rfl, rfl⟩ rfl rfl rfl rfl rfl (by kernel_rfl) Tryz.func17 facts
    (of_decide_eq_true (by kernel_rfl)) (by unfold Func.isWrapper; first | (rw [if_pos (by decide +kernel)]; kernel_rfl) | (rw [if_neg (by decide +kernel)]; exact ⟨rfl, rfl⟩))
    (fun os started H enc _ => Lv.leave_of (lifted os started H enc))

end Go.Proofs.YtogfelpdgeionaaGreat.ExactPlayDo
namespace Go.Proofs.YtogfelpdgeionaaGreat
theorem fnExactPlayDo_holds : Rows.FnExactPlayDoSaid := ExactPlayDo.over
end Go.Proofs.YtogfelpdgeionaaGreat
