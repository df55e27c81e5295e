/-
  Whatever happens, a store is ok: so it is with a drawn one. The given statement, with no condition.
-/
import Derived.Test.YtbiokmojjneleaaGreatRcQ
import Derived.Test.YtbiokmojjneleaaGreatPyF
import Derived.Test.YtbiokmojjneleaaGreatRbS
import Derived.Test.YtbiokmojjneleaaGreatHaT
import Derived.Test.YtbiokmojjneleaaGreatFacts
import Derived.Lib.SmallJoins
namespace Go.Proofs.YtbiokmojjneleaaGreat.DoOk
open Go.ChangeShapes Go.WideShapes Go.ChangeAt Go.RowKit Go.Shelf Go.Joins OkA Big Fl ImplB ImplF ImplS ImplT ImplU SpecA SpecB SpecC SpecD SpecW SpecX SpecF SpecG SpecH FindP FindN FindO FindD ImplW ImplX Pick Draw ClA DrB PlB AlX DpX Pl FindL StA StB StC StD StE StF StG SpS SpT Sv LqI LqF Px NwA Sn9 ImplL Kp DoA RmA WrA FlA PlA SpU ToA QuE LawT MkN Ct Cu Ps Py Pz PaA EvL EvS PrA Nf Nr Rw PyE PaB PaC PdB PdD TwC PyF MkN QuE
open FlB (FsN)
open StN (SN)
open Facts (own laidOut)
set_option linter.unusedVariables false
set_option linter.unusedSimpArgs false
attribute [local go_sem ↓] Go.wp_at_zero Go.wp_at_succ

set_option maxRecDepth 100000 in
set_option maxHeartbeats 1000000 in
theorem touched_any (x : Ev) (w : World) :
    Calls Tryz.prog 31 #[.agg #[.int .i64 x.k, .int .i64 x.a, .int .i64 x.b, .int .i64 x.c, .bool x.t]] w fun e w' => e = .returned (.int .i64 (if x.k = 1 then x.a else 0)) ∧ Below w.heap.size w w' := by
  obtain ⟨k, a, b, c, t⟩ := x
  simp only
  have B0 : ∀ k, Below w.heap.size w (w.alloc (.cells #[.int .i64 k, .int .i64 a, .int .i64 b, .int .i64 c, .bool t] 42)) := fun k => (Below.refl _ _).alloc (Nat.le_refl _) _
  have cE := CsAt.new w [.int .i64 k, .int .i64 a, .int .i64 b, .int .i64 c, .bool t] 42
  have e0 := cE.cell 0 _ rfl
  have e1 := cE.cell 1 _ rfl
  clear cE
  by_cases h : k = 1
  · subst h
    rw [if_pos rfl]
    go_enter Tryz.func31, Tryz.ntmps31
    go_wp2
    go_ret
    exact ⟨rfl, B0 _⟩
  · rw [if_neg h]
    have hk : (k == 1) = false := by simpa using h
    go_enter Tryz.func31, Tryz.ntmps31
    go_wp2
    go_ret
    exact ⟨rfl, B0 _⟩
def NilP (w : World) (e : Ending) (w' : World) : Prop := e = .returned (.agg #[.slice none 0 0, .slice none 0 0]) ∧ Below w.heap.size w w'
theorem doNil {bs : List Bk} {dk : List Int} {x : Ev} {w w' : World} {e : Ending} (hs : stB bs dk = false) (h : PdD.DoPost w bs dk x e w') : NilP w e w' := by
  obtain ⟨X, Y, rfl, I, b⟩ := h
  rw [hs] at I
  rcases I with ⟨_, e1, e2⟩ | ⟨q, _⟩
  · rw [e1, e2]; exact ⟨rfl, b⟩
  · cases q
theorem al_or (bs : List Bk) (dk : List Int) (x : Ev) (hs : stB bs dk = true) (j : Nat) (hj : j < 6) : (alS (doP bs dk x).1 (doP bs dk x).2).getD j 0 = (alS bs dk).getD j 0 ∨ (x.k = 1 ∧ x.a = (j : Int) + 1 ∧ (alS (doP bs dk x).1 (doP bs dk x).2).getD j 0 = x.b) := by
  have hd := doP_rd hs x
  have e1 : ∀ {B : List Bk} {K : List Int}, stB B K = true → (alS B K).getD j 0 = readI B K ((j : Int) + 1) := fun {B K} h => by
    rw [Sv.al_at h j hj]
    unfold rdS
    rw [h, show inB ((j : Int) + 1) 1 6 = true by simp [inB]; omega]; rfl
  rw [e1 hs, e1 hd.1, hd.2 _ (by omega) (by omega)]
  split
  · rename_i q; exact .inr ⟨q.1, q.2.1, rfl⟩
  · exact .inl rfl

set_option maxRecDepth 100000 in
set_option maxHeartbeats 8000000 in
theorem walk (a0 : Option Addr) (len0 cap0 : Nat) (z0 : List Int) (w : World) (h0 : IsRow .u8 w a0 len0 cap0 z0) :
    Calls Tryz.prog 5 #[.slice a0 len0 cap0] w fun e w' => e = .returned (.bool true) ∧ Below w.heap.size w w' := by
  have HD := hide (drawDo_any w a0 len0 cap0 z0 h0)
  clear h0
  go_enter Tryz.func5, Tryz.ntmps5
  by_cases hbig0 : 1048576 < (len0 : Int)
  · go_wp2
    go_ret
    exact ⟨rfl, Below.refl _ _⟩
  go_wp2_with fail
  refine (unhide HD).mono ?_
  rintro e w1 ⟨g, o, c, bs, d, z, dc, dk, x, rfl, S1, hxb, B⟩
  clear HD
  have h4 := S1.fs.four
  have h6 := S1.six
  have hp4 := S1.fs.pgs
  have hs := S1.at
  clear S1
  generalize (some ⟨g, o, none⟩ : Option Addr) = fa at *
  generalize (some ⟨d, z, none⟩ : Option Addr) = da at *
  have hxo : EvOk x := by unfold EvOk; omega
  have HSS := hide (show (Tryz.prog.info? 26).map (·.size) = some 2 by kernel_rfl)
  have HSE := hide (show (Tryz.prog.info? 42).map (·.size) = some 5 by kernel_rfl)
  have HIN := hide (fun (hst : stB bs dk = false) (w' : World) (h : SAt w' fa bs da dk) => (implDo_any x hxo fa c bs da dc dk w' h (by omega) (by omega)).mono fun _ _ q => doNil hst q)
  have HSN := hide (fun (hst : stB bs dk = false) (w' : World) (h : SAt w' fa bs da dk) => (specDo_any x fa c bs da dc dk w' h (by omega) (fun b hb => by have := hp4 b hb; omega) (by omega)).mono fun _ _ q => doNil hst q)
  have HSO := hide (fun (w' : World) (h : SAt w' fa bs da dk) => Sv.sOk (fc := c) (dc := dc) w' h (by omega) (by omega) hp4)
  clear h4 h6 hp4
  generalize hn4 : bs.length = n4 at *
  generalize hn6 : dk.length = n6 at *
  have HN4 := hide hn4
  have HN6 := hide hn6
  clear hn4 hn6
  have b : Below w1.heap.size w1 ((w1.alloc (.cells #[.slice fa n4 c, .slice da n6 dc] 26)).alloc (.cells #[.int .i64 x.k, .int .i64 x.a, .int .i64 x.b, .int .i64 x.c, .bool x.t] 42)) := ((Below.refl _ _).alloc (Nat.le_refl _) _).alloc (by simp) _
  have bx0 := Bx.new w1 (.slice fa n4 c) (.slice da n6 dc) 26
  have ba := (Below.refl (w1.alloc (.cells #[.slice fa n4 c, .slice da n6 dc] 26)).heap.size (w1.alloc (.cells #[.slice fa n4 c, .slice da n6 dc] 26))).alloc (Nat.le_refl _) (.cells #[.int .i64 x.k, .int .i64 x.a, .int .i64 x.b, .int .i64 x.c, .bool x.t] 42)
  have bx := bx0.below ba
  have ce := CsAt.new (w1.alloc (.cells #[.slice fa n4 c, .slice da n6 dc] 26)) [.int .i64 x.k, .int .i64 x.a, .int .i64 x.b, .int .i64 x.c, .bool x.t] 42
  rw [World.size_alloc] at ce
  clear bx0 ba
  replace hs := hs.below b
  replace B := B.trans (b.mono B.size)
  clear b
  have bx0 := bx.c0
  have bx1 := bx.c1
  have e0 := ce.cell 0 _ rfl
  have e1 := ce.cell 1 _ rfl
  have e2 := ce.cell 2 _ rfl
  have e3 := ce.cell 3 _ rfl
  have e4 := ce.cell 4 _ rfl
  go_wp2_with fail
  generalize (w1.alloc (.cells #[.slice fa n4 c, .slice da n6 dc] 26)).alloc (.cells #[.int .i64 x.k, .int .i64 x.a, .int .i64 x.b, .int .i64 x.c, .bool x.t] 42) = v1 at *
  generalize w1.heap.size = bxb at *
  cases hst : stB bs dk
  · have HI := hide (unhide HIN hst)
    have HS := hide (unhide HSN hst)
    have HO := hide (fun (w' : World) (h : SAt w' fa bs da dk) => hst ▸ unhide HSO w' h)
    clear HIN HSN HSO
    refine (unhide HI _ hs).mono ?_
    rintro e u2 ⟨rfl, b⟩
    replace ce := ce.below b (CsAt.lt ce (by simp))
    clear e0 e1 e2 e3 e4
    have e0 := ce.cell 0 _ rfl
    have e1 := ce.cell 1 _ rfl
    have e2 := ce.cell 2 _ rfl
    have e3 := ce.cell 3 _ rfl
    have e4 := ce.cell 4 _ rfl
    replace hs := hs.below b
    replace bx := bx.below b
    clear bx0 bx1
    have bx0 := bx.c0
    have bx1 := bx.c1
    replace B := B.trans (b.mono B.size)
    clear b
    have b : Below u2.heap.size u2 (u2.alloc (.cells #[.slice none 0 0, .slice none 0 0] 26)) := (Below.refl _ _).alloc (Nat.le_refl _) _
    have bq := Bx.new u2 (.slice none 0 0) (.slice none 0 0) 26
    replace ce := ce.below b (CsAt.lt ce (by simp))
    clear e0 e1 e2 e3 e4
    have e0 := ce.cell 0 _ rfl
    have e1 := ce.cell 1 _ rfl
    have e2 := ce.cell 2 _ rfl
    have e3 := ce.cell 3 _ rfl
    have e4 := ce.cell 4 _ rfl
    replace hs := hs.below b
    replace bx := bx.below b
    clear bx0 bx1
    have bx0 := bx.c0
    have bx1 := bx.c1
    replace B := B.trans (b.mono B.size)
    clear b
    have bq0 := bq.c0
    have bq1 := bq.c1
    go_upto_region 5 with fail
    generalize u2.alloc (.cells #[.slice none 0 0, .slice none 0 0] 26) = v3 at *
    generalize u2.heap.size = bqb at *
    clear bx0 bx1 bq0 bq1 e0 e1 e2 e3 e4
    refine wp_region_noPanic ?_
    refine wp_region_held_drew (S := fun w' => Kept [] v3 w') (by kernel_rfl) (Kept.refl _ _).drew (fun hHeld => ?_)
    generalize v3.drew = y0 at *
    have z0 := hHeld.size
    refine takeL 0 (.agg #[.slice none 0 0, .slice none 0 0]) rfl (by kernel_rfl) (by kernel_rfl) (by kernel_rfl) (fun _ _ _ h => h) (yieldsIf_load_mid rfl 26 _ rfl bqb 0 rfl [.slice none 0 0, .slice none 0 0] _ (fun _ h => rng2 (bq.below (Kept.all h (by simp)))) Tryz.underlying26 rfl (unhide HSS)) hHeld ?_
    try simp only [Act.put, List.setIfInBounds_toArray, List.set_cons_zero, List.set_cons_succ]
    refine takeL 1 (.agg #[.slice fa n4 c, .slice da n6 dc]) rfl (by kernel_rfl) (by kernel_rfl) (by kernel_rfl) (fun _ _ _ h => h) (yieldsIf_load_mid rfl 26 _ rfl bxb 0 rfl [.slice fa n4 c, .slice da n6 dc] _ (fun _ h => rng2 (bx.below (Kept.all h (by simp)))) Tryz.underlying26 rfl (unhide HSS)) hHeld ?_
    try simp only [Act.put, List.setIfInBounds_toArray, List.set_cons_zero, List.set_cons_succ]
    refine takeL 2 (.agg #[.int .i64 x.k, .int .i64 x.a, .int .i64 x.b, .int .i64 x.c, .bool x.t]) rfl (by kernel_rfl) (by kernel_rfl) (by kernel_rfl) (fun _ _ _ h => h) (yieldsIf_load_mid rfl 42 _ rfl (bxb + 1) 0 rfl [.int .i64 x.k, .int .i64 x.a, .int .i64 x.b, .int .i64 x.c, .bool x.t] _ (fun _ h => (ce.below (Kept.all h (by simp)) (CsAt.lt ce (by simp))).cells) Tryz.underlying42 rfl (unhide HSE)) hHeld ?_
    try simp only [Act.put, List.setIfInBounds_toArray, List.set_cons_zero, List.set_cons_succ]
    refine oneL 3 rfl (by kernel_rfl) rfl (fun K hK => ?_)
    go_simp
    refine (unhide HS _ (hs.below (Kept.all hHeld (by simp)))).mono ?_
    rintro e y1 ⟨rfl, b⟩
    go_wp2_with fail
    refine hK.out _ _ (hHeld.trans (Kept.of b)) (fun hHeld => ?_)
    clear hK K
    try simp only [Act.put, List.setIfInBounds_toArray, List.set_cons_zero, List.set_cons_succ]
    have z1 := b.size
    clear b
    refine oneL 4 rfl (by kernel_rfl) rfl (fun K hK => ?_)
    go_simp
    refine (lqNil _).mono ?_
    rintro e y2 ⟨rfl, b⟩
    go_wp2_with fail
    refine hK.out _ _ (hHeld.trans (Kept.of b)) (fun hHeld => ?_)
    clear hK K
    try simp only [Act.put, List.setIfInBounds_toArray, List.set_cons_zero, List.set_cons_succ]
    have z2 := b.size
    clear b
    refine takeL 5 (.bool false) rfl (by kernel_rfl) (by kernel_rfl) (by kernel_rfl) (fun _ _ _ h => h) (Or.inl ⟨rfl, fun w9 hSw => by go_simp⟩) hHeld ?_
    try simp only [Act.put, List.setIfInBounds_toArray, List.set_cons_zero, List.set_cons_succ]
    refine takeL 6 (.bool false) rfl (by kernel_rfl) (by kernel_rfl) (by kernel_rfl) (fun _ _ _ h => h) (Or.inl ⟨rfl, fun _ _ => rfl⟩) hHeld ?_
    try simp only [Act.put, List.setIfInBounds_toArray, List.set_cons_zero, List.set_cons_succ]
    refine takeL 7 (.agg #[.slice fa n4 c, .slice da n6 dc]) rfl (by kernel_rfl) (by kernel_rfl) (by kernel_rfl) (fun _ _ _ h => h) (yieldsIf_load_mid rfl 26 _ rfl bxb 0 rfl [.slice fa n4 c, .slice da n6 dc] _ (fun _ h => rng2 (bx.below (Kept.all h (by simp)))) Tryz.underlying26 rfl (unhide HSS)) hHeld ?_
    try simp only [Act.put, List.setIfInBounds_toArray, List.set_cons_zero, List.set_cons_succ]
    refine oneL 8 rfl (by kernel_rfl) rfl (fun K hK => ?_)
    go_simp
    refine (unhide HO _ (hs.below (Kept.all hHeld (by simp)))).mono ?_
    rintro e y3 ⟨rfl, b⟩
    go_wp2_with fail
    refine hK.out _ _ (hHeld.trans (Kept.of b)) (fun hHeld => ?_)
    clear hK K
    try simp only [Act.put, List.setIfInBounds_toArray, List.set_cons_zero, List.set_cons_succ]
    have z3 := b.size
    clear b
    refine takeL 9 (.bool true) rfl (by kernel_rfl) (by kernel_rfl) (by kernel_rfl) (fun _ _ _ h => h) (Or.inl ⟨rfl, fun w9 hSw => by go_simp⟩) hHeld ?_
    try simp only [Act.put, List.setIfInBounds_toArray, List.set_cons_zero, List.set_cons_succ]
    refine takeL 10 (.bool true) rfl (by kernel_rfl) (by kernel_rfl) (by kernel_rfl) (fun _ _ _ h => h) (Or.inl ⟨rfl, fun w9 hSw => by go_simp⟩) hHeld ?_
    try simp only [Act.put, List.setIfInBounds_toArray, List.set_cons_zero, List.set_cons_succ]
    refine wpAnyH_done (by kernel_rfl) ?_ _
    refine NoPanic.normal ?_
    have b := Kept.all hHeld (by simp)
    clear hHeld
    generalize y3 = w5 at *
    replace hs := hs.below b
    replace bx := bx.below b
    replace bq := bq.below b
    replace ce := ce.below b (CsAt.lt ce (by simp))
    replace B := B.trans (b.mono B.size)
    clear b z0 z1 z2 z3
    go_upto_region 6 with fail
    refine wp_region_noPanic ?_
    refine wp_region_held_drew (S := fun w' => Kept [] w5 w') (by kernel_rfl) (Kept.refl _ _).drew (fun hHeld => ?_)
    generalize w5.drew = y0 at *
    have z0 := hHeld.size
    refine takeL 0 (.agg #[.slice none 0 0, .slice none 0 0]) rfl (by kernel_rfl) (by kernel_rfl) (by kernel_rfl) (fun _ _ _ h => h) (yieldsIf_load_mid rfl 26 _ rfl bqb 0 rfl [.slice none 0 0, .slice none 0 0] _ (fun _ h => rng2 (bq.below (Kept.all h (by simp)))) Tryz.underlying26 rfl (unhide HSS)) hHeld ?_
    try simp only [Act.put, List.setIfInBounds_toArray, List.set_cons_zero, List.set_cons_succ]
    refine takeL 1 (.agg #[.slice fa n4 c, .slice da n6 dc]) rfl (by kernel_rfl) (by kernel_rfl) (by kernel_rfl) (fun _ _ _ h => h) (yieldsIf_load_mid rfl 26 _ rfl bxb 0 rfl [.slice fa n4 c, .slice da n6 dc] _ (fun _ h => rng2 (bx.below (Kept.all h (by simp)))) Tryz.underlying26 rfl (unhide HSS)) hHeld ?_
    try simp only [Act.put, List.setIfInBounds_toArray, List.set_cons_zero, List.set_cons_succ]
    refine takeL 2 (.agg #[.int .i64 x.k, .int .i64 x.a, .int .i64 x.b, .int .i64 x.c, .bool x.t]) rfl (by kernel_rfl) (by kernel_rfl) (by kernel_rfl) (fun _ _ _ h => h) (yieldsIf_load_mid rfl 42 _ rfl (bxb + 1) 0 rfl [.int .i64 x.k, .int .i64 x.a, .int .i64 x.b, .int .i64 x.c, .bool x.t] _ (fun _ h => (ce.below (Kept.all h (by simp)) (CsAt.lt ce (by simp))).cells) Tryz.underlying42 rfl (unhide HSE)) hHeld ?_
    try simp only [Act.put, List.setIfInBounds_toArray, List.set_cons_zero, List.set_cons_succ]
    refine oneL 3 rfl (by kernel_rfl) rfl (fun K hK => ?_)
    go_simp
    refine (unhide HS _ (hs.below (Kept.all hHeld (by simp)))).mono ?_
    rintro e y1 ⟨rfl, b⟩
    go_wp2_with fail
    refine hK.out _ _ (hHeld.trans (Kept.of b)) (fun hHeld => ?_)
    clear hK K
    try simp only [Act.put, List.setIfInBounds_toArray, List.set_cons_zero, List.set_cons_succ]
    have z1 := b.size
    clear b
    refine oneL 4 rfl (by kernel_rfl) rfl (fun K hK => ?_)
    go_simp
    refine (lqNil _).mono ?_
    rintro e y2 ⟨rfl, b⟩
    go_wp2_with fail
    refine hK.out _ _ (hHeld.trans (Kept.of b)) (fun hHeld => ?_)
    clear hK K
    try simp only [Act.put, List.setIfInBounds_toArray, List.set_cons_zero, List.set_cons_succ]
    have z2 := b.size
    clear b
    refine takeL 5 (.bool true) rfl (by kernel_rfl) (by kernel_rfl) (by kernel_rfl) (fun _ _ _ h => h) (Or.inl ⟨rfl, fun _ _ => rfl⟩) hHeld ?_
    try simp only [Act.put, List.setIfInBounds_toArray, List.set_cons_zero, List.set_cons_succ]
    refine wpAnyH_done (by kernel_rfl) ?_ _
    refine NoPanic.normal ?_
    have B3 := B.trans ((Kept.all hHeld (by simp)).mono B.size)
    clear hHeld
    go_wp2
    go_ret
    exact ⟨rfl, B3⟩
  · obtain rfl : n4 = 4 := (unhide HN4).symm.trans (ok_len (st_parts hst).1)
    obtain rfl : n6 = 6 := (unhide HN6).symm.trans (st_len hst)
    have hso : SO _ fa da bs dk := ⟨hs, hst⟩
    have HDO := hide (fun (w' : World) (h : SO w' fa da bs dk) => iDo (c1 := c) (c2 := dc) x hxo w' h)
    have HDS := hide (fun (w' : World) (h : SO w' fa da bs dk) => sDo (c1 := c) (c2 := dc) x w' h)
    have HO := hide (fun (w' : World) (h : SAt w' fa bs da dk) => hst ▸ unhide HSO w' h)
    have HAO := hide (al_or bs dk x hst)
    have HL1 := hide (al_len hst)
    have HL2 := hide (al_len (doP_st hst x))
    have HA1 := hide (fun (w' : World) (h : SO w' fa da bs dk) => iAllO (c1 := c) (c2 := dc) w' h)
    clear HIN HSN HSO
    generalize doP bs dk x = Q at *
    obtain ⟨BX, KX⟩ := Q
    clear hs
    refine (unhide HDO _ hso).mono ?_
    rintro e u2 ⟨fx9, m1, dx9, m2, rfl, hx, b⟩
    replace ce := ce.below b (CsAt.lt ce (by simp))
    clear e0 e1 e2 e3 e4
    have e0 := ce.cell 0 _ rfl
    have e1 := ce.cell 1 _ rfl
    have e2 := ce.cell 2 _ rfl
    have e3 := ce.cell 3 _ rfl
    have e4 := ce.cell 4 _ rfl
    replace hso := hso.below b
    replace bx := bx.below b
    clear bx0 bx1
    have bx0 := bx.c0
    have bx1 := bx.c1
    replace B := B.trans (b.mono B.size)
    clear b
    have b : Below u2.heap.size u2 (u2.alloc (.cells #[.slice fx9 4 m1, .slice dx9 6 m2] 26)) := (Below.refl _ _).alloc (Nat.le_refl _) _
    have bq := Bx.new u2 (.slice fx9 4 m1) (.slice dx9 6 m2) 26
    replace ce := ce.below b (CsAt.lt ce (by simp))
    clear e0 e1 e2 e3 e4
    have e0 := ce.cell 0 _ rfl
    have e1 := ce.cell 1 _ rfl
    have e2 := ce.cell 2 _ rfl
    have e3 := ce.cell 3 _ rfl
    have e4 := ce.cell 4 _ rfl
    replace hso := hso.below b
    replace hx := hx.below b
    replace bx := bx.below b
    clear bx0 bx1
    have bx0 := bx.c0
    have bx1 := bx.c1
    replace B := B.trans (b.mono B.size)
    clear b
    have bq0 := bq.c0
    have bq1 := bq.c1
    go_upto_region 5 with fail
    generalize u2.alloc (.cells #[.slice fx9 4 m1, .slice dx9 6 m2] 26) = v3 at *
    generalize u2.heap.size = bqb at *
    clear bx0 bx1 bq0 bq1 e0 e1 e2 e3 e4
    refine wp_region_noPanic ?_
    refine wp_region_held_drew (S := fun w' => Kept [] v3 w') (by kernel_rfl) (Kept.refl _ _).drew (fun hHeld => ?_)
    generalize v3.drew = y0 at *
    have z0 := hHeld.size
    refine takeL 0 (.agg #[.slice fx9 4 m1, .slice dx9 6 m2]) rfl (by kernel_rfl) (by kernel_rfl) (by kernel_rfl) (fun _ _ _ h => h) (yieldsIf_load_mid rfl 26 _ rfl bqb 0 rfl [.slice fx9 4 m1, .slice dx9 6 m2] _ (fun _ h => rng2 (bq.below (Kept.all h (by simp)))) Tryz.underlying26 rfl (unhide HSS)) hHeld ?_
    try simp only [Act.put, List.setIfInBounds_toArray, List.set_cons_zero, List.set_cons_succ]
    refine takeL 1 (.agg #[.slice fa 4 c, .slice da 6 dc]) rfl (by kernel_rfl) (by kernel_rfl) (by kernel_rfl) (fun _ _ _ h => h) (yieldsIf_load_mid rfl 26 _ rfl bxb 0 rfl [.slice fa 4 c, .slice da 6 dc] _ (fun _ h => rng2 (bx.below (Kept.all h (by simp)))) Tryz.underlying26 rfl (unhide HSS)) hHeld ?_
    try simp only [Act.put, List.setIfInBounds_toArray, List.set_cons_zero, List.set_cons_succ]
    refine takeL 2 (.agg #[.int .i64 x.k, .int .i64 x.a, .int .i64 x.b, .int .i64 x.c, .bool x.t]) rfl (by kernel_rfl) (by kernel_rfl) (by kernel_rfl) (fun _ _ _ h => h) (yieldsIf_load_mid rfl 42 _ rfl (bxb + 1) 0 rfl [.int .i64 x.k, .int .i64 x.a, .int .i64 x.b, .int .i64 x.c, .bool x.t] _ (fun _ h => (ce.below (Kept.all h (by simp)) (CsAt.lt ce (by simp))).cells) Tryz.underlying42 rfl (unhide HSE)) hHeld ?_
    try simp only [Act.put, List.setIfInBounds_toArray, List.set_cons_zero, List.set_cons_succ]
    refine oneL 3 rfl (by kernel_rfl) rfl (fun K hK => ?_)
    go_simp
    refine (unhide HDS _ (hso.below (Kept.all hHeld (by simp)))).mono ?_
    rintro e y1 ⟨fz, k1, dz, k2, rfl, hz, b⟩
    go_wp2_with fail
    refine hK.out _ _ (hHeld.trans (Kept.of b)) (fun hHeld => ?_)
    clear hK K
    try simp only [Act.put, List.setIfInBounds_toArray, List.set_cons_zero, List.set_cons_succ]
    have z1 := b.size
    clear b
    refine oneL 4 rfl (by kernel_rfl) rfl (fun K hK => ?_)
    go_simp
    refine (lqEq _ (hx.below (Kept.all hHeld (by simp))) hz).mono ?_
    rintro e y2 ⟨rfl, b⟩
    go_wp2_with fail
    replace hz := hz.below b
    refine hK.out _ _ (hHeld.trans (Kept.of b)) (fun hHeld => ?_)
    clear hK K
    try simp only [Act.put, List.setIfInBounds_toArray, List.set_cons_zero, List.set_cons_succ]
    have z2 := b.size
    clear b
    refine takeL 5 (.bool false) rfl (by kernel_rfl) (by kernel_rfl) (by kernel_rfl) (fun _ _ _ h => h) (Or.inl ⟨rfl, fun w9 hSw => by go_simp⟩) hHeld ?_
    try simp only [Act.put, List.setIfInBounds_toArray, List.set_cons_zero, List.set_cons_succ]
    refine takeL 6 (.bool false) rfl (by kernel_rfl) (by kernel_rfl) (by kernel_rfl) (fun _ _ _ h => h) (Or.inl ⟨rfl, fun _ _ => rfl⟩) hHeld ?_
    try simp only [Act.put, List.setIfInBounds_toArray, List.set_cons_zero, List.set_cons_succ]
    refine takeL 7 (.agg #[.slice fa 4 c, .slice da 6 dc]) rfl (by kernel_rfl) (by kernel_rfl) (by kernel_rfl) (fun _ _ _ h => h) (yieldsIf_load_mid rfl 26 _ rfl bxb 0 rfl [.slice fa 4 c, .slice da 6 dc] _ (fun _ h => rng2 (bx.below (Kept.all h (by simp)))) Tryz.underlying26 rfl (unhide HSS)) hHeld ?_
    try simp only [Act.put, List.setIfInBounds_toArray, List.set_cons_zero, List.set_cons_succ]
    refine oneL 8 rfl (by kernel_rfl) rfl (fun K hK => ?_)
    go_simp
    refine (unhide HO _ (hso.below (Kept.all hHeld (by simp))).sat).mono ?_
    rintro e y3 ⟨rfl, b⟩
    go_wp2_with fail
    replace hz := hz.below b
    refine hK.out _ _ (hHeld.trans (Kept.of b)) (fun hHeld => ?_)
    clear hK K
    try simp only [Act.put, List.setIfInBounds_toArray, List.set_cons_zero, List.set_cons_succ]
    have z3 := b.size
    clear b
    refine takeL 9 (.bool false) rfl (by kernel_rfl) (by kernel_rfl) (by kernel_rfl) (fun _ _ _ h => h) (Or.inl ⟨rfl, fun w9 hSw => by go_simp⟩) hHeld ?_
    try simp only [Act.put, List.setIfInBounds_toArray, List.set_cons_zero, List.set_cons_succ]
    refine takeL 10 (.bool false) rfl (by kernel_rfl) (by kernel_rfl) (by kernel_rfl) (fun _ _ _ h => h) (Or.inl ⟨rfl, fun w9 hSw => by go_simp⟩) hHeld ?_
    try simp only [Act.put, List.setIfInBounds_toArray, List.set_cons_zero, List.set_cons_succ]
    refine wpAnyH_done (by kernel_rfl) ?_ _
    refine NoPanic.normal ?_
    have b := Kept.all hHeld (by simp)
    clear hHeld
    generalize y3 = w5 at *
    have bx0 := bx.c0
    have bx1 := bx.c1
    have bq0 := bq.c0
    have bq1 := bq.c1
    have e0 := ce.cell 0 _ rfl
    have e1 := ce.cell 1 _ rfl
    have e2 := ce.cell 2 _ rfl
    have e3 := ce.cell 3 _ rfl
    have e4 := ce.cell 4 _ rfl
    replace ce := ce.below b (CsAt.lt ce (by simp))
    clear e0 e1 e2 e3 e4
    have e0 := ce.cell 0 _ rfl
    have e1 := ce.cell 1 _ rfl
    have e2 := ce.cell 2 _ rfl
    have e3 := ce.cell 3 _ rfl
    have e4 := ce.cell 4 _ rfl
    replace hso := hso.below b
    replace hx := hx.below b
    replace bx := bx.below b
    clear bx0 bx1
    have bx0 := bx.c0
    have bx1 := bx.c1
    replace bq := bq.below b
    clear bq0 bq1
    have bq0 := bq.c0
    have bq1 := bq.c1
    replace B := B.trans (b.mono B.size)
    clear b
    clear z0 z1 z2 z3 HDO HDS HO
    go_wp2_with fail
    refine (unhide HA1 _ hso).mono ?_
    rintro e u41 ⟨p1, q1, rfl, hd1, b⟩
    replace ce := ce.below b (CsAt.lt ce (by simp))
    clear e0 e1 e2 e3 e4
    have e0 := ce.cell 0 _ rfl
    have e1 := ce.cell 1 _ rfl
    have e2 := ce.cell 2 _ rfl
    have e3 := ce.cell 3 _ rfl
    have e4 := ce.cell 4 _ rfl
    replace hso := hso.below b
    replace hx := hx.below b
    replace bx := bx.below b
    clear bx0 bx1
    have bx0 := bx.c0
    have bx1 := bx.c1
    replace bq := bq.below b
    clear bq0 bq1
    have bq0 := bq.c0
    have bq1 := bq.c1
    replace B := B.trans (b.mono B.size)
    clear b
    go_wp2_with fail
    refine (iAllO _ hx).mono ?_
    rintro e u42 ⟨p2, q2, rfl, hd2, b⟩
    replace ce := ce.below b (CsAt.lt ce (by simp))
    clear e0 e1 e2 e3 e4
    have e0 := ce.cell 0 _ rfl
    have e1 := ce.cell 1 _ rfl
    have e2 := ce.cell 2 _ rfl
    have e3 := ce.cell 3 _ rfl
    have e4 := ce.cell 4 _ rfl
    replace hso := hso.below b
    replace hx := hx.below b
    replace hd1 := hd1.below b
    replace bx := bx.below b
    clear bx0 bx1
    have bx0 := bx.c0
    have bx1 := bx.c1
    replace bq := bq.below b
    clear bq0 bq1
    have bq0 := bq.c0
    have bq1 := bq.c1
    replace B := B.trans (b.mono B.size)
    clear b
    go_wp2_with fail
    refine (iOkO _ hx).mono ?_
    rintro e u43 ⟨rfl, b⟩
    replace ce := ce.below b (CsAt.lt ce (by simp))
    clear e0 e1 e2 e3 e4
    have e0 := ce.cell 0 _ rfl
    have e1 := ce.cell 1 _ rfl
    have e2 := ce.cell 2 _ rfl
    have e3 := ce.cell 3 _ rfl
    have e4 := ce.cell 4 _ rfl
    replace hso := hso.below b
    replace hx := hx.below b
    replace hd1 := hd1.below b
    replace hd2 := hd2.below b
    replace bx := bx.below b
    clear bx0 bx1
    have bx0 := bx.c0
    have bx1 := bx.c1
    replace bq := bq.below b
    clear bq0 bq1
    have bq0 := bq.c0
    have bq1 := bq.c1
    replace B := B.trans (b.mono B.size)
    clear b
    have HAO2 : Hid (∀ j : Nat, j < 6 → (alS BX KX).getD j 0 = (alS bs dk).getD j 0 ∨ (x.k = 1 ∧ x.a = (j : Int) + 1 ∧ (alS BX KX).getD j 0 = x.b)) := HAO
    have HL3 : Hid ((alS BX KX).length = 6) := HL2
    clear HAO HL2 HA1
    generalize alS BX KX = LM at *
    generalize alS bs dk = LL at *
    clear hso
    clear hx
    clear bq bq0 bq1
    go_wp2
    go_loopw [8] (fun i w' => ∃ j : Nat, j ≤ 6 ∧ i = .int .i64 j ∧ Below u43.heap.size u43 w') (fun i _ => 6 - (intOf i).toNat)
    case atStart => exact ⟨0, by omega, rfl, Below.refl _ _⟩
    case round =>
      obtain ⟨j, hj, rfl, bw⟩ := hrel
      have b := bw
      replace ce := ce.below b (CsAt.lt ce (by simp))
      clear e0 e1 e2 e3 e4
      have e0 := ce.cell 0 _ rfl
      have e1 := ce.cell 1 _ rfl
      have e2 := ce.cell 2 _ rfl
      have e3 := ce.cell 3 _ rfl
      have e4 := ce.cell 4 _ rfl
      replace hd1 := hd1.below b
      replace hd2 := hd2.below b
      replace bx := bx.below b
      clear bx0 bx1
      have bx0 := bx.c0
      have bx1 := bx.c1
      replace B := B.trans (b.mono B.size)
      clear b
      by_cases h0 : j = 6
      · subst h0
        go_wp2
        go_ret
        exact ⟨rfl, B⟩
      · have hjl : j < 6 := by omega
        have hji : (j : Int) < 6 := by omega
        have hj0 : (0 : Int) ≤ (j : Int) := by omega
        have hwj : IntKind.i64.wrap ((j : Int) + 1) = (j : Int) + 1 := by rw [IntKind.wrap_i64] <;> omega
        obtain ⟨lb, lo, rfl, hl9⟩ := hd1.lies (by rw [unhide HL1]; omega)
        obtain ⟨mb, mo, rfl, hm9⟩ := hd2.lies (by rw [unhide HL3]; omega)
        have X1 := hl9 j (by rw [unhide HL1]; omega)
        have X2 := hm9 j (by rw [unhide HL3]; omega)
        have lt1 := Fl.cell_lt X1
        have lt2 := Fl.cell_lt X2
        have lb9 : lb < wr.heap.size := by simpa using lt1
        have mb9 : mb < wr.heap.size := by simpa using lt2
        have HJ := hide (unhide HAO2 j hjl)
        have HTO := hide (touched_any x)
        clear hl9 hm9 lt1 lt2 HAO2 hd1 hd2 bx bx0 bx1
        generalize LM.getD j 0 = vb at *
        generalize LL.getD j 0 = va at *
        by_cases hab : va = vb
        · subst hab
          have hne : (va != va) = false := by simp
          clear HJ HTO
          go_upto_region 14 with fail
          refine wp_region_noPanic ?_
          refine wp_region_held_drew (S := fun w' => Kept [] wr w') (by kernel_rfl) (Kept.refl _ _).drew (fun hHeld => ?_)
          generalize wr.drew = y0 at *
          have z0 := hHeld.size
          refine takeL 0 (.slice (some ⟨lb, lo, none⟩) 6 q1) rfl (by kernel_rfl) (by kernel_rfl) (by kernel_rfl) (fun _ _ _ h => h) (Or.inl ⟨rfl, fun _ _ => rfl⟩) hHeld ?_
          try simp only [Act.put, List.setIfInBounds_toArray, List.set_cons_zero, List.set_cons_succ]
          refine takeL 1 (.int .i64 (j : Int)) rfl (by kernel_rfl) (by kernel_rfl) (by kernel_rfl) (fun _ _ _ h => h) (Or.inl ⟨rfl, fun _ _ => rfl⟩) hHeld ?_
          try simp only [Act.put, List.setIfInBounds_toArray, List.set_cons_zero, List.set_cons_succ]
          refine takeL 2 (.pointer (some ⟨lb, lo + j, none⟩)) rfl (by kernel_rfl) (by kernel_rfl) (by kernel_rfl) (fun _ _ _ h => h) (Or.inl ⟨rfl, fun w9 hSw => by go_simp⟩) hHeld ?_
          try simp only [Act.put, List.setIfInBounds_toArray, List.set_cons_zero, List.set_cons_succ]
          refine takeL 3 (.int .i64 va) rfl (by kernel_rfl) (by kernel_rfl) (by kernel_rfl) (fun _ _ _ h => h) (Or.inl ⟨rfl, fun w9 hSw => by have hc := (hSw.cell (b := lb) (lo + j) (by omega) (by simp)).trans X1; go_simp⟩) hHeld ?_
          try simp only [Act.put, List.setIfInBounds_toArray, List.set_cons_zero, List.set_cons_succ]
          refine takeL 4 (.slice (some ⟨mb, mo, none⟩) 6 q2) rfl (by kernel_rfl) (by kernel_rfl) (by kernel_rfl) (fun _ _ _ h => h) (Or.inl ⟨rfl, fun _ _ => rfl⟩) hHeld ?_
          try simp only [Act.put, List.setIfInBounds_toArray, List.set_cons_zero, List.set_cons_succ]
          refine takeL 5 (.int .i64 (j : Int)) rfl (by kernel_rfl) (by kernel_rfl) (by kernel_rfl) (fun _ _ _ h => h) (Or.inl ⟨rfl, fun _ _ => rfl⟩) hHeld ?_
          try simp only [Act.put, List.setIfInBounds_toArray, List.set_cons_zero, List.set_cons_succ]
          refine takeL 6 (.pointer (some ⟨mb, mo + j, none⟩)) rfl (by kernel_rfl) (by kernel_rfl) (by kernel_rfl) (fun _ _ _ h => h) (Or.inl ⟨rfl, fun w9 hSw => by go_simp⟩) hHeld ?_
          try simp only [Act.put, List.setIfInBounds_toArray, List.set_cons_zero, List.set_cons_succ]
          refine takeL 7 (.int .i64 va) rfl (by kernel_rfl) (by kernel_rfl) (by kernel_rfl) (fun _ _ _ h => h) (Or.inl ⟨rfl, fun w9 hSw => by have hc := (hSw.cell (b := mb) (mo + j) (by omega) (by simp)).trans X2; go_simp⟩) hHeld ?_
          try simp only [Act.put, List.setIfInBounds_toArray, List.set_cons_zero, List.set_cons_succ]
          refine takeL 8 (.bool false) rfl (by kernel_rfl) (by kernel_rfl) (by kernel_rfl) (fun _ _ _ h => h) (Or.inl ⟨rfl, fun w9 hSw => by go_simp⟩) hHeld ?_
          try simp only [Act.put, List.setIfInBounds_toArray, List.set_cons_zero, List.set_cons_succ]
          refine takeL 9 (.bool false) rfl (by kernel_rfl) (by kernel_rfl) (by kernel_rfl) (fun _ _ _ h => h) (Or.inl ⟨rfl, fun _ _ => rfl⟩) hHeld ?_
          try simp only [Act.put, List.setIfInBounds_toArray, List.set_cons_zero, List.set_cons_succ]
          refine takeL 10 (undef) rfl (by kernel_rfl) (by kernel_rfl) (by kernel_rfl) (fun _ _ _ h => h) (Or.inr ⟨rfl, rfl⟩) hHeld ?_
          try simp only [Act.put, List.setIfInBounds_toArray, List.set_cons_zero, List.set_cons_succ]
          refine takeL 11 (undef) rfl (by kernel_rfl) (by kernel_rfl) (by kernel_rfl) (fun _ _ _ h => h) (Or.inr ⟨rfl, rfl⟩) hHeld ?_
          try simp only [Act.put, List.setIfInBounds_toArray, List.set_cons_zero, List.set_cons_succ]
          refine takeL 12 (undef) rfl (by kernel_rfl) (by kernel_rfl) (by kernel_rfl) (fun _ _ _ h => h) (Or.inr ⟨rfl, rfl⟩) hHeld ?_
          try simp only [Act.put, List.setIfInBounds_toArray, List.set_cons_zero, List.set_cons_succ]
          refine takeL 13 (undef) rfl (by kernel_rfl) (by kernel_rfl) (by kernel_rfl) (fun _ _ _ h => h) (Or.inr ⟨rfl, rfl⟩) hHeld ?_
          try simp only [Act.put, List.setIfInBounds_toArray, List.set_cons_zero, List.set_cons_succ]
          refine takeL 14 (undef) rfl (by kernel_rfl) (by kernel_rfl) (by kernel_rfl) (fun _ _ _ h => h) (Or.inr ⟨rfl, rfl⟩) hHeld ?_
          try simp only [Act.put, List.setIfInBounds_toArray, List.set_cons_zero, List.set_cons_succ]
          refine takeL 15 (undef) rfl (by kernel_rfl) (by kernel_rfl) (by kernel_rfl) (fun _ _ _ h => h) (Or.inr ⟨rfl, rfl⟩) hHeld ?_
          try simp only [Act.put, List.setIfInBounds_toArray, List.set_cons_zero, List.set_cons_succ]
          refine takeL 16 (undef) rfl (by kernel_rfl) (by kernel_rfl) (by kernel_rfl) (fun _ _ _ h => h) (Or.inr ⟨rfl, rfl⟩) hHeld ?_
          try simp only [Act.put, List.setIfInBounds_toArray, List.set_cons_zero, List.set_cons_succ]
          refine takeL 17 (undef) rfl (by kernel_rfl) (by kernel_rfl) (by kernel_rfl) (fun _ _ _ h => h) (Or.inr ⟨rfl, rfl⟩) hHeld ?_
          try simp only [Act.put, List.setIfInBounds_toArray, List.set_cons_zero, List.set_cons_succ]
          refine takeL 18 (undef) rfl (by kernel_rfl) (by kernel_rfl) (by kernel_rfl) (fun _ _ _ h => h) (Or.inr ⟨rfl, rfl⟩) hHeld ?_
          try simp only [Act.put, List.setIfInBounds_toArray, List.set_cons_zero, List.set_cons_succ]
          refine takeL 19 (undef) rfl (by kernel_rfl) (by kernel_rfl) (by kernel_rfl) (fun _ _ _ h => h) (Or.inr ⟨rfl, rfl⟩) hHeld ?_
          try simp only [Act.put, List.setIfInBounds_toArray, List.set_cons_zero, List.set_cons_succ]
          refine takeL 20 (undef) rfl (by kernel_rfl) (by kernel_rfl) (by kernel_rfl) (fun _ _ _ h => h) (Or.inr ⟨rfl, rfl⟩) hHeld ?_
          try simp only [Act.put, List.setIfInBounds_toArray, List.set_cons_zero, List.set_cons_succ]
          refine takeL 21 (undef) rfl (by kernel_rfl) (by kernel_rfl) (by kernel_rfl) (fun _ _ _ h => h) (Or.inr ⟨rfl, rfl⟩) hHeld ?_
          try simp only [Act.put, List.setIfInBounds_toArray, List.set_cons_zero, List.set_cons_succ]
          refine takeL 22 (undef) rfl (by kernel_rfl) (by kernel_rfl) (by kernel_rfl) (fun _ _ _ h => h) (Or.inr ⟨rfl, rfl⟩) hHeld ?_
          try simp only [Act.put, List.setIfInBounds_toArray, List.set_cons_zero, List.set_cons_succ]
          refine takeL 23 (undef) rfl (by kernel_rfl) (by kernel_rfl) (by kernel_rfl) (fun _ _ _ h => h) (Or.inr ⟨rfl, rfl⟩) hHeld ?_
          try simp only [Act.put, List.setIfInBounds_toArray, List.set_cons_zero, List.set_cons_succ]
          refine takeL 24 (.bool false) rfl (by kernel_rfl) (by kernel_rfl) (by kernel_rfl) (fun _ _ _ h => h) (Or.inl ⟨rfl, fun w9 hSw => by go_simp⟩) hHeld ?_
          try simp only [Act.put, List.setIfInBounds_toArray, List.set_cons_zero, List.set_cons_succ]
          refine wpAnyH_done (by kernel_rfl) ?_ _
          refine NoPanic.normal ?_
          have K2 := bw.trans ((Kept.all hHeld (by simp)).mono bw.size)
          clear hHeld
          go_wp2
          go_roundw
          case rel => exact ⟨j + 1, by omega, by first | rfl | go_num, K2⟩
          case measure => simp [intOf]; omega
        · have hne : (va != vb) = true := by simpa using hab
          obtain ⟨k1, k2, k3⟩ : x.k = 1 ∧ x.a = (j : Int) + 1 ∧ vb = x.b := by rcases unhide HJ with q | q; exact absurd q.symm hab; exact q
          have HT2 : Hid (∀ w : World, Calls Tryz.prog 31 #[.agg #[.int .i64 x.k, .int .i64 x.a, .int .i64 x.b, .int .i64 x.c, .bool x.t]] w fun e w' => e = .returned (.int .i64 ((j : Int) + 1)) ∧ Below w.heap.size w w') := fun w => by have := unhide HTO w; rw [if_pos k1, k2] at this; rw [k2]; exact this
          have hvb : (vb != x.b) = false := by rw [k3]; simp
          have hjj : ((j : Int) + 1 != (j : Int) + 1) = false := by simp
          clear HJ HTO k1 k2 k3 hab
          go_upto_region 14 with fail
          refine wp_region_noPanic ?_
          refine wp_region_held_drew (S := fun w' => Kept [] wr w') (by kernel_rfl) (Kept.refl _ _).drew (fun hHeld => ?_)
          generalize wr.drew = y0 at *
          have z0 := hHeld.size
          refine takeL 0 (.slice (some ⟨lb, lo, none⟩) 6 q1) rfl (by kernel_rfl) (by kernel_rfl) (by kernel_rfl) (fun _ _ _ h => h) (Or.inl ⟨rfl, fun _ _ => rfl⟩) hHeld ?_
          try simp only [Act.put, List.setIfInBounds_toArray, List.set_cons_zero, List.set_cons_succ]
          refine takeL 1 (.int .i64 (j : Int)) rfl (by kernel_rfl) (by kernel_rfl) (by kernel_rfl) (fun _ _ _ h => h) (Or.inl ⟨rfl, fun _ _ => rfl⟩) hHeld ?_
          try simp only [Act.put, List.setIfInBounds_toArray, List.set_cons_zero, List.set_cons_succ]
          refine takeL 2 (.pointer (some ⟨lb, lo + j, none⟩)) rfl (by kernel_rfl) (by kernel_rfl) (by kernel_rfl) (fun _ _ _ h => h) (Or.inl ⟨rfl, fun w9 hSw => by go_simp⟩) hHeld ?_
          try simp only [Act.put, List.setIfInBounds_toArray, List.set_cons_zero, List.set_cons_succ]
          refine takeL 3 (.int .i64 va) rfl (by kernel_rfl) (by kernel_rfl) (by kernel_rfl) (fun _ _ _ h => h) (Or.inl ⟨rfl, fun w9 hSw => by have hc := (hSw.cell (b := lb) (lo + j) (by omega) (by simp)).trans X1; go_simp⟩) hHeld ?_
          try simp only [Act.put, List.setIfInBounds_toArray, List.set_cons_zero, List.set_cons_succ]
          refine takeL 4 (.slice (some ⟨mb, mo, none⟩) 6 q2) rfl (by kernel_rfl) (by kernel_rfl) (by kernel_rfl) (fun _ _ _ h => h) (Or.inl ⟨rfl, fun _ _ => rfl⟩) hHeld ?_
          try simp only [Act.put, List.setIfInBounds_toArray, List.set_cons_zero, List.set_cons_succ]
          refine takeL 5 (.int .i64 (j : Int)) rfl (by kernel_rfl) (by kernel_rfl) (by kernel_rfl) (fun _ _ _ h => h) (Or.inl ⟨rfl, fun _ _ => rfl⟩) hHeld ?_
          try simp only [Act.put, List.setIfInBounds_toArray, List.set_cons_zero, List.set_cons_succ]
          refine takeL 6 (.pointer (some ⟨mb, mo + j, none⟩)) rfl (by kernel_rfl) (by kernel_rfl) (by kernel_rfl) (fun _ _ _ h => h) (Or.inl ⟨rfl, fun w9 hSw => by go_simp⟩) hHeld ?_
          try simp only [Act.put, List.setIfInBounds_toArray, List.set_cons_zero, List.set_cons_succ]
          refine takeL 7 (.int .i64 vb) rfl (by kernel_rfl) (by kernel_rfl) (by kernel_rfl) (fun _ _ _ h => h) (Or.inl ⟨rfl, fun w9 hSw => by have hc := (hSw.cell (b := mb) (mo + j) (by omega) (by simp)).trans X2; go_simp⟩) hHeld ?_
          try simp only [Act.put, List.setIfInBounds_toArray, List.set_cons_zero, List.set_cons_succ]
          refine takeL 8 (.bool true) rfl (by kernel_rfl) (by kernel_rfl) (by kernel_rfl) (fun _ _ _ h => h) (Or.inl ⟨rfl, fun w9 hSw => by go_simp⟩) hHeld ?_
          try simp only [Act.put, List.setIfInBounds_toArray, List.set_cons_zero, List.set_cons_succ]
          refine takeL 9 (.bool true) rfl (by kernel_rfl) (by kernel_rfl) (by kernel_rfl) (fun _ _ _ h => h) (Or.inl ⟨rfl, fun _ _ => rfl⟩) hHeld ?_
          try simp only [Act.put, List.setIfInBounds_toArray, List.set_cons_zero, List.set_cons_succ]
          refine takeL 10 (.int .i64 (j : Int)) rfl (by kernel_rfl) (by kernel_rfl) (by kernel_rfl) (fun _ _ _ h => h) (Or.inl ⟨rfl, fun _ _ => rfl⟩) hHeld ?_
          try simp only [Act.put, List.setIfInBounds_toArray, List.set_cons_zero, List.set_cons_succ]
          refine takeL 11 (.int .i64 ((j : Int) + 1)) rfl (by kernel_rfl) (by kernel_rfl) (by kernel_rfl) (fun _ _ _ h => h) (Or.inl ⟨rfl, fun w9 hSw => by go_simp⟩) hHeld ?_
          try simp only [Act.put, List.setIfInBounds_toArray, List.set_cons_zero, List.set_cons_succ]
          refine takeL 12 (.agg #[.int .i64 x.k, .int .i64 x.a, .int .i64 x.b, .int .i64 x.c, .bool x.t]) rfl (by kernel_rfl) (by kernel_rfl) (by kernel_rfl) (fun _ _ _ h => h) (yieldsIf_load_mid rfl 42 _ rfl (bxb + 1) 0 rfl [.int .i64 x.k, .int .i64 x.a, .int .i64 x.b, .int .i64 x.c, .bool x.t] _ (fun _ h => (ce.below (Kept.all h (by simp)) (CsAt.lt ce (by simp))).cells) Tryz.underlying42 rfl (unhide HSE)) hHeld ?_
          try simp only [Act.put, List.setIfInBounds_toArray, List.set_cons_zero, List.set_cons_succ]
          refine oneL 13 rfl (by kernel_rfl) rfl (fun K hK => ?_)
          go_simp
          refine (unhide HT2 _).mono ?_
          rintro e y1 ⟨rfl, b⟩
          go_wp2_with fail
          refine hK.out _ _ (hHeld.trans (Kept.of b)) (fun hHeld => ?_)
          clear hK K
          try simp only [Act.put, List.setIfInBounds_toArray, List.set_cons_zero, List.set_cons_succ]
          have z1 := b.size
          clear b
          refine takeL 14 (.bool false) rfl (by kernel_rfl) (by kernel_rfl) (by kernel_rfl) (fun _ _ _ h => h) (Or.inl ⟨rfl, fun w9 hSw => by go_simp⟩) hHeld ?_
          try simp only [Act.put, List.setIfInBounds_toArray, List.set_cons_zero, List.set_cons_succ]
          refine takeL 15 (.bool false) rfl (by kernel_rfl) (by kernel_rfl) (by kernel_rfl) (fun _ _ _ h => h) (Or.inl ⟨rfl, fun _ _ => rfl⟩) hHeld ?_
          try simp only [Act.put, List.setIfInBounds_toArray, List.set_cons_zero, List.set_cons_succ]
          refine takeL 16 (.slice (some ⟨mb, mo, none⟩) 6 q2) rfl (by kernel_rfl) (by kernel_rfl) (by kernel_rfl) (fun _ _ _ h => h) (Or.inl ⟨rfl, fun _ _ => rfl⟩) hHeld ?_
          try simp only [Act.put, List.setIfInBounds_toArray, List.set_cons_zero, List.set_cons_succ]
          refine takeL 17 (.int .i64 (j : Int)) rfl (by kernel_rfl) (by kernel_rfl) (by kernel_rfl) (fun _ _ _ h => h) (Or.inl ⟨rfl, fun _ _ => rfl⟩) hHeld ?_
          try simp only [Act.put, List.setIfInBounds_toArray, List.set_cons_zero, List.set_cons_succ]
          refine takeL 18 (.pointer (some ⟨mb, mo + j, none⟩)) rfl (by kernel_rfl) (by kernel_rfl) (by kernel_rfl) (fun _ _ _ h => h) (Or.inl ⟨rfl, fun w9 hSw => by go_simp⟩) hHeld ?_
          try simp only [Act.put, List.setIfInBounds_toArray, List.set_cons_zero, List.set_cons_succ]
          refine takeL 19 (.int .i64 vb) rfl (by kernel_rfl) (by kernel_rfl) (by kernel_rfl) (fun _ _ _ h => h) (Or.inl ⟨rfl, fun w9 hSw => by have hc := (hSw.cell (b := mb) (mo + j) (by omega) (by simp)).trans X2; go_simp⟩) hHeld ?_
          try simp only [Act.put, List.setIfInBounds_toArray, List.set_cons_zero, List.set_cons_succ]
          refine takeL 20 (.pointer (some ⟨(bxb + 1), 2, none⟩)) rfl (by kernel_rfl) (by kernel_rfl) (by kernel_rfl) (fun _ _ _ h => h) (Or.inl ⟨rfl, fun w9 hSw => by go_simp⟩) hHeld ?_
          try simp only [Act.put, List.setIfInBounds_toArray, List.set_cons_zero, List.set_cons_succ]
          refine takeL 21 (.int .i64 x.b) rfl (by kernel_rfl) (by kernel_rfl) (by kernel_rfl) (fun _ _ _ h => h) (Or.inl ⟨rfl, fun w9 hSw => by have hc := (ce.below (Kept.all hSw (by simp)) (CsAt.lt ce (by simp))).cell 2 _ rfl; go_simp⟩) hHeld ?_
          try simp only [Act.put, List.setIfInBounds_toArray, List.set_cons_zero, List.set_cons_succ]
          refine takeL 22 (.bool false) rfl (by kernel_rfl) (by kernel_rfl) (by kernel_rfl) (fun _ _ _ h => h) (Or.inl ⟨rfl, fun w9 hSw => by go_simp⟩) hHeld ?_
          try simp only [Act.put, List.setIfInBounds_toArray, List.set_cons_zero, List.set_cons_succ]
          refine takeL 23 (.bool false) rfl (by kernel_rfl) (by kernel_rfl) (by kernel_rfl) (fun _ _ _ h => h) (Or.inl ⟨rfl, fun w9 hSw => by go_simp⟩) hHeld ?_
          try simp only [Act.put, List.setIfInBounds_toArray, List.set_cons_zero, List.set_cons_succ]
          refine takeL 24 (.bool false) rfl (by kernel_rfl) (by kernel_rfl) (by kernel_rfl) (fun _ _ _ h => h) (Or.inl ⟨rfl, fun w9 hSw => by go_simp⟩) hHeld ?_
          try simp only [Act.put, List.setIfInBounds_toArray, List.set_cons_zero, List.set_cons_succ]
          refine wpAnyH_done (by kernel_rfl) ?_ _
          refine NoPanic.normal ?_
          have K2 := bw.trans ((Kept.all hHeld (by simp)).mono bw.size)
          clear hHeld
          go_wp2
          go_roundw
          case rel => exact ⟨j + 1, by omega, by first | rfl | go_num, K2⟩
          case measure => simp [intOf]; omega


set_option maxRecDepth 100000 in
theorem lifted (os : Os) (started : os.Started) (H : Type) (enc : TypeId × Value → H) :
    ReturnsInHanded {} Tryz.checked os 5 .any (Rows.fnDoOkSpec.pre6 enc Tryz.prog Tryz.f5 Rows.fnDoOkRow.domain false) (Rows.fnDoOkSpec.post enc Tryz.prog Tryz.f5 false true false false) := by
  refine returnsInHanded_of_change (C := Tryz.checked) own started (by kernel_rfl) Tryz.func5
    (ChangeSpec.witness6 (enc := enc) (C := Tryz.checked) false ⟨#[], #[.slice none 0 0], []⟩ 8 (by kernel_rfl) (by kernel_rfl) (by kernel_rfl) (by kernel_rfl)) ?_
  intro W base args ds gs before hval0 hW hcnd _
  have hval : ∀ (j : Nat) t v, Tryz.f5.params[j]? = some t → args[j]? = some v → Value.okWide Tryz.prog W .any base t v := hval0
  have hW' := hW
  obtain ⟨p, q, hA0, hV, rfl, hfz, hnd⟩ := hW
  have hA : DataW.TrodAll enc Tryz.prog W 0 (fun _ => true) true Tryz.f5.params.toList args.toList ds p := hA0
  rw [Tryz.params5] at hA hval
  obtain ⟨v0, vs0, d0, ds0, p0, q0, hargs, rfl, rfl, h0, r0⟩ := trodAll_cons hA
  obtain ⟨rfl, rfl, rfl⟩ := trodAll_nil r0
  obtain rfl : args = #[v0] := by cases args; simp_all
  obtain ⟨rfl, rfl⟩ := trodVars_none hV
  have kk0 := h0
  have lt0 : ∀ x ∈ p0, x.block < W.heap.size := by obtain ⟨m, hm⟩ := kk0; exact DataW.trod_lt m _ _ _ hm
  obtain ⟨a0, len0, cap0, rfl⟩ := okWide_slice Tryz.underlying22 (hval 0 22 v0 rfl rfl)
  obtain ⟨z0, w0⟩ : ∃ zs, IsRow .u8 W a0 len0 cap0 zs := by
    obtain ⟨fuel, hf⟩ := h0
    rcases open_ints Tryz.underlying22 Tryz.underlying5 (by kernel_rfl) hf with ⟨hcs, _⟩ | ⟨x, l, c, zs, hcs, _, hl, hm, hz, _, hcell, hwz⟩
    · simp [Value.cells] at hcs
      obtain ⟨rfl, rfl, rfl⟩ := hcs
      exact ⟨[], .inl ⟨rfl, rfl, rfl, rfl⟩⟩
    · simp [Value.cells] at hcs
      obtain ⟨rfl, rfl, rfl⟩ := hcs
      exact ⟨zs, .inr ⟨_, rfl, hl, hm, by simpa using hz, hcell, hwz⟩⟩
  clear hA0
  refine (walk a0 len0 cap0 z0 W w0).mono fun e W' ⟨he, bel⟩ => ?_
  subst he
  exact ⟨_, rfl, _, _, _, [], _, [], hW', trodAll_mk1 (shut_bool Tryz.underlying4 _), (trodAll_cons_mk (Below.trod laidOut (by kernel_rfl) (of_decide_eq_true (by kernel_rfl)) kk0 bel lt0) trodAll_mk0), rfl, bel.frame _, fun h => by cases h⟩

set_option maxRecDepth 100000 in
theorem facts : joinedFacts Tryz.prog 5 Tryz.f5 Rows.fnDoOkSpec Rows.fnDoOkRow = true := by
  unfold joinedFacts
  refine Facts.and_t ?_ (by as_aux_lemma => kernel_rfl)
  refine Facts.and_t ?_ (by as_aux_lemma => kernel_rfl)
  refine Facts.and_t ?_ (by as_aux_lemma => kernel_rfl)
  refine Facts.and_t ?_ (by as_aux_lemma => kernel_rfl)
  refine Facts.and_t ?_ (by show (Tryz.prog.make == some Make.cut) = true; rw [Facts.made]; rfl)
  refine Facts.and_t ?_ (by show (false == Tryz.prog.liftsFinal) = true; rw [Facts.lifts]; rfl)
  refine Facts.and_t ?_ (Facts.enters)
  refine Facts.and_t ?_ (Facts.heard)
  refine Facts.and_t ?_ (rfl)
  refine Facts.and_t ?_ (by show (true == Tryz.prog.plainKeys) = true; rw [Facts.keys]; rfl)
  refine Facts.and_t ?_ (by as_aux_lemma => kernel_rfl)
  refine Facts.and_t ?_ (by as_aux_lemma => kernel_rfl)
  refine Facts.and_t ?_ (by as_aux_lemma => kernel_rfl)
  refine Facts.and_t ?_ (by as_aux_lemma => kernel_rfl)
  refine Facts.and_t ?_ (by as_aux_lemma => kernel_rfl)
  refine Facts.and_t ?_ (by as_aux_lemma => kernel_rfl)
  refine Facts.and_t ?_ (by as_aux_lemma => kernel_rfl)
  refine Facts.and_t ?_ (by as_aux_lemma => kernel_rfl)
  refine Facts.and_t ?_ (by as_aux_lemma => kernel_rfl)
  refine Facts.and_t ?_ (by as_aux_lemma => kernel_rfl)
  refine Facts.and_t ?_ (by as_aux_lemma => kernel_rfl)
  refine Facts.and_t ?_ (by as_aux_lemma => kernel_rfl)
  refine Facts.and_t ?_ (by as_aux_lemma => kernel_rfl)
  refine Facts.and_t ?_ (by as_aux_lemma => kernel_rfl)
  refine Facts.and_t ?_ (by as_aux_lemma => kernel_rfl)
  refine Facts.and_t ?_ (by as_aux_lemma => kernel_rfl)
  refine Facts.and_t ?_ (by as_aux_lemma => kernel_rfl)
  refine Facts.and_t ?_ (by as_aux_lemma => kernel_rfl)
  refine Facts.and_t ?_ (by as_aux_lemma => kernel_rfl)
  refine Facts.and_t ?_ (Facts.rowed)
  refine Facts.and_t ?_ (Facts.laidOut)
  kernel_rfl

theorem over : Rows.fnDoOkRow.holds Tryz.pinned (OpenSpec.ofChange Rows.fnDoOkSpec) :=
  OpenClaim.holds_of_wide 5 Tryz.f5 rfl rfl rfl rfl rfl rfl rfl ⟨rfl, rfl, rfl, rfl, rfl⟩ rfl rfl rfl rfl rfl (by kernel_rfl) Tryz.func5 facts
    (of_decide_eq_true (by kernel_rfl)) (by unfold Func.isWrapper; first | (rw [if_pos (by decide +kernel)]; kernel_rfl) | (rw [if_neg (by decide +kernel)]; exact ⟨rfl, rfl⟩))
    (fun os started H enc _ => (lifted os started H enc))

end Go.Proofs.YtbiokmojjneleaaGreat.DoOk
namespace Go.Proofs.YtbiokmojjneleaaGreat
theorem fnDoOk_holds : Rows.FnDoOkSaid := DoOk.over
end Go.Proofs.YtbiokmojjneleaaGreat
