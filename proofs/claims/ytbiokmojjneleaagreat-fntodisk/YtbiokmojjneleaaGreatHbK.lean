/-
  Texts that belong together, one behind the other: PaA, PaB, PaC.
-/
import Derived.Test.YtbiokmojjneleaaGreatHbD
import Derived.Test.YtbiokmojjneleaaGreatHbC

/-
  What happens, as a plain thing, and the program's steps by which it happens: a table of method values.
-/
namespace Go.Proofs.YtbiokmojjneleaaGreat.PaA
open Go.ChangeShapes Go.WideShapes Go.ChangeAt Go.RowKit Go.Shelf OkA Big Fl ImplB ImplF ImplS _root_.Go.Proofs.YtbiokmojjneleaaGreat.Own ImplT ImplU SpecA SpecB SpecC SpecD SpecW Ok2 Pl ImplL Kp StA StB StC StD StF StG SpS SpT RmA WrA FlA SpU TwC LawX
set_option linter.unusedVariables false
set_option linter.unusedSimpArgs false
attribute [local go_sem ↓] Go.wp_at_zero Go.wp_at_succ

/-- What happens: its kind, address, value, cut, and whether it is torn. -/
structure Ev where
  k : Int
  a : Int
  b : Int
  c : Int
  t : Bool
def evC (x : Ev) : List Value := [.int .i64 x.k, .int .i64 x.a, .int .i64 x.b, .int .i64 x.c, .bool x.t]
def evP (bs : List Bk) (dk : List Int) (x : Ev) : List Stp := if x.k = 1 then writeP bs 1 x.a x.b else if x.k = 2 then flushP bs dk x.a else if x.k = 3 then fillP bs dk x.a else []
def evS (bs : List Bk) (dk : List Int) (x : Ev) : List Stp := if stB bs dk then evP bs dk x else []
theorem evS_1 {bs : List Bk} {dk : List Int} {x : Ev} (h : x.k = 1) : putS bs dk x.a x.b = evS bs dk x := by unfold putS evS evP; rw [if_pos h]
theorem evS_2 {bs : List Bk} {dk : List Int} {x : Ev} (h : x.k = 2) : flushS bs dk x.a = evS bs dk x := by unfold flushS evS evP; rw [if_neg (show ¬ x.k = 1 by omega), if_pos h]
theorem evS_3 {bs : List Bk} {dk : List Int} {x : Ev} (h : x.k = 3) : fillS bs dk x.a = evS bs dk x := by unfold fillS evS evP; rw [if_neg (show ¬ x.k = 1 by omega), if_neg (show ¬ x.k = 2 by omega), if_pos h]
theorem evS_0 {bs : List Bk} {dk : List Int} {x : Ev} (h1 : ¬ x.k = 1) (h2 : ¬ x.k = 2) (h3 : ¬ x.k = 3) : evS bs dk x = [] := by unfold evS evP; rw [if_neg h1, if_neg h2, if_neg h3]; split <;> rfl
theorem ev_len (bs : List Bk) (dk : List Int) (x : Ev) : (evS bs dk x).length ≤ 7 := by
  by_cases h1 : x.k = 1
  · rw [← evS_1 h1]; exact put_len bs dk x.a x.b
  by_cases h2 : x.k = 2
  · rw [← evS_2 h2]; exact flush_len bs dk x.a
  by_cases h3 : x.k = 3
  · rw [← evS_3 h3]; exact fill_len bs dk x.a
  rw [evS_0 h1 h2 h3]; simp

set_option maxRecDepth 100000 in
set_option maxHeartbeats 1000000 in
theorem evPut_any (x : Ev) (fa : Option Addr) (fc : Nat) (bs : List Bk) (da : Option Addr) (dc : Nat) (dk : List Int) (w : World) (h : SAt w fa bs da dk) (hm : bs.length ≤ 9223372036854775807) (hm2 : dk.length ≤ 9223372036854775807) :
    Calls Tryz.prog 95 #[.agg #[.int .i64 x.k, .int .i64 x.a, .int .i64 x.b, .int .i64 x.c, .bool x.t], .agg #[.slice fa bs.length fc, .slice da dk.length dc]] w fun e w' => StpPost w (putS bs dk x.a x.b) e w' := by
  have B0 : Below w.heap.size w ((w.alloc (.cells (evC x).toArray 42)).alloc (.cells #[.slice fa bs.length fc, .slice da dk.length dc] 26)) := ((Below.refl _ _).alloc (Nat.le_refl _) _).alloc (by simp) _
  have cE := (CsAt.new w (evC x) 42).alloc (by simp) (.cells #[.slice fa bs.length fc, .slice da dk.length dc] 26)
  have cS := store_box (w.alloc (.cells (evC x).toArray 42)) (.slice fa bs.length fc) (.slice da dk.length dc)
  rw [World.size_alloc] at cS
  have HC := hide (implPut_any fa fc bs da dc dk x.a x.b _ (h.below B0) hm hm2)
  clear h
  have e1 := cE.cell 1 _ rfl
  have e2 := cE.cell 2 _ rfl
  have x0 := cS.cell 0 _ rfl
  have x1 := cS.cell 1 _ rfl
  unfold evC at *
  go_enter Tryz.func95, Tryz.ntmps95
  go_wp2_with fail
  refine (unhide HC).mono ?_
  rintro e w1 ⟨v, rfl, hS, b1⟩
  have B1 := B0.trans (b1.mono B0.size)
  have hS1 := hS.mono B0.size
  clear cE cS e1 e2 x0 x1 HC hS
  go_wp2
  go_ret
  exact ⟨v, rfl, hS1, B1⟩

set_option maxRecDepth 100000 in
set_option maxHeartbeats 1000000 in
theorem evFlush_any (x : Ev) (ha0 : -9223372036854775808 ≤ x.a) (ha1 : x.a ≤ 9223372036854775807) (fa : Option Addr) (fc : Nat) (bs : List Bk) (da : Option Addr) (dc : Nat) (dk : List Int) (w : World) (h : SAt w fa bs da dk) (hm : bs.length ≤ 9223372036854775807) (hm2 : dk.length ≤ 9223372036854775807) :
    Calls Tryz.prog 96 #[.agg #[.int .i64 x.k, .int .i64 x.a, .int .i64 x.b, .int .i64 x.c, .bool x.t], .agg #[.slice fa bs.length fc, .slice da dk.length dc]] w fun e w' => StpPost w (flushS bs dk x.a) e w' := by
  have B0 : Below w.heap.size w ((w.alloc (.cells (evC x).toArray 42)).alloc (.cells #[.slice fa bs.length fc, .slice da dk.length dc] 26)) := ((Below.refl _ _).alloc (Nat.le_refl _) _).alloc (by simp) _
  have cE := (CsAt.new w (evC x) 42).alloc (by simp) (.cells #[.slice fa bs.length fc, .slice da dk.length dc] 26)
  have cS := store_box (w.alloc (.cells (evC x).toArray 42)) (.slice fa bs.length fc) (.slice da dk.length dc)
  rw [World.size_alloc] at cS
  have HC := hide (implFlush_any fa fc bs da dc dk x.a ha0 ha1 _ (h.below B0) hm hm2)
  clear h
  have e1 := cE.cell 1 _ rfl
  have x0 := cS.cell 0 _ rfl
  have x1 := cS.cell 1 _ rfl
  unfold evC at *
  go_enter Tryz.func96, Tryz.ntmps96
  go_wp2_with fail
  refine (unhide HC).mono ?_
  rintro e w1 ⟨v, rfl, hS, b1⟩
  have B1 := B0.trans (b1.mono B0.size)
  have hS1 := hS.mono B0.size
  clear cE cS e1 x0 x1 HC hS
  go_wp2
  go_ret
  exact ⟨v, rfl, hS1, B1⟩

set_option maxRecDepth 100000 in
set_option maxHeartbeats 1000000 in
theorem evFill_any (x : Ev) (fa : Option Addr) (fc : Nat) (bs : List Bk) (da : Option Addr) (dc : Nat) (dk : List Int) (w : World) (h : SAt w fa bs da dk) (hm : bs.length ≤ 9223372036854775807) (hm2 : dk.length ≤ 9223372036854775807) :
    Calls Tryz.prog 97 #[.agg #[.int .i64 x.k, .int .i64 x.a, .int .i64 x.b, .int .i64 x.c, .bool x.t], .agg #[.slice fa bs.length fc, .slice da dk.length dc]] w fun e w' => StpPost w (fillS bs dk x.a) e w' := by
  have B0 : Below w.heap.size w ((w.alloc (.cells (evC x).toArray 42)).alloc (.cells #[.slice fa bs.length fc, .slice da dk.length dc] 26)) := ((Below.refl _ _).alloc (Nat.le_refl _) _).alloc (by simp) _
  have cE := (CsAt.new w (evC x) 42).alloc (by simp) (.cells #[.slice fa bs.length fc, .slice da dk.length dc] 26)
  have cS := store_box (w.alloc (.cells (evC x).toArray 42)) (.slice fa bs.length fc) (.slice da dk.length dc)
  rw [World.size_alloc] at cS
  have HC := hide (implFill_any fa fc bs da dc dk x.a _ (h.below B0) hm hm2)
  clear h
  have e1 := cE.cell 1 _ rfl
  have x0 := cS.cell 0 _ rfl
  have x1 := cS.cell 1 _ rfl
  unfold evC at *
  go_enter Tryz.func97, Tryz.ntmps97
  go_wp2_with fail
  refine (unhide HC).mono ?_
  rintro e w1 ⟨v, rfl, hS, b1⟩
  have B1 := B0.trans (b1.mono B0.size)
  have hS1 := hS.mono B0.size
  clear cE cS e1 x0 x1 HC hS
  go_wp2
  go_ret
  exact ⟨v, rfl, hS1, B1⟩

/-! The table. -/
def evV (x : Ev) : Value := .agg #[.int .i64 x.k, .int .i64 x.a, .int .i64 x.b, .int .i64 x.c, .bool x.t]
def wayC (x : Ev) : List Value := [.int .i64 1, .func (.func 95) #[evV x] #[], .int .i64 2, .func (.func 96) #[evV x] #[], .int .i64 3, .func (.func 97) #[evV x] #[]]
set_option maxRecDepth 100000 in
set_option maxHeartbeats 1000000 in
theorem ways_any (x : Ev) (w : World) :
    Calls Tryz.prog 63 #[.agg #[.int .i64 x.k, .int .i64 x.a, .int .i64 x.b, .int .i64 x.c, .bool x.t]] w fun e w' => e = .returned (.slice (some ⟨w.heap.size + 1, 0, none⟩) 3 3) ∧ CsAt w' (w.heap.size + 1) (wayC x) ∧ w.heap.size + 1 < w'.heap.size ∧ Below w.heap.size w w' := by
  have B0 : Below w.heap.size w ((w.alloc (.cells (evC x).toArray 42)).alloc (.cells (wayC x).toArray 102)) := ((Below.refl _ _).alloc (Nat.le_refl _) _).alloc (by simp) _
  have cE := CsAt.new w (evC x) 42
  have cW := CsAt.new (w.alloc (.cells (evC x).toArray 42)) (wayC x) 102
  rw [World.size_alloc] at cW
  have s0 : w.heap.size + 1 < ((w.alloc (.cells (evC x).toArray 42)).alloc (.cells (wayC x).toArray 102)).heap.size := by simp
  have hP := hide (And.intro cW (And.intro s0 B0))
  have e0 := cE.cell 0 _ rfl
  have e1 := cE.cell 1 _ rfl
  have e2 := cE.cell 2 _ rfl
  have e3 := cE.cell 3 _ rfl
  have e4 := cE.cell 4 _ rfl
  clear cW s0 B0 cE
  unfold evC wayC evV at *
  go_enter Tryz.func63, Tryz.ntmps63
  go_wp2
  go_ret
  exact ⟨rfl, unhide hP⟩
end Go.Proofs.YtbiokmojjneleaaGreat.PaA

/-
  The program's steps by which something happens.
-/
namespace Go.Proofs.YtbiokmojjneleaaGreat.PaB
open TwA Go.ChangeShapes Go.WideShapes Go.ChangeAt Go.RowKit Go.Shelf OkA Big Fl ImplB ImplF ImplS _root_.Go.Proofs.YtbiokmojjneleaaGreat.Own ImplT ImplU SpecA SpecB SpecC SpecD SpecW Ok2 Pl ImplL Kp StA StB StC StD StF StG SpS SpT RmA WrA FlA SpU TwC LawX PaA
set_option linter.unusedVariables false
set_option linter.unusedSimpArgs false
attribute [local go_sem ↓] Go.wp_at_zero Go.wp_at_succ

theorem size_wy : (Tryz.prog.info? 102).map (·.size) = some 2 := by kernel_rfl
theorem way_at {w : World} {W : Nat} {cs : List Value} (h : w.rangeAt W 0 cs) (o : Nat) {u v : Value} (hj : cs[o]? = some u ∧ cs[o + 1]? = some v) : w.rangeAt W o [u, v] := fun i y hy => by
  match i, hy with
  | 0, hy => have := h o u hj.1; simp at hy; subst hy; simpa using this
  | 1, hy => have := h (o + 1) v hj.2; simp at hy; subst hy; simpa using this
  | (n + 2), hy => simp at hy

set_option maxRecDepth 100000 in
set_option maxHeartbeats 2000000 in
theorem implPlaySteps_any (x : Ev) (ha0 : -9223372036854775808 ≤ x.a) (ha1 : x.a ≤ 9223372036854775807) (fa : Option Addr) (fc : Nat) (bs : List Bk) (da : Option Addr) (dc : Nat) (dk : List Int) (w : World) (h : SAt w fa bs da dk) (hm : bs.length ≤ 9223372036854775807) (hm2 : dk.length ≤ 9223372036854775807) :
    Calls Tryz.prog 33 #[.agg #[.slice fa bs.length fc, .slice da dk.length dc], .agg #[.int .i64 x.k, .int .i64 x.a, .int .i64 x.b, .int .i64 x.c, .bool x.t]] w fun e w' => StpPost w (evS bs dk x) e w' := by
  have B0 : Below w.heap.size w ((w.alloc (.cells #[.slice fa bs.length fc, .slice da dk.length dc] 26)).alloc (.cells (evC x).toArray 42)) := ((Below.refl _ _).alloc (Nat.le_refl _) _).alloc (by simp) _
  have cS := (store_box w (.slice fa bs.length fc) (.slice da dk.length dc)).alloc (by simp) (.cells (evC x).toArray 42)
  have cE := CsAt.new (w.alloc (.cells #[.slice fa bs.length fc, .slice da dk.length dc] 26)) (evC x) 42
  rw [World.size_alloc] at cE
  have s0 : w.heap.size + 2 ≤ ((w.alloc (.cells #[.slice fa bs.length fc, .slice da dk.length dc] 26)).alloc (.cells (evC x).toArray 42)).heap.size := by simp
  have HA := hide h
  clear h
  have e0 := cE.cell 0 _ rfl
  have e1 := cE.cell 1 _ rfl
  have e2 := cE.cell 2 _ rfl
  have e3 := cE.cell 3 _ rfl
  have e4 := cE.cell 4 _ rfl
  unfold evC at B0 cS cE s0 e0 e1 e2 e3 e4
  go_enter Tryz.func33, Tryz.ntmps33
  go_wp2_with fail
  generalize (w.alloc (.cells #[.slice fa bs.length fc, .slice da dk.length dc] 26)).alloc _ = w0 at *
  refine (ways_any x w0).mono ?_
  rintro e w1 ⟨rfl, cW, s1, b1⟩
  have cS1 := cS.below b1 (by omega)
  have cE1 := cE.below b1 (by omega)
  have B1 := B0.trans (b1.mono B0.size)
  have hW : w.heap.size + 2 < w0.heap.size + 1 := by omega
  generalize w0.heap.size + 1 = W at *
  clear e0 e1 e2 e3 e4 cS cE b1 B0
  go_wp2
  go_loopw [10] (fun i w' => ∃ k : Nat, k ≤ 3 ∧ i = .int .i64 k ∧ Hid (∀ j : Nat, j < k → ¬ x.k = (j : Int) + 1) ∧ CsAt w' w.heap.size [.slice fa bs.length fc, .slice da dk.length dc] ∧ CsAt w' (w.heap.size + 1) [.int .i64 x.k, .int .i64 x.a, .int .i64 x.b, .int .i64 x.c, .bool x.t] ∧ CsAt w' W (wayC x) ∧ W < w'.heap.size ∧ Below w.heap.size w w') (fun i _ => 3 - (intOf i).toNat)
  case atStart => exact ⟨0, by omega, rfl, (fun j hj => by omega), cS1, cE1, cW, s1, B1⟩
  case round =>
    clear cS1 cE1 cW s1 B1
    obtain ⟨k, hk, rfl, HN, cS, cE, cW, hs, hB⟩ := hrel
    have e0 := cE.cell 0 _ rfl
    have x0 := cS.cell 0 _ rfl
    have x1 := cS.cell 1 _ rfl
    by_cases h0 : k = 3
    · subst h0
      have HE : Hid (evS bs dk x = []) := evS_0 (by have := unhide HN 0 (by omega); omega) (by have := unhide HN 1 (by omega); omega) (by have := unhide HN 2 (by omega); omega)
      go_wp2
      go_ret
      exact ⟨_, rfl, by rw [unhide HE]; exact _root_.Go.Proofs.YtbiokmojjneleaaGreat.TwA.Sts.nilN _ _, hB⟩
    obtain rfl | rfl | rfl : k = 0 ∨ k = 1 ∨ k = 2 := by omega
    · have rW : wr.rangeAt W 0 ([.int .i64 1, .func (.func 95) #[evV x] #[]] : List Value) := way_at cW.cells 0 ⟨rfl, rfl⟩
      have bA : Below wr.heap.size wr (wr.alloc (.cells ([.int .i64 1, .func (.func 95) #[evV x] #[]] : List Value).toArray 102)) := (Below.refl _ _).alloc (Nat.le_refl _) _
      have cY := CsAt.new wr ([.int .i64 1, .func (.func 95) #[evV x] #[]] : List Value) 102
      have sA : (wr.alloc (.cells ([.int .i64 1, .func (.func 95) #[evV x] #[]] : List Value).toArray 102)).heap.size = wr.heap.size + 1 := by simp
      have z0 := cY.cell 0 _ rfl
      have z1 := cY.cell 1 _ rfl
      have HS2 : Hid ((Tryz.prog.info? 102).map (·.size) = some ([.int .i64 1, .func (.func 95) #[evV x] #[]] : List Value).length) := size_wy
      have HS3 : Hid ((Tryz.prog.info? 102).map (·.size) = some ([.int .i64 1, .func (.func 95) #[evV x] #[]] : List Value).toArray.size) := size_wy
      have HS4 : Hid ((#[.int .i64 0, .nilFunc] : Array Value).size = ([.int .i64 1, .func (.func 95) #[evV x] #[]] : List Value).toArray.size) := rfl
      have HS5 : Hid (([.int .i64 1, .func (.func 95) #[evV x] #[]] : List Value).toArray.all (·.oneCell') = true) := by show _ = _; simp [Value.oneCell']
      clear cY
      generalize ([.int .i64 1, .func (.func 95) #[evV x] #[]] : List Value) = vs at *
      have cS2 := cS.below bA (by omega)
      have cE2 := cE.below bA (by omega)
      have cW2 := cW.below bA (by omega)
      have hB2 := hB.trans (bA.mono hB.size)
      have e0' := cE2.cell 0 _ rfl
      have x0' := cS2.cell 0 _ rfl
      have x1' := cS2.cell 1 _ rfl
      by_cases hq : x.k = 1
      · have HE := hide (evS_1 (bs := bs) (dk := dk) hq)
        have HC := hide (evPut_any x fa fc bs da dc dk _ ((unhide HA).below hB2) hm hm2)
        rw [unhide HE] at HC
        go_wp2_with (first | (refine wpList_load_mid rfl 102 _ rfl W 0 rfl vs _ rW Tryz.underlying102 rfl (unhide HS2) ?_) | (refine wpList_store_new rfl 102 _ _ rfl wr #[.int .i64 0, .nilFunc] vs.toArray rfl rfl rfl (unhide HS3) (unhide HS4) (unhide HS5) ?_))
        generalize wr.alloc (.cells vs.toArray 102) = w2 at *
        refine (unhide HC).mono ?_
        rintro e w3 ⟨v, rfl, hS, b3⟩
        have B3 := hB2.trans (b3.mono hB2.size)
        have hS3 := hS.mono hB2.size
        clear z0 z1 e0' x0' x1' cS2 cE2 cW2 HC hS
        go_wp2
        go_ret
        exact ⟨v, rfl, hS3, B3⟩
      · have HN2 : Hid (∀ j : Nat, j < 0 + 1 → ¬ x.k = (j : Int) + 1) := fun j hj => by
          by_cases h9 : j = 0
          · subst h9; omega
          · exact unhide HN j (by omega)
        have s2 : W < (wr.alloc (.cells vs.toArray 102)).heap.size := by omega
        go_wp2_with (first | (refine wpList_load_mid rfl 102 _ rfl W 0 rfl vs _ rW Tryz.underlying102 rfl (unhide HS2) ?_) | (refine wpList_store_new rfl 102 _ _ rfl wr #[.int .i64 0, .nilFunc] vs.toArray rfl rfl rfl (unhide HS3) (unhide HS4) (unhide HS5) ?_))
        generalize wr.alloc (.cells vs.toArray 102) = w2 at *
        go_roundw
        case rel => exact ⟨0 + 1, by omega, by first | rfl | go_num, HN2, cS2, cE2, cW2, s2, hB2⟩
        case measure => simp [intOf]
    · have rW : wr.rangeAt W 2 ([.int .i64 2, .func (.func 96) #[evV x] #[]] : List Value) := way_at cW.cells 2 ⟨rfl, rfl⟩
      have bA : Below wr.heap.size wr (wr.alloc (.cells ([.int .i64 2, .func (.func 96) #[evV x] #[]] : List Value).toArray 102)) := (Below.refl _ _).alloc (Nat.le_refl _) _
      have cY := CsAt.new wr ([.int .i64 2, .func (.func 96) #[evV x] #[]] : List Value) 102
      have sA : (wr.alloc (.cells ([.int .i64 2, .func (.func 96) #[evV x] #[]] : List Value).toArray 102)).heap.size = wr.heap.size + 1 := by simp
      have z0 := cY.cell 0 _ rfl
      have z1 := cY.cell 1 _ rfl
      have HS2 : Hid ((Tryz.prog.info? 102).map (·.size) = some ([.int .i64 2, .func (.func 96) #[evV x] #[]] : List Value).length) := size_wy
      have HS3 : Hid ((Tryz.prog.info? 102).map (·.size) = some ([.int .i64 2, .func (.func 96) #[evV x] #[]] : List Value).toArray.size) := size_wy
      have HS4 : Hid ((#[.int .i64 0, .nilFunc] : Array Value).size = ([.int .i64 2, .func (.func 96) #[evV x] #[]] : List Value).toArray.size) := rfl
      have HS5 : Hid (([.int .i64 2, .func (.func 96) #[evV x] #[]] : List Value).toArray.all (·.oneCell') = true) := by show _ = _; simp [Value.oneCell']
      clear cY
      generalize ([.int .i64 2, .func (.func 96) #[evV x] #[]] : List Value) = vs at *
      have cS2 := cS.below bA (by omega)
      have cE2 := cE.below bA (by omega)
      have cW2 := cW.below bA (by omega)
      have hB2 := hB.trans (bA.mono hB.size)
      have e0' := cE2.cell 0 _ rfl
      have x0' := cS2.cell 0 _ rfl
      have x1' := cS2.cell 1 _ rfl
      by_cases hq : x.k = 2
      · have HE := hide (evS_2 (bs := bs) (dk := dk) hq)
        have HC := hide (evFlush_any x ha0 ha1 fa fc bs da dc dk _ ((unhide HA).below hB2) hm hm2)
        rw [unhide HE] at HC
        go_wp2_with (first | (refine wpList_load_mid rfl 102 _ rfl W 2 rfl vs _ rW Tryz.underlying102 rfl (unhide HS2) ?_) | (refine wpList_store_new rfl 102 _ _ rfl wr #[.int .i64 0, .nilFunc] vs.toArray rfl rfl rfl (unhide HS3) (unhide HS4) (unhide HS5) ?_))
        generalize wr.alloc (.cells vs.toArray 102) = w2 at *
        refine (unhide HC).mono ?_
        rintro e w3 ⟨v, rfl, hS, b3⟩
        have B3 := hB2.trans (b3.mono hB2.size)
        have hS3 := hS.mono hB2.size
        clear z0 z1 e0' x0' x1' cS2 cE2 cW2 HC hS
        go_wp2
        go_ret
        exact ⟨v, rfl, hS3, B3⟩
      · have HN2 : Hid (∀ j : Nat, j < 1 + 1 → ¬ x.k = (j : Int) + 1) := fun j hj => by
          by_cases h9 : j = 1
          · subst h9; omega
          · exact unhide HN j (by omega)
        have s2 : W < (wr.alloc (.cells vs.toArray 102)).heap.size := by omega
        go_wp2_with (first | (refine wpList_load_mid rfl 102 _ rfl W 2 rfl vs _ rW Tryz.underlying102 rfl (unhide HS2) ?_) | (refine wpList_store_new rfl 102 _ _ rfl wr #[.int .i64 0, .nilFunc] vs.toArray rfl rfl rfl (unhide HS3) (unhide HS4) (unhide HS5) ?_))
        generalize wr.alloc (.cells vs.toArray 102) = w2 at *
        go_roundw
        case rel => exact ⟨1 + 1, by omega, by first | rfl | go_num, HN2, cS2, cE2, cW2, s2, hB2⟩
        case measure => simp [intOf]
    · have rW : wr.rangeAt W 4 ([.int .i64 3, .func (.func 97) #[evV x] #[]] : List Value) := way_at cW.cells 4 ⟨rfl, rfl⟩
      have bA : Below wr.heap.size wr (wr.alloc (.cells ([.int .i64 3, .func (.func 97) #[evV x] #[]] : List Value).toArray 102)) := (Below.refl _ _).alloc (Nat.le_refl _) _
      have cY := CsAt.new wr ([.int .i64 3, .func (.func 97) #[evV x] #[]] : List Value) 102
      have sA : (wr.alloc (.cells ([.int .i64 3, .func (.func 97) #[evV x] #[]] : List Value).toArray 102)).heap.size = wr.heap.size + 1 := by simp
      have z0 := cY.cell 0 _ rfl
      have z1 := cY.cell 1 _ rfl
      have HS2 : Hid ((Tryz.prog.info? 102).map (·.size) = some ([.int .i64 3, .func (.func 97) #[evV x] #[]] : List Value).length) := size_wy
      have HS3 : Hid ((Tryz.prog.info? 102).map (·.size) = some ([.int .i64 3, .func (.func 97) #[evV x] #[]] : List Value).toArray.size) := size_wy
      have HS4 : Hid ((#[.int .i64 0, .nilFunc] : Array Value).size = ([.int .i64 3, .func (.func 97) #[evV x] #[]] : List Value).toArray.size) := rfl
      have HS5 : Hid (([.int .i64 3, .func (.func 97) #[evV x] #[]] : List Value).toArray.all (·.oneCell') = true) := by show _ = _; simp [Value.oneCell']
      clear cY
      generalize ([.int .i64 3, .func (.func 97) #[evV x] #[]] : List Value) = vs at *
      have cS2 := cS.below bA (by omega)
      have cE2 := cE.below bA (by omega)
      have cW2 := cW.below bA (by omega)
      have hB2 := hB.trans (bA.mono hB.size)
      have e0' := cE2.cell 0 _ rfl
      have x0' := cS2.cell 0 _ rfl
      have x1' := cS2.cell 1 _ rfl
      by_cases hq : x.k = 3
      · have HE := hide (evS_3 (bs := bs) (dk := dk) hq)
        have HC := hide (evFill_any x fa fc bs da dc dk _ ((unhide HA).below hB2) hm hm2)
        rw [unhide HE] at HC
        go_wp2_with (first | (refine wpList_load_mid rfl 102 _ rfl W 4 rfl vs _ rW Tryz.underlying102 rfl (unhide HS2) ?_) | (refine wpList_store_new rfl 102 _ _ rfl wr #[.int .i64 0, .nilFunc] vs.toArray rfl rfl rfl (unhide HS3) (unhide HS4) (unhide HS5) ?_))
        generalize wr.alloc (.cells vs.toArray 102) = w2 at *
        refine (unhide HC).mono ?_
        rintro e w3 ⟨v, rfl, hS, b3⟩
        have B3 := hB2.trans (b3.mono hB2.size)
        have hS3 := hS.mono hB2.size
        clear z0 z1 e0' x0' x1' cS2 cE2 cW2 HC hS
        go_wp2
        go_ret
        exact ⟨v, rfl, hS3, B3⟩
      · have HN2 : Hid (∀ j : Nat, j < 2 + 1 → ¬ x.k = (j : Int) + 1) := fun j hj => by
          by_cases h9 : j = 2
          · subst h9; omega
          · exact unhide HN j (by omega)
        have s2 : W < (wr.alloc (.cells vs.toArray 102)).heap.size := by omega
        go_wp2_with (first | (refine wpList_load_mid rfl 102 _ rfl W 4 rfl vs _ rW Tryz.underlying102 rfl (unhide HS2) ?_) | (refine wpList_store_new rfl 102 _ _ rfl wr #[.int .i64 0, .nilFunc] vs.toArray rfl rfl rfl (unhide HS3) (unhide HS4) (unhide HS5) ?_))
        generalize wr.alloc (.cells vs.toArray 102) = w2 at *
        go_roundw
        case rel => exact ⟨2 + 1, by omega, by first | rfl | go_num, HN2, cS2, cE2, cW2, s2, hB2⟩
        case measure => simp [intOf]
end Go.Proofs.YtbiokmojjneleaaGreat.PaB

/-
  The specification's steps by which something happens.
-/
namespace Go.Proofs.YtbiokmojjneleaaGreat.PaC
open Go.ChangeShapes Go.WideShapes Go.ChangeAt Go.RowKit Go.Shelf OkA Big Fl ImplB ImplF ImplS _root_.Go.Proofs.YtbiokmojjneleaaGreat.Own ImplT ImplU SpecA SpecB SpecC SpecD SpecW Ok2 Pl ImplL Kp StA StB StC StD StF StG SpS SpT RmA WrA FlA SpU TwC LawX PaA
set_option linter.unusedVariables false
set_option linter.unusedSimpArgs false
attribute [local go_sem ↓] Go.wp_at_zero Go.wp_at_succ

set_option maxRecDepth 100000 in
set_option maxHeartbeats 2000000 in
theorem l21Steps_any (k a b c : Int) (t : Bool) (fa : Option Addr) (fc : Nat) (bs : List Bk) (da : Option Addr) (dc : Nat) (dk : List Int) (w : World) (h : SAt w fa bs da dk) (hs : stB bs dk = true) :
    Calls Tryz.prog 64 #[.agg #[.slice fa bs.length fc, .slice da dk.length dc], .agg #[.int .i64 k, .int .i64 a, .int .i64 b, .int .i64 c, .bool t]] w fun e w' => StpPost w (evS bs dk ⟨k, a, b, c, t⟩) e w' := by
  obtain ⟨hok, h6⟩ := st_parts hs
  have h4 := ok_len hok
  rw [h4, h6]
  have B0 : Below w.heap.size w ((w.alloc (.cells #[.slice fa 4 fc, .slice da 6 dc] 26)).alloc (.cells #[.int .i64 k, .int .i64 a, .int .i64 b, .int .i64 c, .bool t] 42)) := ((Below.refl _ _).alloc (Nat.le_refl _) _).alloc (by simp) _
  have HE : Hid (evS bs dk ⟨k, a, b, c, t⟩ = evP bs dk ⟨k, a, b, c, t⟩) := by show _ = _; unfold evS; rw [hs]; rfl
  have cS := (store_box w (.slice fa 4 fc) (.slice da 6 dc)).alloc (by simp) (.cells #[.int .i64 k, .int .i64 a, .int .i64 b, .int .i64 c, .bool t] 42)
  have cE := CsAt.new (w.alloc (.cells #[.slice fa 4 fc, .slice da 6 dc] 26)) [.int .i64 k, .int .i64 a, .int .i64 b, .int .i64 c, .bool t] 42
  rw [World.size_alloc] at cE
  have HA1 := hide (h.below B0)
  obtain ⟨fb, fo, rfl, hf1⟩ := fs_some (unhide HA1).fs h4
  obtain ⟨db, dof, rfl, hd1⟩ := dk_some (unhide HA1).ds h6
  have x0 := cS.cell 0 _ rfl
  have x1 := cS.cell 1 _ rfl
  have e0 := cE.cell 0 _ rfl
  have e1 := cE.cell 1 _ rfl
  have e2 := cE.cell 2 _ rfl
  have HW := hide (fun kind addr val => write_steps fb fo fc (.slice (some ⟨db, dof, none⟩) 6 dc) kind addr val bs _ hok hf1)
  have HF := hide (fun addr => flush_steps fb fo fc db dof dc dk h6 addr bs _ hok hf1 hd1)
  have HI := hide (fun addr => fill_steps fb fo fc db dof dc dk h6 addr bs _ hok hf1 hd1)
  clear hf1 hd1 HA1 h cS cE
  clear h4 h6
  generalize hR : evS bs dk ⟨k, a, b, c, t⟩ = R at *
  clear hR
  go_enter Tryz.func64, Tryz.ntmps64
  by_cases hk1 : k = 1
  · have HR : Hid (R = writeP bs 1 a b) := by show _ = _; rw [unhide HE]; unfold evP; simp only [if_pos hk1]
    subst hk1
    go_wp2_with fail
    refine (unhide HW 1 a b).mono ?_
    rintro e w1 ⟨v, rfl, hS, b1⟩
    have B1 := B0.trans (b1.mono B0.size)
    have hS1 := hS.mono B0.size
    clear x0 x1 e0 e1 e2 HW HF HI hS
    go_wp2
    go_ret
    exact ⟨v, rfl, by rw [unhide HR]; exact hS1, B1⟩
  by_cases hk2 : k = 2
  · have HR : Hid (R = flushP bs dk a) := by show _ = _; rw [unhide HE]; unfold evP; simp only [if_neg hk1, if_pos hk2]
    subst hk2
    go_wp2_with fail
    refine (unhide HF a).mono ?_
    rintro e w1 ⟨v, rfl, hS, b1⟩
    have B1 := B0.trans (b1.mono B0.size)
    have hS1 := hS.mono B0.size
    clear x0 x1 e0 e1 e2 HW HF HI hS
    go_wp2
    go_ret
    exact ⟨v, rfl, by rw [unhide HR]; exact hS1, B1⟩
  by_cases hk3 : k = 3
  · have HR : Hid (R = fillP bs dk a) := by show _ = _; rw [unhide HE]; unfold evP; simp only [if_neg hk1, if_neg hk2, if_pos hk3]
    subst hk3
    go_wp2_with fail
    refine (unhide HI a).mono ?_
    rintro e w1 ⟨v, rfl, hS, b1⟩
    have B1 := B0.trans (b1.mono B0.size)
    have hS1 := hS.mono B0.size
    clear x0 x1 e0 e1 e2 HW HF HI hS
    go_wp2
    go_ret
    exact ⟨v, rfl, by rw [unhide HR]; exact hS1, B1⟩
  have HR : Hid (R = []) := by show _ = _; rw [unhide HE]; unfold evP; simp only [if_neg hk1, if_neg hk2, if_neg hk3]
  have nl := Sts.nil _ w.heap.size B0.size
  have nB := B0.alloc B0.size (.cells #[] 38)
  clear HW HF HI
  go_wp2
  go_ret
  exact ⟨_, rfl, by rw [unhide HR]; simpa using nl, nB⟩

set_option maxRecDepth 100000 in
set_option maxHeartbeats 2000000 in
theorem specPlaySteps_any (k a b c : Int) (t : Bool) (fa : Option Addr) (fc : Nat) (bs : List Bk) (da : Option Addr) (dc : Nat) (dk : List Int) (w : World) (h : SAt w fa bs da dk) (hm : bs.length ≤ 1048576) (hp : ∀ b ∈ bs, b.ps.length ≤ 1048576) (hm2 : dk.length ≤ 1048576) :
    Calls Tryz.prog 34 #[.agg #[.slice fa bs.length fc, .slice da dk.length dc], .agg #[.int .i64 k, .int .i64 a, .int .i64 b, .int .i64 c, .bool t]] w fun e w' => StpPost w (evS bs dk ⟨k, a, b, c, t⟩) e w' := by
  have B0 : Below w.heap.size w ((w.alloc (.cells #[.slice fa bs.length fc, .slice da dk.length dc] 26)).alloc (.cells #[.int .i64 k, .int .i64 a, .int .i64 b, .int .i64 c, .bool t] 42)) := ((Below.refl _ _).alloc (Nat.le_refl _) _).alloc (by simp) _
  have cS := (store_box w (.slice fa bs.length fc) (.slice da dk.length dc)).alloc (by simp) (.cells #[.int .i64 k, .int .i64 a, .int .i64 b, .int .i64 c, .bool t] 42)
  have cE := CsAt.new (w.alloc (.cells #[.slice fa bs.length fc, .slice da dk.length dc] 26)) [.int .i64 k, .int .i64 a, .int .i64 b, .int .i64 c, .bool t] 42
  rw [World.size_alloc] at cE
  have s0 : w.heap.size + 2 ≤ ((w.alloc (.cells #[.slice fa bs.length fc, .slice da dk.length dc] 26)).alloc (.cells #[.int .i64 k, .int .i64 a, .int .i64 b, .int .i64 c, .bool t] 42)).heap.size := by simp
  have HA := hide (h.below B0)
  have HC := hide (specOk_st fa fc bs da dc dk _ (h.below B0) hm hp hm2)
  have HN : Hid (stB bs dk = false → evS bs dk ⟨k, a, b, c, t⟩ = []) := fun hs => by unfold evS; rw [hs]; rfl
  clear h
  have x0 := cS.cell 0 _ rfl
  have x1 := cS.cell 1 _ rfl
  go_enter Tryz.func34, Tryz.ntmps34
  go_wp2_with fail
  generalize (w.alloc (.cells #[.slice fa bs.length fc, .slice da dk.length dc] 26)).alloc (.cells #[.int .i64 k, .int .i64 a, .int .i64 b, .int .i64 c, .bool t] 42) = w0 at *
  refine (unhide HC).mono ?_
  rintro e w1 ⟨rfl, b1⟩
  have cS1 := cS.below b1 (by omega)
  have cE1 := cE.below b1 (by omega)
  have B1 := B0.trans (b1.mono B0.size)
  have HA1 := hide ((unhide HA).below b1)
  clear cS cE B0 b1 s0 x0 x1 HC HA
  cases hs : stB bs dk
  · have HE := hide (unhide HN hs)
    have nl := Sts.nil w1 w.heap.size B1.size
    have nB := B1.alloc B1.size (.cells #[] 38)
    go_wp2
    go_ret
    exact ⟨_, rfl, by rw [unhide HE]; exact nl, nB⟩
  have HCL := hide (l21Steps_any k a b c t fa fc bs da dc dk w1 (unhide HA1) hs)
  have x0 := cS1.cell 0 _ rfl
  have x1 := cS1.cell 1 _ rfl
  have e0 := cE1.cell 0 _ rfl
  have e1 := cE1.cell 1 _ rfl
  have e2 := cE1.cell 2 _ rfl
  have e3 := cE1.cell 3 _ rfl
  have e4 := cE1.cell 4 _ rfl
  clear HN HA1 hs
  go_wp2_with fail
  refine (unhide HCL).mono ?_
  rintro e w2 ⟨v, rfl, hS, b2⟩
  have hS2 := hS.mono B1.size
  have B2 := B1.trans (b2.mono B1.size)
  clear x0 x1 e0 e1 e2 e3 e4 cS1 cE1 hS b2 B1 HCL
  go_wp2
  go_ret
  exact ⟨v, rfl, hS2, B2⟩
end Go.Proofs.YtbiokmojjneleaaGreat.PaC
