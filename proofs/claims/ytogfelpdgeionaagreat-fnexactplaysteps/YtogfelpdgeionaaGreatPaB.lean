/-
  The program's steps by which something happens.
-/
import Derived.Test.YtogfelpdgeionaaGreatPaA
import Derived.Test.YtogfelpdgeionaaGreatGbH
namespace Go.Proofs.YtogfelpdgeionaaGreat.PaB
open TwA Go.ChangeShapes Go.WideShapes Go.ChangeAt Go.RowKit Go.Shelf OkA Big Fl ImplB ImplF ImplS _root_.Go.Proofs.YtogfelpdgeionaaGreat.Own ImplT ImplU SpecA SpecB SpecC SpecD SpecW Ok2 Pl ImplL Kp StA StB StC StD StF StG SpS SpT RmA WrA FlA SpU TwC LawX PaA
set_option linter.unusedVariables false
set_option linter.unusedSimpArgs false
attribute [local go_sem ↓] Go.wp_at_zero Go.wp_at_succ

theorem size_wy : (Tryz.prog.info? 159).map (·.size) = some 2 := by kernel_rfl
theorem way_at {w : World} {W : Nat} {cs : List Value} (h : w.rangeAt W 0 cs) (o : Nat) {u v : Value} (hj : cs[o]? = some u ∧ cs[o + 1]? = some v) : w.rangeAt W o [u, v] := fun i y hy => by
  match i, hy with
  | 0, hy => have := h o u hj.1; simp at hy; subst hy; simpa using this
  | 1, hy => have := h (o + 1) v hj.2; simp at hy; subst hy; simpa using this
  | (n + 2), hy => simp at hy

set_option maxRecDepth 100000 in
set_option maxHeartbeats 2000000 in
theorem implPlaySteps_any (x : Ev) (ha0 : -9223372036854775808 ≤ x.a) (ha1 : x.a ≤ 9223372036854775807) (fa : Option Addr) (fc : Nat) (bs : List Bk) (da : Option Addr) (dc : Nat) (dk : List Int) (w : World) (h : SAt w fa bs da dk) (hm : bs.length ≤ 9223372036854775807) (hm2 : dk.length ≤ 9223372036854775807) :
    Calls Tryz.prog 54 #[.agg #[.slice fa bs.length fc, .slice da dk.length dc], .agg #[.int .i64 x.k, .int .i64 x.a, .int .i64 x.b, .int .i64 x.c, .bool x.t]] w fun e w' => StpPost w (evS bs dk x) e w' := by
  have B0 : Below w.heap.size w ((w.alloc (.cells #[.slice fa bs.length fc, .slice da dk.length dc] 26)).alloc (.cells (evC x).toArray 62)) := ((Below.refl _ _).alloc (Nat.le_refl _) _).alloc (by simp) _
  have cS := (store_box w (.slice fa bs.length fc) (.slice da dk.length dc)).alloc (by simp) (.cells (evC x).toArray 62)
  have cE := CsAt.new (w.alloc (.cells #[.slice fa bs.length fc, .slice da dk.length dc] 26)) (evC x) 62
  rw [World.size_alloc] at cE
  have s0 : w.heap.size + 2 ≤ ((w.alloc (.cells #[.slice fa bs.length fc, .slice da dk.length dc] 26)).alloc (.cells (evC x).toArray 62)).heap.size := by simp
  have HA := hide h
  clear h
  have e0 := cE.cell 0 _ rfl
  have e1 := cE.cell 1 _ rfl
  have e2 := cE.cell 2 _ rfl
  have e3 := cE.cell 3 _ rfl
  have e4 := cE.cell 4 _ rfl
  unfold evC at B0 cS cE s0 e0 e1 e2 e3 e4
  go_enter Tryz.func54, Tryz.ntmps54
  go_wp2_with fail
  generalize (w.alloc (.cells #[.slice fa bs.length fc, .slice da dk.length dc] 26)).alloc _ = w0 at *
  refine (ways_any x w0).mono ?_
  rintro e w1 ⟨rfl, cW, s1, b1⟩
  have cS1 := cS.below b1 (by omega)
  have cE1 := cE.below b1 (by omega)
  have B1 := B0.trans (b1.mono B0.size)
  have hW : w.heap.size + 2 < w0.heap.size + 1 := by omega
  generalize w0.heap.size + 1 = W at *
  clear e0 e1 e2 e3 e4 cS cE b1 B0
  go_wp2
  go_loopw [10] (fun i w' => ∃ k : Nat, k ≤ 3 ∧ i = .int .i64 k ∧ Hid (∀ j : Nat, j < k → ¬ x.k = (j : Int) + 1) ∧ CsAt w' w.heap.size [.slice fa bs.length fc, .slice da dk.length dc] ∧ CsAt w' (w.heap.size + 1) [.int .i64 x.k, .int .i64 x.a, .int .i64 x.b, .int .i64 x.c, .bool x.t] ∧ CsAt w' W (wayC x) ∧ W < w'.heap.size ∧ Below w.heap.size w w') (fun i _ => 3 - (intOf i).toNat)
  case atStart => exact ⟨0, by omega, rfl, (fun j hj => by omega), cS1, cE1, cW, s1, B1⟩
  case round =>
    clear cS1 cE1 cW s1 B1
    obtain ⟨k, hk, rfl, HN, cS, cE, cW, hs, hB⟩ := hrel
    have e0 := cE.cell 0 _ rfl
    have x0 := cS.cell 0 _ rfl
    have x1 := cS.cell 1 _ rfl
    by_cases h0 : k = 3
    · subst h0
      have HE : Hid (evS bs dk x = []) := evS_0 (by have := unhide HN 0 (by omega); omega) (by have := unhide HN 1 (by omega); omega) (by have := unhide HN 2 (by omega); omega)
      go_wp2
      go_ret
      exact ⟨_, rfl, by rw [unhide HE]; exact _root_.Go.Proofs.YtogfelpdgeionaaGreat.TwA.Sts.nilN _ _, hB⟩
    obtain rfl | rfl | rfl : k = 0 ∨ k = 1 ∨ k = 2 := by omega
    · have rW : wr.rangeAt W 0 ([.int .i64 1, .func (.func 192) #[evV x] #[]] : List Value) := way_at cW.cells 0 ⟨rfl, rfl⟩
      have bA : Below wr.heap.size wr (wr.alloc (.cells ([.int .i64 1, .func (.func 192) #[evV x] #[]] : List Value).toArray 159)) := (Below.refl _ _).alloc (Nat.le_refl _) _
      have cY := CsAt.new wr ([.int .i64 1, .func (.func 192) #[evV x] #[]] : List Value) 159
      have sA : (wr.alloc (.cells ([.int .i64 1, .func (.func 192) #[evV x] #[]] : List Value).toArray 159)).heap.size = wr.heap.size + 1 := by simp
      have z0 := cY.cell 0 _ rfl
      have z1 := cY.cell 1 _ rfl
      have HS2 : Hid ((Tryz.prog.info? 159).map (·.size) = some ([.int .i64 1, .func (.func 192) #[evV x] #[]] : List Value).length) := size_wy
      have HS3 : Hid ((Tryz.prog.info? 159).map (·.size) = some ([.int .i64 1, .func (.func 192) #[evV x] #[]] : List Value).toArray.size) := size_wy
      have HS4 : Hid ((#[.int .i64 0, .nilFunc] : Array Value).size = ([.int .i64 1, .func (.func 192) #[evV x] #[]] : List Value).toArray.size) := rfl
      have HS5 : Hid (([.int .i64 1, .func (.func 192) #[evV x] #[]] : List Value).toArray.all (·.oneCell') = true) := by show _ = _; simp [Value.oneCell']
      clear cY
      generalize ([.int .i64 1, .func (.func 192) #[evV x] #[]] : List Value) = vs at *
      have cS2 := cS.below bA (by omega)
      have cE2 := cE.below bA (by omega)
      have cW2 := cW.below bA (by omega)
      have hB2 := hB.trans (bA.mono hB.size)
      have e0' := cE2.cell 0 _ rfl
      have x0' := cS2.cell 0 _ rfl
      have x1' := cS2.cell 1 _ rfl
      by_cases hq : x.k = 1
      · have HE := hide (evS_1 (bs := bs) (dk := dk) hq)
        have HC := hide (evPut_any x fa fc bs da dc dk _ ((unhide HA).below hB2) hm hm2)
        rw [unhide HE] at HC
        go_wp2_with (first | (refine wpList_load_mid rfl 159 _ rfl W 0 rfl vs _ rW Tryz.underlying159 rfl (unhide HS2) ?_) | (refine wpList_store_new rfl 159 _ _ rfl wr #[.int .i64 0, .nilFunc] vs.toArray rfl rfl rfl (unhide HS3) (unhide HS4) (unhide HS5) ?_))
        generalize wr.alloc (.cells vs.toArray 159) = w2 at *
        refine (unhide HC).mono ?_
        rintro e w3 ⟨v, rfl, hS, b3⟩
        have B3 := hB2.trans (b3.mono hB2.size)
        have hS3 := hS.mono hB2.size
        clear z0 z1 e0' x0' x1' cS2 cE2 cW2 HC hS
        go_wp2
        go_ret
        exact ⟨v, rfl, hS3, B3⟩
      · have HN2 : Hid (∀ j : Nat, j < 0 + 1 → ¬ x.k = (j : Int) + 1) := fun j hj => by
          by_cases h9 : j = 0
          · subst h9; omega
          · exact unhide HN j (by omega)
        have s2 : W < (wr.alloc (.cells vs.toArray 159)).heap.size := by omega
        go_wp2_with (first | (refine wpList_load_mid rfl 159 _ rfl W 0 rfl vs _ rW Tryz.underlying159 rfl (unhide HS2) ?_) | (refine wpList_store_new rfl 159 _ _ rfl wr #[.int .i64 0, .nilFunc] vs.toArray rfl rfl rfl (unhide HS3) (unhide HS4) (unhide HS5) ?_))
        generalize wr.alloc (.cells vs.toArray 159) = w2 at *
        go_roundw
        case rel => exact ⟨0 + 1, by omega, by first | rfl | go_num, HN2, cS2, cE2, cW2, s2, hB2⟩
        case measure => simp [intOf]
    · have rW : wr.rangeAt W 2 ([.int .i64 2, .func (.func 193) #[evV x] #[]] : List Value) := way_at cW.cells 2 ⟨rfl, rfl⟩
      have bA : Below wr.heap.size wr (wr.alloc (.cells ([.int .i64 2, .func (.func 193) #[evV x] #[]] : List Value).toArray 159)) := (Below.refl _ _).alloc (Nat.le_refl _) _
      have cY := CsAt.new wr ([.int .i64 2, .func (.func 193) #[evV x] #[]] : List Value) 159
      have sA : (wr.alloc (.cells ([.int .i64 2, .func (.func 193) #[evV x] #[]] : List Value).toArray 159)).heap.size = wr.heap.size + 1 := by simp
      have z0 := cY.cell 0 _ rfl
      have z1 := cY.cell 1 _ rfl
      have HS2 : Hid ((Tryz.prog.info? 159).map (·.size) = some ([.int .i64 2, .func (.func 193) #[evV x] #[]] : List Value).length) := size_wy
      have HS3 : Hid ((Tryz.prog.info? 159).map (·.size) = some ([.int .i64 2, .func (.func 193) #[evV x] #[]] : List Value).toArray.size) := size_wy
      have HS4 : Hid ((#[.int .i64 0, .nilFunc] : Array Value).size = ([.int .i64 2, .func (.func 193) #[evV x] #[]] : List Value).toArray.size) := rfl
      have HS5 : Hid (([.int .i64 2, .func (.func 193) #[evV x] #[]] : List Value).toArray.all (·.oneCell') = true) := by show _ = _; simp [Value.oneCell']
      clear cY
      generalize ([.int .i64 2, .func (.func 193) #[evV x] #[]] : List Value) = vs at *
      have cS2 := cS.below bA (by omega)
      have cE2 := cE.below bA (by omega)
      have cW2 := cW.below bA (by omega)
      have hB2 := hB.trans (bA.mono hB.size)
      have e0' := cE2.cell 0 _ rfl
      have x0' := cS2.cell 0 _ rfl
      have x1' := cS2.cell 1 _ rfl
      by_cases hq : x.k = 2
      · have HE := hide (evS_2 (bs := bs) (dk := dk) hq)
        have HC := hide (evFlush_any x ha0 ha1 fa fc bs da dc dk _ ((unhide HA).below hB2) hm hm2)
        rw [unhide HE] at HC
        go_wp2_with (first | (refine wpList_load_mid rfl 159 _ rfl W 2 rfl vs _ rW Tryz.underlying159 rfl (unhide HS2) ?_) | (refine wpList_store_new rfl 159 _ _ rfl wr #[.int .i64 0, .nilFunc] vs.toArray rfl rfl rfl (unhide HS3) (unhide HS4) (unhide HS5) ?_))
        generalize wr.alloc (.cells vs.toArray 159) = w2 at *
        refine (unhide HC).mono ?_
        rintro e w3 ⟨v, rfl, hS, b3⟩
        have B3 := hB2.trans (b3.mono hB2.size)
        have hS3 := hS.mono hB2.size
        clear z0 z1 e0' x0' x1' cS2 cE2 cW2 HC hS
        go_wp2
        go_ret
        exact ⟨v, rfl, hS3, B3⟩
      · have HN2 : Hid (∀ j : Nat, j < 1 + 1 → ¬ x.k = (j : Int) + 1) := fun j hj => by
          by_cases h9 : j = 1
          · subst h9; omega
          · exact unhide HN j (by omega)
        have s2 : W < (wr.alloc (.cells vs.toArray 159)).heap.size := by omega
        go_wp2_with (first | (refine wpList_load_mid rfl 159 _ rfl W 2 rfl vs _ rW Tryz.underlying159 rfl (unhide HS2) ?_) | (refine wpList_store_new rfl 159 _ _ rfl wr #[.int .i64 0, .nilFunc] vs.toArray rfl rfl rfl (unhide HS3) (unhide HS4) (unhide HS5) ?_))
        generalize wr.alloc (.cells vs.toArray 159) = w2 at *
        go_roundw
        case rel => exact ⟨1 + 1, by omega, by first | rfl | go_num, HN2, cS2, cE2, cW2, s2, hB2⟩
        case measure => simp [intOf]
    · have rW : wr.rangeAt W 4 ([.int .i64 3, .func (.func 194) #[evV x] #[]] : List Value) := way_at cW.cells 4 ⟨rfl, rfl⟩
      have bA : Below wr.heap.size wr (wr.alloc (.cells ([.int .i64 3, .func (.func 194) #[evV x] #[]] : List Value).toArray 159)) := (Below.refl _ _).alloc (Nat.le_refl _) _
      have cY := CsAt.new wr ([.int .i64 3, .func (.func 194) #[evV x] #[]] : List Value) 159
      have sA : (wr.alloc (.cells ([.int .i64 3, .func (.func 194) #[evV x] #[]] : List Value).toArray 159)).heap.size = wr.heap.size + 1 := by simp
      have z0 := cY.cell 0 _ rfl
      have z1 := cY.cell 1 _ rfl
      have HS2 : Hid ((Tryz.prog.info? 159).map (·.size) = some ([.int .i64 3, .func (.func 194) #[evV x] #[]] : List Value).length) := size_wy
      have HS3 : Hid ((Tryz.prog.info? 159).map (·.size) = some ([.int .i64 3, .func (.func 194) #[evV x] #[]] : List Value).toArray.size) := size_wy
      have HS4 : Hid ((#[.int .i64 0, .nilFunc] : Array Value).size = ([.int .i64 3, .func (.func 194) #[evV x] #[]] : List Value).toArray.size) := rfl
      have HS5 : Hid (([.int .i64 3, .func (.func 194) #[evV x] #[]] : List Value).toArray.all (·.oneCell') = true) := by show _ = _; simp [Value.oneCell']
      clear cY
      generalize ([.int .i64 3, .func (.func 194) #[evV x] #[]] : List Value) = vs at *
      have cS2 := cS.below bA (by omega)
      have cE2 := cE.below bA (by omega)
      have cW2 := cW.below bA (by omega)
      have hB2 := hB.trans (bA.mono hB.size)
      have e0' := cE2.cell 0 _ rfl
      have x0' := cS2.cell 0 _ rfl
      have x1' := cS2.cell 1 _ rfl
      by_cases hq : x.k = 3
      · have HE := hide (evS_3 (bs := bs) (dk := dk) hq)
        have HC := hide (evFill_any x fa fc bs da dc dk _ ((unhide HA).below hB2) hm hm2)
        rw [unhide HE] at HC
        go_wp2_with (first | (refine wpList_load_mid rfl 159 _ rfl W 4 rfl vs _ rW Tryz.underlying159 rfl (unhide HS2) ?_) | (refine wpList_store_new rfl 159 _ _ rfl wr #[.int .i64 0, .nilFunc] vs.toArray rfl rfl rfl (unhide HS3) (unhide HS4) (unhide HS5) ?_))
        generalize wr.alloc (.cells vs.toArray 159) = w2 at *
        refine (unhide HC).mono ?_
        rintro e w3 ⟨v, rfl, hS, b3⟩
        have B3 := hB2.trans (b3.mono hB2.size)
        have hS3 := hS.mono hB2.size
        clear z0 z1 e0' x0' x1' cS2 cE2 cW2 HC hS
        go_wp2
        go_ret
        exact ⟨v, rfl, hS3, B3⟩
      · have HN2 : Hid (∀ j : Nat, j < 2 + 1 → ¬ x.k = (j : Int) + 1) := fun j hj => by
          by_cases h9 : j = 2
          · subst h9; omega
          · exact unhide HN j (by omega)
        have s2 : W < (wr.alloc (.cells vs.toArray 159)).heap.size := by omega
        go_wp2_with (first | (refine wpList_load_mid rfl 159 _ rfl W 4 rfl vs _ rW Tryz.underlying159 rfl (unhide HS2) ?_) | (refine wpList_store_new rfl 159 _ _ rfl wr #[.int .i64 0, .nilFunc] vs.toArray rfl rfl rfl (unhide HS3) (unhide HS4) (unhide HS5) ?_))
        generalize wr.alloc (.cells vs.toArray 159) = w2 at *
        go_roundw
        case rel => exact ⟨2 + 1, by omega, by first | rfl | go_num, HN2, cS2, cE2, cW2, s2, hB2⟩
        case measure => simp [intOf]
end Go.Proofs.YtogfelpdgeionaaGreat.PaB
