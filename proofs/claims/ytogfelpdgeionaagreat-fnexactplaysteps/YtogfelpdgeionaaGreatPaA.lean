/-
  What happens, as a plain thing, and the program's steps by which it happens: a table of method values.
-/
import Derived.Test.YtogfelpdgeionaaGreatGbI
namespace Go.Proofs.YtogfelpdgeionaaGreat.PaA
open Go.ChangeShapes Go.WideShapes Go.ChangeAt Go.RowKit Go.Shelf OkA Big Fl ImplB ImplF ImplS _root_.Go.Proofs.YtogfelpdgeionaaGreat.Own ImplT ImplU SpecA SpecB SpecC SpecD SpecW Ok2 Pl ImplL Kp StA StB StC StD StF StG SpS SpT RmA WrA FlA SpU TwC LawX
set_option linter.unusedVariables false
set_option linter.unusedSimpArgs false
attribute [local go_sem ↓] Go.wp_at_zero Go.wp_at_succ

/-- What happens: its kind, address, value, cut, and whether it is torn. -/
structure Ev where
  k : Int
  a : Int
  b : Int
  c : Int
  t : Bool
def evC (x : Ev) : List Value := [.int .i64 x.k, .int .i64 x.a, .int .i64 x.b, .int .i64 x.c, .bool x.t]
def evP (bs : List Bk) (dk : List Int) (x : Ev) : List Stp := if x.k = 1 then writeP bs 1 x.a x.b else if x.k = 2 then flushP bs dk x.a else if x.k = 3 then fillP bs dk x.a else []
def evS (bs : List Bk) (dk : List Int) (x : Ev) : List Stp := if stB bs dk then evP bs dk x else []
theorem evS_1 {bs : List Bk} {dk : List Int} {x : Ev} (h : x.k = 1) : putS bs dk x.a x.b = evS bs dk x := by unfold putS evS evP; rw [if_pos h]
theorem evS_2 {bs : List Bk} {dk : List Int} {x : Ev} (h : x.k = 2) : flushS bs dk x.a = evS bs dk x := by unfold flushS evS evP; rw [if_neg (show ¬ x.k = 1 by omega), if_pos h]
theorem evS_3 {bs : List Bk} {dk : List Int} {x : Ev} (h : x.k = 3) : fillS bs dk x.a = evS bs dk x := by unfold fillS evS evP; rw [if_neg (show ¬ x.k = 1 by omega), if_neg (show ¬ x.k = 2 by omega), if_pos h]
theorem evS_0 {bs : List Bk} {dk : List Int} {x : Ev} (h1 : ¬ x.k = 1) (h2 : ¬ x.k = 2) (h3 : ¬ x.k = 3) : evS bs dk x = [] := by unfold evS evP; rw [if_neg h1, if_neg h2, if_neg h3]; split <;> rfl
theorem ev_len (bs : List Bk) (dk : List Int) (x : Ev) : (evS bs dk x).length ≤ 7 := by
  by_cases h1 : x.k = 1
  · rw [← evS_1 h1]; exact put_len bs dk x.a x.b
  by_cases h2 : x.k = 2
  · rw [← evS_2 h2]; exact flush_len bs dk x.a
  by_cases h3 : x.k = 3
  · rw [← evS_3 h3]; exact fill_len bs dk x.a
  rw [evS_0 h1 h2 h3]; simp

set_option maxRecDepth 100000 in
set_option maxHeartbeats 1000000 in
theorem evPut_any (x : Ev) (fa : Option Addr) (fc : Nat) (bs : List Bk) (da : Option Addr) (dc : Nat) (dk : List Int) (w : World) (h : SAt w fa bs da dk) (hm : bs.length ≤ 9223372036854775807) (hm2 : dk.length ≤ 9223372036854775807) :
    Calls Tryz.prog 192 #[.agg #[.int .i64 x.k, .int .i64 x.a, .int .i64 x.b, .int .i64 x.c, .bool x.t], .agg #[.slice fa bs.length fc, .slice da dk.length dc]] w fun e w' => StpPost w (putS bs dk x.a x.b) e w' := by
  have B0 : Below w.heap.size w ((w.alloc (.cells (evC x).toArray 62)).alloc (.cells #[.slice fa bs.length fc, .slice da dk.length dc] 26)) := ((Below.refl _ _).alloc (Nat.le_refl _) _).alloc (by simp) _
  have cE := (CsAt.new w (evC x) 62).alloc (by simp) (.cells #[.slice fa bs.length fc, .slice da dk.length dc] 26)
  have cS := store_box (w.alloc (.cells (evC x).toArray 62)) (.slice fa bs.length fc) (.slice da dk.length dc)
  rw [World.size_alloc] at cS
  have HC := hide (implPut_any fa fc bs da dc dk x.a x.b _ (h.below B0) hm hm2)
  clear h
  have e1 := cE.cell 1 _ rfl
  have e2 := cE.cell 2 _ rfl
  have x0 := cS.cell 0 _ rfl
  have x1 := cS.cell 1 _ rfl
  unfold evC at *
  go_enter Tryz.func192, Tryz.ntmps192
  go_wp2_with fail
  refine (unhide HC).mono ?_
  rintro e w1 ⟨v, rfl, hS, b1⟩
  have B1 := B0.trans (b1.mono B0.size)
  have hS1 := hS.mono B0.size
  clear cE cS e1 e2 x0 x1 HC hS
  go_wp2
  go_ret
  exact ⟨v, rfl, hS1, B1⟩

set_option maxRecDepth 100000 in
set_option maxHeartbeats 1000000 in
theorem evFlush_any (x : Ev) (ha0 : -9223372036854775808 ≤ x.a) (ha1 : x.a ≤ 9223372036854775807) (fa : Option Addr) (fc : Nat) (bs : List Bk) (da : Option Addr) (dc : Nat) (dk : List Int) (w : World) (h : SAt w fa bs da dk) (hm : bs.length ≤ 9223372036854775807) (hm2 : dk.length ≤ 9223372036854775807) :
    Calls Tryz.prog 193 #[.agg #[.int .i64 x.k, .int .i64 x.a, .int .i64 x.b, .int .i64 x.c, .bool x.t], .agg #[.slice fa bs.length fc, .slice da dk.length dc]] w fun e w' => StpPost w (flushS bs dk x.a) e w' := by
  have B0 : Below w.heap.size w ((w.alloc (.cells (evC x).toArray 62)).alloc (.cells #[.slice fa bs.length fc, .slice da dk.length dc] 26)) := ((Below.refl _ _).alloc (Nat.le_refl _) _).alloc (by simp) _
  have cE := (CsAt.new w (evC x) 62).alloc (by simp) (.cells #[.slice fa bs.length fc, .slice da dk.length dc] 26)
  have cS := store_box (w.alloc (.cells (evC x).toArray 62)) (.slice fa bs.length fc) (.slice da dk.length dc)
  rw [World.size_alloc] at cS
  have HC := hide (implFlush_any fa fc bs da dc dk x.a ha0 ha1 _ (h.below B0) hm hm2)
  clear h
  have e1 := cE.cell 1 _ rfl
  have x0 := cS.cell 0 _ rfl
  have x1 := cS.cell 1 _ rfl
  unfold evC at *
  go_enter Tryz.func193, Tryz.ntmps193
  go_wp2_with fail
  refine (unhide HC).mono ?_
  rintro e w1 ⟨v, rfl, hS, b1⟩
  have B1 := B0.trans (b1.mono B0.size)
  have hS1 := hS.mono B0.size
  clear cE cS e1 x0 x1 HC hS
  go_wp2
  go_ret
  exact ⟨v, rfl, hS1, B1⟩

set_option maxRecDepth 100000 in
set_option maxHeartbeats 1000000 in
theorem evFill_any (x : Ev) (fa : Option Addr) (fc : Nat) (bs : List Bk) (da : Option Addr) (dc : Nat) (dk : List Int) (w : World) (h : SAt w fa bs da dk) (hm : bs.length ≤ 9223372036854775807) (hm2 : dk.length ≤ 9223372036854775807) :
    Calls Tryz.prog 194 #[.agg #[.int .i64 x.k, .int .i64 x.a, .int .i64 x.b, .int .i64 x.c, .bool x.t], .agg #[.slice fa bs.length fc, .slice da dk.length dc]] w fun e w' => StpPost w (fillS bs dk x.a) e w' := by
  have B0 : Below w.heap.size w ((w.alloc (.cells (evC x).toArray 62)).alloc (.cells #[.slice fa bs.length fc, .slice da dk.length dc] 26)) := ((Below.refl _ _).alloc (Nat.le_refl _) _).alloc (by simp) _
  have cE := (CsAt.new w (evC x) 62).alloc (by simp) (.cells #[.slice fa bs.length fc, .slice da dk.length dc] 26)
  have cS := store_box (w.alloc (.cells (evC x).toArray 62)) (.slice fa bs.length fc) (.slice da dk.length dc)
  rw [World.size_alloc] at cS
  have HC := hide (implFill_any fa fc bs da dc dk x.a _ (h.below B0) hm hm2)
  clear h
  have e1 := cE.cell 1 _ rfl
  have x0 := cS.cell 0 _ rfl
  have x1 := cS.cell 1 _ rfl
  unfold evC at *
  go_enter Tryz.func194, Tryz.ntmps194
  go_wp2_with fail
  refine (unhide HC).mono ?_
  rintro e w1 ⟨v, rfl, hS, b1⟩
  have B1 := B0.trans (b1.mono B0.size)
  have hS1 := hS.mono B0.size
  clear cE cS e1 x0 x1 HC hS
  go_wp2
  go_ret
  exact ⟨v, rfl, hS1, B1⟩

/-! The table. -/
def evV (x : Ev) : Value := .agg #[.int .i64 x.k, .int .i64 x.a, .int .i64 x.b, .int .i64 x.c, .bool x.t]
def wayC (x : Ev) : List Value := [.int .i64 1, .func (.func 192) #[evV x] #[], .int .i64 2, .func (.func 193) #[evV x] #[], .int .i64 3, .func (.func 194) #[evV x] #[]]
set_option maxRecDepth 100000 in
set_option maxHeartbeats 1000000 in
theorem ways_any (x : Ev) (w : World) :
    Calls Tryz.prog 129 #[.agg #[.int .i64 x.k, .int .i64 x.a, .int .i64 x.b, .int .i64 x.c, .bool x.t]] w fun e w' => e = .returned (.slice (some ⟨w.heap.size + 1, 0, none⟩) 3 3) ∧ CsAt w' (w.heap.size + 1) (wayC x) ∧ w.heap.size + 1 < w'.heap.size ∧ Below w.heap.size w w' := by
  have B0 : Below w.heap.size w ((w.alloc (.cells (evC x).toArray 62)).alloc (.cells (wayC x).toArray 159)) := ((Below.refl _ _).alloc (Nat.le_refl _) _).alloc (by simp) _
  have cE := CsAt.new w (evC x) 62
  have cW := CsAt.new (w.alloc (.cells (evC x).toArray 62)) (wayC x) 159
  rw [World.size_alloc] at cW
  have s0 : w.heap.size + 1 < ((w.alloc (.cells (evC x).toArray 62)).alloc (.cells (wayC x).toArray 159)).heap.size := by simp
  have hP := hide (And.intro cW (And.intro s0 B0))
  have e0 := cE.cell 0 _ rfl
  have e1 := cE.cell 1 _ rfl
  have e2 := cE.cell 2 _ rfl
  have e3 := cE.cell 3 _ rfl
  have e4 := cE.cell 4 _ rfl
  clear cW s0 B0 cE
  unfold evC wayC evV at *
  go_enter Tryz.func129, Tryz.ntmps129
  go_wp2
  go_ret
  exact ⟨rfl, unhide hP⟩
end Go.Proofs.YtogfelpdgeionaaGreat.PaA
