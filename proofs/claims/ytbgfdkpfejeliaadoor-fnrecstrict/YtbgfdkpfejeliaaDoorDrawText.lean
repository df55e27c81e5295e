/-
  The contract of the law's drawn record: whatever the code, a record of four numbers; nothing that was there turns.
-/
import Derived.Test.YtbgfdkpfejeliaaDoorDraw
namespace Go.Proofs.YtbgfdkpfejeliaaDoor.DrawText
open Go.ChangeShapes Go.WideShapes Go.ChangeAt Go.RowKit Pick Draw
set_option linter.unusedVariables false

theorem res_draw {tmps : Array Value} {w : World} {b : Nat} {k s a v : Int} (ht : tmps.getD 2 undef = .pointer (some ⟨b, 0, none⟩)) (h0 : w.cell? ⟨b, 0, none⟩ = some (.int .i64 k)) (h1 : w.cell? ⟨b, 1, none⟩ = some (.int .i64 s)) (h2 : w.cell? ⟨b, 2, none⟩ = some (.int .i64 a)) (h3 : w.cell? ⟨b, 3, none⟩ = some (.int .i64 v)) :
    (results Tryd.f10 tmps).run Tryd.prog w = .ok (.agg #[.int .i64 k, .int .i64 s, .int .i64 a, .int .i64 v]) w := by
  have ht' : tmps[2]?.getD undef = .pointer (some ⟨b, 0, none⟩) := by simpa using ht
  simp [results, Tryd.results10, go_sem, ht', h0, h1, h2, h3]

set_option maxHeartbeats 1000000 in
theorem drawText_any (w : World) (a : Option Addr) (len cap : Nat) (zs : List Int) (h : IsRow .u8 w a len cap zs) :
    Calls Tryd.prog 10 #[.slice a len cap] w fun e w' => ∃ k s x v : Int, e = .returned (.agg #[.int .i64 k, .int .i64 s, .int .i64 x, .int .i64 v]) ∧ Below w.heap.size w w' := by
  have b0 : ∀ o, Below w.heap.size w (w.alloc o) := fun o => (Below.refl _ _).alloc (Nat.le_refl _) o
  go_enter Tryd.func10, Tryd.ntmps10
  go_wp2_with fail
  refine (open_any _ a len cap zs (isRow_below h (b0 _))).mono ?_
  rintro e w1 ⟨rfl, len', hl, hr, d1⟩
  rw [World.size_alloc] at d1
  go_wp2_with fail
  refine (l71Rec_any _ _ _ a len' cap 0 hr hl d1 (by omega) (by omega)).mono ?_
  rintro e w2 ⟨k, s, x, v, p', rfl, k1, s1, x1, v1, p0, p1, d2⟩
  have r0 : w2.cell? ⟨w.heap.size, 0, none⟩ = some (.int .i64 0) := by rw [d2.bel.cell (p := ⟨w.heap.size, 0, none⟩) (by simp)]; simp
  have r1 : w2.cell? ⟨w.heap.size, 1, none⟩ = some (.int .i64 0) := by rw [d2.bel.cell (p := ⟨w.heap.size, 1, none⟩) (by simp)]; simp
  have r2 : w2.cell? ⟨w.heap.size, 2, none⟩ = some (.int .i64 0) := by rw [d2.bel.cell (p := ⟨w.heap.size, 2, none⟩) (by simp)]; simp
  have r3 : w2.cell? ⟨w.heap.size, 3, none⟩ = some (.int .i64 0) := by rw [d2.bel.cell (p := ⟨w.heap.size, 3, none⟩) (by simp)]; simp
  have q0 : w2.frozen? ⟨w.heap.size, 0, none⟩ = false := by rw [d2.bel.frozen (p := ⟨w.heap.size, 0, none⟩) (by simp)]; simp
  have q1 : w2.frozen? ⟨w.heap.size, 1, none⟩ = false := by rw [d2.bel.frozen (p := ⟨w.heap.size, 1, none⟩) (by simp)]; simp
  have q2 : w2.frozen? ⟨w.heap.size, 2, none⟩ = false := by rw [d2.bel.frozen (p := ⟨w.heap.size, 2, none⟩) (by simp)]; simp
  have q3 : w2.frozen? ⟨w.heap.size, 3, none⟩ = false := by rw [d2.bel.frozen (p := ⟨w.heap.size, 3, none⟩) (by simp)]; simp
  have bw : Below w.heap.size w w2 := (b0 _).trans (d2.bel.mono (by simp))
  clear d1 d2 h
  go_wp2_with fail
  refine bodyPost_ret (res_draw rfl (by go_cell) (by go_cell) (by go_cell) (by go_cell)) rfl ⟨_, _, _, _, rfl, (((bw.setCell (Nat.le_refl _) _).setCell (Nat.le_refl _) _).setCell (Nat.le_refl _) _).setCell (Nat.le_refl _) _⟩
end Go.Proofs.YtbgfdkpfejeliaaDoor.DrawText
