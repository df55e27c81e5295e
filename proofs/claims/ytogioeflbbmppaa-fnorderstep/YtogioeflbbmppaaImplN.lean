/-
  The program's spans: the least and the greatest number of each block's records.
-/
import Derived.Test.YtogioeflbbmppaaImplL
import Derived.Test.YtogioeflbbmppaaImplO
namespace Go.Proofs.Ytogioeflbbmppaa.ImplN
open Go.ChangeShapes Go.WideShapes Go.ChangeAt Go.RowKit Go.Shelf OkA Big Fl ImplB ImplF ImplS _root_.Go.Proofs.Ytogioeflbbmppaa.Own ImplT ImplU SpecA SpecB SpecC SpecD SpecW SpecF SpecG SpecH Ok2 Pl FindP Rnd Iter ImplL ImplO
set_option linter.unusedVariables false
set_option linter.unusedSimpArgs false
attribute [local go_sem] Oper.semAt_some
attribute [local go_sem ↓] Go.wp_at_zero Go.wp_at_succ

set_option maxHeartbeats 400000 in
theorem none_any (x : Sp) (w : World) :
    Calls Try.prog 114 #[.agg #[.int .i64 x.1, .int .i64 x.2]] w fun e w' => e = .returned (.bool (x.2 == 0)) ∧ Below w.heap.size w w' := by
  go_enter Try.func114, Try.ntmps114
  go_wp2
  go_ret
  exact ⟨rfl, (Below.refl _ _).alloc (Nat.le_refl _) _⟩

def SpPost (w : World) (x : Sp) (e : Ending) (w' : World) : Prop := e = .returned (.agg #[.int .i64 x.1, .int .i64 x.2]) ∧ Below w.heap.size w w'
set_option maxHeartbeats 400000 in
theorem with_any (x : Sp) (s : Int) (w : World) :
    Calls Try.prog 112 #[.agg #[.int .i64 x.1, .int .i64 x.2], .int .i64 s] w fun e w' => SpPost w (withS x s) e w' := by
  have HW : Hid (withS x s = if x.2 = 0 then (s, s) else (if s < x.1 then s else x.1, if x.2 < s then s else x.2)) := rfl
  generalize withS x s = R at *
  obtain ⟨a, b⟩ := x
  simp only at HW
  have HN := hide (fun (w' : World) => none_any (a, b) w')
  have z0 := CsAt.new w [.int .i64 a, .int .i64 b] 107
  have z1 := CsAt.new (w.alloc (.cells #[.int .i64 a, .int .i64 b] 107)) [.int .i64 0, .int .i64 0] 107
  rw [World.size_alloc] at z1
  have y0 := z0.alloc (by simp) (.cells #[.int .i64 0, .int .i64 0] 107)
  have B0 : Below w.heap.size w ((w.alloc (.cells #[.int .i64 a, .int .i64 b] 107)).alloc (.cells #[.int .i64 0, .int .i64 0] 107)) := ((Below.refl _ _).alloc (Nat.le_refl _) _).alloc (by simp) _
  have s0 : ((w.alloc (.cells #[.int .i64 a, .int .i64 b] 107)).alloc (.cells #[.int .i64 0, .int .i64 0] 107)).heap.size = w.heap.size + 2 := by simp
  clear z0
  go_enter Try.func112, Try.ntmps112
  have hb : (b == 0) = true ∨ (b == 0) = false := by cases (b == 0) <;> simp
  rcases hb with hb | hb
  · have hb0 : b = 0 := by simpa using hb
    rw [if_pos hb0] at HW
    simp only [hb] at HN
    clear hb0 hb
    go_wp2_with fail
    refine (unhide HN _).mono ?_
    rintro e w1 ⟨rfl, b1⟩
    have x1 := CsAt.below (w' := w1) (b := w.heap.size + 1) z1 b1 (by omega)
    have B1 := B0.trans (b1.mono B0.size)
    clear b1 z1 y0 B0
    have d0 := x1.cell 0 _ rfl
    have d1 := x1.cell 1 _ rfl
    have f0 := x1.frozen 0 (by simp)
    have f1 := x1.frozen 1 (by simp)
    have p1 := x1.put [.int .i64 s, .int .i64 s] rfl
    have pB := below_setCells (w.heap.size + 1) (show w.heap.size ≤ w.heap.size + 1 by omega) [.int .i64 s, .int .i64 s] 0 w1 B1
    go_wp2
    refine bodyPost_ret (res_cell_mid Try.results112 _ _ (w.heap.size + 1) [.int .i64 s, .int .i64 s] _ rfl p1.cells Try.underlying107 rfl (by kernel_rfl)) rfl ?_
    exact ⟨by rw [unhide HW], pB⟩
  · have hb0 : ¬ b = 0 := by simpa using hb
    rw [if_neg hb0] at HW
    simp only [hb] at HN
    clear hb0 hb
    go_wp2_with fail
    refine (unhide HN _).mono ?_
    rintro e w1 ⟨rfl, b1⟩
    have x1 := CsAt.below (w' := w1) (b := w.heap.size + 1) z1 b1 (by omega)
    have x0 := CsAt.below (w' := w1) (b := w.heap.size) y0 b1 (by omega)
    have B1 := B0.trans (b1.mono B0.size)
    clear b1 z1 y0 B0
    have e0 := x0.cell 0 _ rfl
    have e1 := x0.cell 1 _ rfl
    have d0 := x1.cell 0 _ rfl
    have d1 := x1.cell 1 _ rfl
    have f0 := x1.frozen 0 (by simp)
    have f1 := x1.frozen 1 (by simp)
    by_cases h1 : s < a
    · rw [if_pos h1] at HW
      by_cases h2 : b < s
      · rw [if_pos h2] at HW
        have p1 := x1.put [.int .i64 s, .int .i64 s] rfl
        have pB := below_setCells (w.heap.size + 1) (show w.heap.size ≤ w.heap.size + 1 by omega) [.int .i64 s, .int .i64 s] 0 w1 B1
        go_wp2
        refine bodyPost_ret (res_cell_mid Try.results112 _ _ (w.heap.size + 1) [.int .i64 s, .int .i64 s] _ rfl p1.cells Try.underlying107 rfl (by kernel_rfl)) rfl ?_
        exact ⟨by rw [unhide HW], pB⟩
      · rw [if_neg h2] at HW
        have p1 := x1.put [.int .i64 s, .int .i64 b] rfl
        have pB := below_setCells (w.heap.size + 1) (show w.heap.size ≤ w.heap.size + 1 by omega) [.int .i64 s, .int .i64 b] 0 w1 B1
        go_wp2
        refine bodyPost_ret (res_cell_mid Try.results112 _ _ (w.heap.size + 1) [.int .i64 s, .int .i64 b] _ rfl p1.cells Try.underlying107 rfl (by kernel_rfl)) rfl ?_
        exact ⟨by rw [unhide HW], pB⟩
    · rw [if_neg h1] at HW
      by_cases h2 : b < s
      · rw [if_pos h2] at HW
        have p1 := x1.put [.int .i64 a, .int .i64 s] rfl
        have pB := below_setCells (w.heap.size + 1) (show w.heap.size ≤ w.heap.size + 1 by omega) [.int .i64 a, .int .i64 s] 0 w1 B1
        go_wp2
        refine bodyPost_ret (res_cell_mid Try.results112 _ _ (w.heap.size + 1) [.int .i64 a, .int .i64 s] _ rfl p1.cells Try.underlying107 rfl (by kernel_rfl)) rfl ?_
        exact ⟨by rw [unhide HW], pB⟩
      · rw [if_neg h2] at HW
        have p1 := x1.put [.int .i64 a, .int .i64 b] rfl
        have pB := below_setCells (w.heap.size + 1) (show w.heap.size ≤ w.heap.size + 1 by omega) [.int .i64 a, .int .i64 b] 0 w1 B1
        go_wp2
        refine bodyPost_ret (res_cell_mid Try.results112 _ _ (w.heap.size + 1) [.int .i64 a, .int .i64 b] _ rfl p1.cells Try.underlying107 rfl (by kernel_rfl)) rfl ?_
        exact ⟨by rw [unhide HW], pB⟩
end Go.Proofs.Ytogioeflbbmppaa.ImplN
