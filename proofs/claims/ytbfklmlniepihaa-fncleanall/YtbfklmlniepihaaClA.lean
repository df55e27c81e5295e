/-
  Blocks that are drawn, and one of them.
-/
import Derived.Test.YtbfklmlniepihaaFlB
namespace Go.Proofs.Ytbfklmlniepihaa.ClA
open Go.ChangeShapes Go.WideShapes Go.ChangeAt Go.RowKit Go.Shelf Big Fl ImplF ImplL Kp StA RmA DoA AlA DpA NwA Pick Draw EvA ImplB ImplS ImplU SpecC SpecD SpecW ImplW PyA FlB
set_option linter.unusedVariables false
set_option linter.unusedSimpArgs false
attribute [local go_sem ↓] Go.wp_at_zero Go.wp_at_succ

theorem FsN.mono {lo lo' g o : Nat} {w : World} {bs : List Bk} (h : FsN lo w g o bs) (hl : lo' ≤ lo) : FsN lo' w g o bs :=
  ⟨Nat.le_trans hl h.glo, h.ghi, fun i hi => by
    obtain ⟨pb, po, pc, h1, h2, h3, h4, h5⟩ := h.bk i hi
    exact ⟨pb, po, pc, h1, h2, h3, Nat.le_trans hl h4, h5⟩, h.four, h.pgs⟩
theorem FsN.below {lo g o : Nat} {w w' : World} {bs : List Bk} (h : FsN lo w g o bs) (hb : Below w.heap.size w w') : FsN lo w' g o bs := h.kept (L := []) (Kept.of hb) (by simp)

def DfPost (w : World) (e : Ending) (w' : World) : Prop := ∃ g o c bs k, e = .returned (.tuple #[.slice (some ⟨g, o, none⟩) bs.length c, .int .i64 k]) ∧ FsN w.heap.size w' g o bs ∧ 0 ≤ k ∧ k ≤ 7 ∧ Below w.heap.size w w'
set_option maxRecDepth 100000 in
set_option maxHeartbeats 2000000 in
theorem drawClean_any (w : World) (a : Option Addr) (len cap : Nat) (zs : List Int) (h : IsRow .u8 w a len cap zs) :
    Calls Try.prog 4 #[.slice a len cap] w fun e w' => DfPost w e w' := by
  have HO := hide (open_any w a len cap zs h)
  go_enter Try.func4, Try.ntmps4
  go_wp2_with fail
  refine (unhide HO).mono ?_
  rintro e w1 ⟨rfl, len', hl', hrow, d1⟩
  have hlt := d1.lt
  clear HO
  go_wp2_with fail
  refine (flash_any w w w1 w.heap.size a len' cap 0 hrow hl' d1 (by omega) (by omega)).mono ?_
  rintro e w2 ⟨g, o, c, bs, p', rfl, F2, hp0, hp1, d2, k2⟩
  have hs2 := k2.size
  go_wp2_with fail
  refine (pick_k w w w2 w.heap.size a len' cap p' 4 hrow hl' d2 (by omega) (by omega) (by omega) (by omega)).mono ?_
  rintro e w3 ⟨r, rfl, r0, r1, d3, m3⟩
  have F3 := F2.kept m3 (fun x hx => by simp at hx; subst hx; exact hlt)
  go_wp2_with fail
  refine (pick_k w w w3 w.heap.size a len' cap (p' + 1) 16 hrow hl' d3 (by omega) (by omega) (by omega) (by omega)).mono ?_
  rintro e w4 ⟨s, rfl, t0, t1, d4, m4⟩
  have F4 := FsN.mono (F3.kept m4 (fun x hx => by simp at hx; subst hx; exact hlt)) (Nat.le_of_lt hlt)
  have b4 := d4.bel
  clear d1 d2 d3 d4 m3 m4 k2 F2 F3
  by_cases hs : s = 15
  · subst hs
    go_wp2
    go_ret2
    exact ⟨g, o, c, bs, r + 4, rfl, F4, by omega, by omega, b4⟩
  · have hq : s.tdiv 15 = 0 := Int.tdiv_eq_zero_of_lt t0 (by omega)
    go_wp2
    go_ret2
    exact ⟨g, o, c, bs, r, by simp [hq], F4, by omega, by omega, b4⟩
end Go.Proofs.Ytbfklmlniepihaa.ClA
