/-
  Blocks that are drawn, with one of them and a page.
-/
import Derived.Test.YtkikeapfjpnkgaaDrwD
import Derived.Test.YtkikeapfjpnkgaaBaS
import Derived.OwnWalk
namespace Go.Proofs.Ytkikeapfjpnkgaa.DrL
open Go.ChangeShapes Go.WideShapes Go.ChangeAt Go.RowKit Go.Shelf Big Fl ImplF ImplL Kp StA RmA DoA AlA DpA NwA Pick Draw EvA ImplB ImplS ImplU SpecC SpecD SpecW ImplW PyA FlB ClA DrB FindV
set_option linter.unusedVariables false
set_option linter.unusedSimpArgs false
attribute [local go_sem ↓] Go.wp_at_zero Go.wp_at_succ

def DvlPost (w : World) (e : Ending) (w' : World) : Prop := ∃ g o c bs k i, e = .returned (.tuple #[.slice (some ⟨g, o, none⟩) bs.length c, .int .i64 k, .int .i64 i]) ∧ FsN w.heap.size w' g o bs ∧ 0 ≤ k ∧ k < 4 ∧ 0 ≤ i ∧ i < 8 ∧ Below w.heap.size w w'

set_option maxRecDepth 100000 in
set_option maxHeartbeats 4000000 in
theorem drawLive_any (w : World) (a : Option Addr) (len cap : Nat) (zs : List Int) (h : IsRow .u8 w a len cap zs) :
    Calls Try.prog 24 #[.slice a len cap] w fun e w' => DvlPost w e w' := by
  have HO := hide (open_any w a len cap zs h)
  go_enter Try.func24, Try.ntmps24
  go_wp2_with fail
  refine (unhide HO).mono ?_
  rintro e w1 ⟨rfl, len', hl', hrow, d1⟩
  have hlt := d1.lt
  clear HO
  go_wp2_with fail
  refine (flash_any w w w1 w.heap.size a len' cap 0 hrow hl' d1 (by omega) (by omega)).mono ?_
  rintro e w2 ⟨g, o, c, bs, p', rfl, F, hp0, hp1, d, k2⟩
  clear d1 k2
  have HFL := hide (fun (x y : Int) (w' : World) (F : FsN w1.heap.size w' g o bs) => specLive_any (some ⟨g, o, none⟩) c x y bs w' F.fs (by have := F.four; omega) (fun b hb => by have := F.pgs b hb; omega))
  go_wp2_with fail
  refine (pick_k _ w w2 w.heap.size a len' cap p' 4 hrow hl' d (by omega) (by omega) (by omega) (by omega)).mono ?_
  rintro e w3 ⟨x, rfl, x0, x1, d9, m9⟩
  replace F := FsN.kept F m9 (fun x hx => by simp at hx; subst hx; exact hlt)
  clear d m9
  have d := d9
  clear d9
  go_wp2_with fail
  refine (pick_k _ w w3 w.heap.size a len' cap (p' + 1) 4 hrow hl' d (by omega) (by omega) (by omega) (by omega)).mono ?_
  rintro e w4 ⟨y, rfl, y0, y1, d9, m9⟩
  replace F := FsN.kept F m9 (fun x hx => by simp at hx; subst hx; exact hlt)
  clear d m9
  have d := d9
  clear d9
  go_wp2
  have hF0 := F
  have hd0 := d
  clear F d
  go_loopw [7, 8, 9] (fun vk vi vn w' => ∃ (n : Nat) (x y p u9 : _), n ≤ 8 ∧ vk = .int .i64 x ∧ vi = .int .i64 y ∧ vn = .int .i64 n ∧ (0 ≤ x ∧ x < 4 ∧ 0 ≤ y ∧ y < 4) ∧ (0 ≤ p ∧ p ≤ 1000 + 3 * (n : Int)) ∧ FsN w1.heap.size w' g o bs ∧ Rd u9 w w.heap.size a len' cap p w') (fun _ _ vn _ => 8 - (intOf vn).toNat)
  case atStart => exact ⟨0, x, y, p' + 1 + 1, _, by omega, rfl, rfl, rfl, ⟨x0, x1, y0, y1⟩, ⟨by omega, by omega⟩, hF0, hd0⟩
  case round =>
    clear hF0 hd0
    obtain ⟨n, k, i, p, u9, hn, rfl, rfl, rfl, ⟨hk0, hk1, hi0, hi1⟩, ⟨hq0, hq1⟩, F, d⟩ := hrel
    by_cases h8 : n = 8
    · subst h8
      go_wp2_with fail
      refine (pick_k _ w wr w.heap.size a len' cap p 24 hrow hl' d (by omega) (by omega) (by omega) (by omega)).mono ?_
      rintro e wT ⟨s, rfl, s0, s1, d9, m9⟩
      replace F := FsN.kept F m9 (fun x hx => by simp at hx; subst hx; exact hlt)
      clear d m9
      have d := d9
      clear d9
      replace F := FsN.mono F (Nat.le_of_lt hlt)
      have bT := d.bel
      obtain ⟨q, hq, hq0, hq1⟩ : ∃ q : Int, s.tdiv 23 = q ∧ 0 ≤ q ∧ q ≤ 1 := by
          by_cases hs : s = 23
          · subst hs; exact ⟨1, rfl, by omega, by omega⟩
          · exact ⟨0, Int.tdiv_eq_zero_of_lt s0 (by omega), by omega, by omega⟩
      clear d HFL
      go_wp2
      go_ret3
      exact ⟨g, o, c, bs, k, i + q * 4, by simp, F, by omega, by omega, by omega, by omega, bT⟩
    have hn8 : (n : Int) < 8 := by omega
    have hwn : IntKind.i64.wrap ((n : Int) + 1) = (n : Int) + 1 := by rw [IntKind.wrap_i64] <;> omega
    go_wp2_with fail
    refine (pick_k _ w wr w.heap.size a len' cap p 6 hrow hl' d (by omega) (by omega) (by omega) (by omega)).mono ?_
    rintro e w5 ⟨r, rfl, r0, r1, d9, m9⟩
    replace F := FsN.kept F m9 (fun x hx => by simp at hx; subst hx; exact hlt)
    clear d m9
    have d := d9
    clear d9
    by_cases hr : 0 < r
    · go_wp2_with fail
      refine (unhide HFL k i _ F).mono ?_
      rintro e w6 ⟨rfl, b6⟩
      replace F := FsN.kept F (Kept.of (L := []) b6) (fun x hx => by simp at hx)
      have d6 := d.kept (Kept.of (L := []) b6) (fun x hx => by simp at hx)
      clear d b6
      have d := d6
      clear d6
      generalize FindV.lvR bs k i = lv at *
      cases lv
      · go_wp2_with fail
        refine (pick_k _ w w6 w.heap.size a len' cap (p + 1) 4 hrow hl' d (by omega) (by omega) (by omega) (by omega)).mono ?_
        rintro e w7 ⟨x2, rfl, x20, x21, d9, m9⟩
        replace F := FsN.kept F m9 (fun x hx => by simp at hx; subst hx; exact hlt)
        clear d m9
        have d := d9
        clear d9
        go_wp2_with fail
        refine (pick_k _ w w7 w.heap.size a len' cap (p + 1 + 1) 4 hrow hl' d (by omega) (by omega) (by omega) (by omega)).mono ?_
        rintro e w8 ⟨y2, rfl, y20, y21, d9, m9⟩
        replace F := FsN.kept F m9 (fun x hx => by simp at hx; subst hx; exact hlt)
        clear d m9
        have d := d9
        clear d9
        clear HFL
        go_wp2
        go_roundw
        case rel => exact ⟨n + 1, x2, y2, p + 1 + 1 + 1, _, by omega, rfl, rfl, by first | rfl | go_num, ⟨x20, x21, y20, y21⟩, ⟨by omega, by omega⟩, F, d⟩
        case measure => simp [intOf]; omega
      · go_wp2_with fail
        refine (pick_k _ w w6 w.heap.size a len' cap (p + 1) 24 hrow hl' d (by omega) (by omega) (by omega) (by omega)).mono ?_
        rintro e wT ⟨s, rfl, s0, s1, d9, m9⟩
        replace F := FsN.kept F m9 (fun x hx => by simp at hx; subst hx; exact hlt)
        clear d m9
        have d := d9
        clear d9
        replace F := FsN.mono F (Nat.le_of_lt hlt)
        have bT := d.bel
        obtain ⟨q, hq, hq0, hq1⟩ : ∃ q : Int, s.tdiv 23 = q ∧ 0 ≤ q ∧ q ≤ 1 := by
            by_cases hs : s = 23
            · subst hs; exact ⟨1, rfl, by omega, by omega⟩
            · exact ⟨0, Int.tdiv_eq_zero_of_lt s0 (by omega), by omega, by omega⟩
        clear d HFL
        go_wp2
        go_ret3
        exact ⟨g, o, c, bs, k, i + q * 4, by simp, F, by omega, by omega, by omega, by omega, bT⟩
    · go_wp2_with fail
      refine (pick_k _ w w5 w.heap.size a len' cap (p + 1) 24 hrow hl' d (by omega) (by omega) (by omega) (by omega)).mono ?_
      rintro e wT ⟨s, rfl, s0, s1, d9, m9⟩
      replace F := FsN.kept F m9 (fun x hx => by simp at hx; subst hx; exact hlt)
      clear d m9
      have d := d9
      clear d9
      replace F := FsN.mono F (Nat.le_of_lt hlt)
      have bT := d.bel
      obtain ⟨q, hq, hq0, hq1⟩ : ∃ q : Int, s.tdiv 23 = q ∧ 0 ≤ q ∧ q ≤ 1 := by
          by_cases hs : s = 23
          · subst hs; exact ⟨1, rfl, by omega, by omega⟩
          · exact ⟨0, Int.tdiv_eq_zero_of_lt s0 (by omega), by omega, by omega⟩
      clear d HFL
      go_wp2
      go_ret3
      exact ⟨g, o, c, bs, k, i + q * 4, by simp, F, by omega, by omega, by omega, by omega, bT⟩
end Go.Proofs.Ytkikeapfjpnkgaa.DrL
