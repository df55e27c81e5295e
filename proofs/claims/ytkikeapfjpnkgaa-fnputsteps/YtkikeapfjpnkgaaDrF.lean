/-
  A put that is drawn: a store, an address, and a value.
-/
import Derived.Test.YtkikeapfjpnkgaaFu
import Derived.Test.YtkikeapfjpnkgaaDrwD
namespace Go.Proofs.Ytkikeapfjpnkgaa.DrF
open Go.ChangeShapes Go.WideShapes Go.ChangeAt Go.RowKit Go.Shelf Big Fl ImplF ImplL Kp StA RmA DoA AlA DpA NwA Pick Draw EvA ImplB ImplS ImplU SpecC SpecD SpecW ImplW PyA FlB ClA DrB StB StG StN Fu
set_option linter.unusedVariables false
set_option linter.unusedSimpArgs false
attribute [local go_sem ↓] Go.wp_at_zero Go.wp_at_succ

theorem res_three {P : Program} {fn : Func} {p q r : Tmp} {ty : TypeId} (h : fn.results = #[.cell p ty, .tmp q, .tmp r]) (tmps : Array Value) (w : World) (g : Nat) (cs : List Value) (d : TypeDesc)
    (hp : tmps.getD p undef = .pointer (some ⟨g, 0, none⟩)) (hg : w.rangeAt g 0 cs) (hu : P.underlying ty = some d) (hd : d.isRow = true) (hi : (P.info? ty).map (·.size) = some cs.length) :
    (results fn tmps).run P w = .ok (.tuple #[.agg cs.toArray, tmps.getD q undef, tmps.getD r undef]) w := by
  have hp' : tmps[p]?.getD undef = .pointer (some ⟨g, 0, none⟩) := by simpa using hp
  simp [results, h, hp', asAddr, run_loadVar_mid w g 0 ty cs d hg hu hd hi]
def DpPost (w : World) (e : Ending) (w' : World) : Prop := ∃ g o c bs d z dc dk k v, e = .returned (.tuple #[.agg #[.slice (some ⟨g, o, none⟩) bs.length c, .slice (some ⟨d, z, none⟩) dk.length dc], .int .i64 k, .int .i64 v]) ∧ SN w.heap.size w' g o bs d z dk ∧ 1 ≤ k ∧ k ≤ 12 ∧ -10 ≤ v ∧ v ≤ 9 ∧ Below w.heap.size w w'
set_option maxRecDepth 100000 in
set_option maxHeartbeats 2000000 in
theorem drawPut_any (w : World) (a : Option Addr) (len cap : Nat) (zs : List Int) (h : IsRow .u8 w a len cap zs) :
    Calls Try.prog 36 #[.slice a len cap] w fun e w' => DpPost w e w' := by
  have bA : Below w.heap.size w (w.alloc (.cells #[.slice none 0 0, .slice none 0 0] 54)) := (Below.refl _ _).alloc (Nat.le_refl _) _
  have cZ := CsAt.new w [.slice none 0 0, .slice none 0 0] 54
  have hsz : w.heap.size < (w.alloc (.cells #[.slice none 0 0, .slice none 0 0] 54)).heap.size := by simp
  have HO := hide (open_any _ a len cap zs (isRow_below h bA))
  clear h
  go_enter Try.func36, Try.ntmps36
  go_wp2_with fail
  generalize w.alloc (.cells #[.slice none 0 0, .slice none 0 0] 54) = wA at *
  refine (unhide HO).mono ?_
  rintro e w1 ⟨rfl, len', hl', hrow, d1⟩
  have hlt := d1.lt
  clear HO
  go_wp2_with fail
  refine (full_any wA wA w1 wA.heap.size a len' cap 0 hrow hl' d1 (by omega) (by omega)).mono ?_
  rintro e w2 ⟨g, o, c, bs, d, z, dc, dk, p', rfl, S2, hp0, hp1, d2, k2⟩
  go_wp2_with fail
  refine (pick_k wA wA w2 wA.heap.size a len' cap (p') 6 hrow hl' d2 (by omega) (by omega) (by omega) (by omega)).mono ?_
  rintro e w3 ⟨r, rfl, r0, r1, d3, m⟩
  have S3 := S2.kept m (fun x hx => by simp at hx; subst hx; exact hlt)
  clear m
  go_wp2_with fail
  refine (pick_k wA wA w3 wA.heap.size a len' cap (p' + 1) 24 hrow hl' d3 (by omega) (by omega) (by omega) (by omega)).mono ?_
  rintro e w4 ⟨s, rfl, s0, s1, d4, m⟩
  have S4 := S3.kept m (fun x hx => by simp at hx; subst hx; exact hlt)
  clear m
  go_wp2_with fail
  refine (pick_k wA wA w4 wA.heap.size a len' cap (p' + 1 + 1) 10 hrow hl' d4 (by omega) (by omega) (by omega) (by omega)).mono ?_
  rintro e w5 ⟨t, rfl, t0, t1, d5, m⟩
  have S5 := S4.kept m (fun x hx => by simp at hx; subst hx; exact hlt)
  clear m
  go_wp2_with fail
  refine (pick_k wA wA w5 wA.heap.size a len' cap (p' + 1 + 1 + 1) 24 hrow hl' d5 (by omega) (by omega) (by omega) (by omega)).mono ?_
  rintro e w6 ⟨x, rfl, x0, x1, d6, m⟩
  have S6 := S5.kept m (fun x hx => by simp at hx; subst hx; exact hlt)
  clear m

  have b6 := d6.bel
  have B6 := bA.trans (b6.mono bA.size)
  have cR := csAt_kept cZ (L := []) (Kept.of b6) (by omega) (by simp)
  have q0 := cR.cell 0 _ rfl
  have q1 := cR.cell 1 _ rfl
  have f0 := cR.frozen 0 (by simp)
  have f1 := cR.frozen 1 (by simp)
  have pt := cR.put [.slice (some ⟨g, o, none⟩) bs.length c, .slice (some ⟨d, z, none⟩) dk.length dc] rfl
  have kz := kept_cells w6 w.heap.size 0 [.slice (some ⟨g, o, none⟩) bs.length c, .slice (some ⟨d, z, none⟩) dk.length dc]
  have SZ := SN.mono (S6.kept kz (fun x hx => by simp at hx; omega)) (show w.heap.size ≤ w1.heap.size by omega)
  have BZ := ((Kept.of (L := []) B6).setCells (b := w.heap.size) (.inr (Nat.le_refl _)) 0 [.slice (some ⟨g, o, none⟩) bs.length c, .slice (some ⟨d, z, none⟩) dk.length dc]).all (by simp)
  clear d1 d2 d3 d4 d5 d6 k2 S2 S3 S4 S5 S6 B6 b6
  have hdiv : ∀ s : Int, 0 ≤ s → s < 24 → ∃ q : Int, s.tdiv 23 = q ∧ (q = 0 ∨ q = 1) := fun s t0 t1 => ⟨_, rfl, by
    by_cases e : s = 23
    · subst e; right; rfl
    · left; exact Int.tdiv_eq_zero_of_lt t0 (by omega)⟩
  obtain ⟨q, hq, hqq⟩ := hdiv s s0 s1
  obtain ⟨y, hy, hyy⟩ := hdiv x x0 x1
  have hq' : s / 23 = q := by rw [← hq, Int.tdiv_eq_ediv_of_nonneg s0]
  have hy' : x / 23 = y := by rw [← hy, Int.tdiv_eq_ediv_of_nonneg x0]
  have hk : 1 ≤ 1 + r + q * 6 ∧ 1 + r + q * 6 ≤ 12 := by rcases hqq with rfl | rfl <;> omega
  have hv : -10 ≤ t - y * 10 ∧ t - y * 10 ≤ 9 := by rcases hyy with rfl | rfl <;> omega
  have hw1 : IntKind.i64.wrap (q * 6) = q * 6 := by rw [IntKind.wrap_i64] <;> omega
  have hw2 : IntKind.i64.wrap (y * 10) = y * 10 := by rw [IntKind.wrap_i64] <;> omega
  have hw3 : IntKind.i64.wrap (1 + r + q * 6) = 1 + r + q * 6 := by rw [IntKind.wrap_i64] <;> omega
  have hw4 : IntKind.i64.wrap (t - y * 10) = t - y * 10 := by rw [IntKind.wrap_i64] <;> omega
  go_wp2
  refine bodyPost_ret (res_three Try.results36 _ _ w.heap.size [.slice (some ⟨g, o, none⟩) bs.length c, .slice (some ⟨d, z, none⟩) dk.length dc] _ rfl pt.cells Try.underlying54 rfl (by kernel_rfl)) rfl ?_
  exact ⟨g, o, c, bs, d, z, dc, dk, 1 + r + q * 6, t - y * 10, rfl, SZ, hk.1, hk.2, hv.1, hv.2, BZ⟩
end Go.Proofs.Ytkikeapfjpnkgaa.DrF
