/-
  The specification's drawing of what may happen.
-/
import Derived.Test.YtkikeapfjpnkgaaDrwC
import Derived.Test.YtkikeapfjpnkgaaBaU
import Derived.Test.YtkikeapfjpnkgaaImplX
namespace Go.Proofs.Ytkikeapfjpnkgaa.EvA
open Go.ChangeShapes Go.WideShapes Go.ChangeAt Go.RowKit Big ImplL Kp DoA Pick Draw
set_option linter.unusedVariables false
set_option linter.unusedSimpArgs false
attribute [local go_sem ↓] Go.wp_at_zero Go.wp_at_succ

theorem pick_k (u w0 w : World) (rb : Nat) (a : Option Addr) (len cap : Nat) (p n : Int) (hr : Row w0 a len) (hl : len ≤ 10000) (h : Rd u w0 rb a len cap p w) (hp0 : 0 ≤ p) (hp : p ≤ 10000) (hn : 1 ≤ n) (hn2 : n ≤ 10000) :
    Calls Try.prog 42 #[.pointer (some ⟨rb, 0, none⟩), .int .i64 n] w fun e w' => ∃ r : Int, e = .returned (.int .i64 r) ∧ 0 ≤ r ∧ r < n ∧ Rd u w0 rb a len cap (p + 1) w' ∧ Kept [rb] w w' := by
  refine (pick_any w w0 w rb a len cap p n hr hl ⟨h.lt, h.old, h.c0, h.c1, h.f1, h.bel, Kept.refl _ _⟩ hp0 hp hn hn2).mono ?_
  rintro e w' ⟨r, rfl, r0, r1, d, _⟩
  exact ⟨r, rfl, r0, r1, ⟨d.lt, d.old, d.c0, d.c1, d.f1, d.bel, h.kp.trans d.kp⟩, d.kp⟩
theorem rd_set {u w0 w w' : World} {rb : Nat} {a : Option Addr} {len cap : Nat} {p : Int} (d : Rd u w0 rb a len cap p w) {b : Nat} (kz : Kept [b] w w') (hb : b ≠ rb) (h0 : w0.heap.size ≤ b) (hu : u.heap.size ≤ b) : Rd u w0 rb a len cap p w' := by
  have q := d.kept kz (fun x hx => by simp at hx; subst hx; exact ⟨hb, h0⟩)
  exact ⟨q.lt, q.old, q.c0, q.c1, q.f1, q.bel, d.kp.then kz (fun x hx => by simp at hx; subst hx; exact .inr hu)⟩
theorem csAt_set {w : World} {b : Nat} {cs : List Value} (h : CsAt w b cs) (j : Nat) (hj : j < cs.length) (v : Value) : CsAt (w.setCell ⟨b, j, none⟩ v) b (cs.set j v) := by
  refine ⟨fun i x hx => ?_, fun i hi => ?_⟩
  · rw [Nat.zero_add]
    have hil : i < cs.length := by
      have := (List.getElem?_eq_some_iff.1 hx).1
      rw [List.length_set] at this; exact this
    by_cases e : i = j
    · subst e
      have : x = v := by simp [hil] at hx; exact hx.symm
      rw [this]
      exact World.cell?_setCell_same' _ _ _ (by rw [h.cell i _ (List.getElem?_eq_getElem hil)]; rfl)
    · rw [World.cell?_setCell_other _ _ _ _ (by intro q; cases q; exact e rfl)]
      rw [List.getElem?_set_ne (by omega)] at hx
      exact h.cell i x hx
  · rw [List.length_set] at hi
    exact there_cell h.free b j v i hi
def EvPost (u w0 w : World) (rb : Nat) (a : Option Addr) (len cap : Nat) (p : Int) (e : Ending) (w' : World) : Prop :=
  ∃ (kind x b c : Int) (torn : Bool) (p' : Int), e = .returned (.agg #[.int .i64 kind, .int .i64 x, .int .i64 b, .int .i64 c, .bool torn]) ∧ p ≤ p' ∧ p' ≤ p + 8 ∧ Rd u w0 rb a len cap p' w' ∧ Kept [rb] w w'

/-- The same, with what the numbers may be. -/
def EvPD (u w0 w : World) (rb : Nat) (a : Option Addr) (len cap : Nat) (p : Int) (e : Ending) (w' : World) : Prop :=
  ∃ (kind x b c : Int) (torn : Bool) (p' : Int), e = .returned (.agg #[.int .i64 kind, .int .i64 x, .int .i64 b, .int .i64 c, .bool torn]) ∧ p ≤ p' ∧ p' ≤ p + 8 ∧ Rd u w0 rb a len cap p' w' ∧ Kept [rb] w w' ∧ 1 ≤ kind ∧ kind ≤ 4 ∧ 1 ≤ x ∧ x ≤ 6 ∧ 0 ≤ b ∧ b ≤ 9 ∧ 0 ≤ c ∧ c ≤ 9

set_option maxRecDepth 100000 in
set_option maxHeartbeats 2000000 in
theorem eventD_any (u w0 w : World) (rb : Nat) (a : Option Addr) (len cap : Nat) (p : Int) (hr : Row w0 a len) (hl : len ≤ 10000) (h : Rd u w0 rb a len cap p w) (hp0 : 0 ≤ p) (hp : p ≤ 9000) :
    Calls Try.prog 102 #[.pointer (some ⟨rb, 0, none⟩)] w fun e w' => EvPD u w0 w rb a len cap p e w' := by
  have hlt := h.lt
  have h1 := h.alloc (.cells #[.int .i64 0, .int .i64 0, .int .i64 0, .int .i64 0, .bool false] 125)
  have C1 := CsAt.new w [.int .i64 0, .int .i64 0, .int .i64 0, .int .i64 0, .bool false] 125
  have k1 : Kept [rb] w (w.alloc (.cells #[.int .i64 0, .int .i64 0, .int .i64 0, .int .i64 0, .bool false] 125)) := (Kept.refl _ _).alloc _
  have s1 : (w.alloc (.cells #[.int .i64 0, .int .i64 0, .int .i64 0, .int .i64 0, .bool false] 125)).heap.size = w.heap.size + 1 := by simp
  go_enter Try.func102, Try.ntmps102
  go_upto_region 1 with fail
  generalize w.alloc (.cells #[.int .i64 0, .int .i64 0, .int .i64 0, .int .i64 0, .bool false] 125) = w1 at *
  go_wp2_with fail
  refine (pick_k u w0 w1 rb a len cap p 6 hr hl h1 hp0 (by omega) (by omega) (by omega)).mono ?_
  rintro e w2 ⟨r1, rfl, a0, a1, d2, m2⟩
  have C2 := csAt_kept C1 m2 (by omega) (by simp; omega)
  have k2 := k1.trans m2
  have s2 : w.heap.size + 1 ≤ w2.heap.size := by have := m2.size; omega
  clear C1 k1 s1 h1 m2
  go_wp2_with fail
  refine (pick_k u w0 w2 rb a len cap (p + 1) 10 hr hl d2 (by omega) (by omega) (by omega) (by omega)).mono ?_
  rintro e w3 ⟨r2, rfl, b0, b1, d3, m3⟩
  have C3 := csAt_kept C2 m3 (by omega) (by simp; omega)
  have k3 := k2.trans m3
  have s3 : w.heap.size + 1 ≤ w3.heap.size := by have := m3.size; omega
  clear C2 k2 s2 d2 m3
  go_upto_region 2 with fail
  have d4 := d3.alloc (.cells #[.int .i64 1, .int .i64 (1 + r1), .int .i64 r2, .int .i64 9, .bool false] 125)
  have bA : Below w3.heap.size w3 (w3.alloc (.cells #[.int .i64 1, .int .i64 (1 + r1), .int .i64 r2, .int .i64 9, .bool false] 125)) := (Below.refl _ _).alloc (Nat.le_refl _) _
  have C4 := csAt_kept C3 (L := []) (Kept.of bA) (by omega) (by simp)
  have E4 := CsAt.new w3 [.int .i64 1, .int .i64 (1 + r1), .int .i64 r2, .int .i64 9, .bool false] 125
  have k4 : Kept [rb] w (w3.alloc (.cells #[.int .i64 1, .int .i64 (1 + r1), .int .i64 r2, .int .i64 9, .bool false] 125)) := k3.trans (Kept.of bA)
  have s4 : w3.heap.size + 1 ≤ (w3.alloc (.cells #[.int .i64 1, .int .i64 (1 + r1), .int .i64 r2, .int .i64 9, .bool false] 125)).heap.size := by simp
  have hu := h.kp.size
  have ho := h.old
  clear d3 C3 k3 bA
  generalize w3.alloc (.cells #[.int .i64 1, .int .i64 (1 + r1), .int .i64 r2, .int .i64 9, .bool false] 125) = w4 at *
  generalize w3.heap.size = eb at *
  go_wp2_with fail
  refine (pick_k u w0 w4 rb a len cap (p + 1 + 1) 12 hr hl d4 (by omega) (by omega) (by omega) (by omega)).mono ?_
  rintro e w5 ⟨k, rfl, k0, k1, d5, m5⟩
  have C5 := csAt_kept C4 m5 (by omega) (by simp; omega)
  have E5 := csAt_kept E4 m5 (by omega) (by simp; omega)
  have k5 := k4.trans m5
  have s5 : eb + 1 ≤ w5.heap.size := Nat.le_trans s4 m5.size
  clear C4 E4 k4 s4 d4 m5
  by_cases q0 : k = 0
  · subst q0
    have kz := kept_cell w5 eb 0 (.int .i64 2)
    have d6 := rd_set d5 kz (by omega) (by omega) (by omega)
    have C6 := csAt_kept C5 kz (by omega) (by simp; omega)
    have E6 := csAt_set E5 0 (by simp) (.int .i64 2)
    simp only [List.set_cons_zero, List.set_cons_succ] at E6
    have k6 := k5.then kz (fun y hy => by simp at hy; subst hy; right; omega)
    have s6 : eb + 1 ≤ (w5.setCell ⟨eb, 0, none⟩ (.int .i64 2)).heap.size := Nat.le_trans s5 kz.size
    have cj := E5.cell 0 _ rfl
    have fj := E5.frozen 0 (by simp)
    go_upto_region 12 with fail
    generalize w5.setCell ⟨eb, 0, none⟩ (.int .i64 2) = w6 at *
    clear kz cj fj C5 E5 k5 s5 d5
    go_wp2_with fail
    refine (pick_k u w0 w6 rb a len cap (p + 1 + 1 + 1) 4 hr hl d6 (by omega) (by omega) (by omega) (by omega)).mono ?_
    rintro e wA ⟨t, rfl, t0, t1, dA, mA⟩
    have CA := csAt_kept C6 mA (by omega) (by simp; omega)
    have EA := csAt_kept E6 mA (by omega) (by simp; omega)
    have kA := k6.trans mA
    have sA : eb + 1 ≤ wA.heap.size := Nat.le_trans s6 mA.size
    clear C6 E6 k6 s6 d6 mA
    by_cases ht : t = 0
    · subst ht
      go_wp2_with fail
      refine (pick_k u w0 wA rb a len cap (p + 1 + 1 + 1 + 1) 5 hr hl dA (by omega) (by omega) (by omega) (by omega)).mono ?_
      rintro e wB ⟨c, rfl, c0, c1, dB, mB⟩
      have CB := csAt_kept CA mB (by omega) (by simp; omega)
      have EB := csAt_kept EA mB (by omega) (by simp; omega)
      have kB := kA.trans mB
      have sB : eb + 1 ≤ wB.heap.size := Nat.le_trans sA mB.size
      clear CA EA kA sA dA mB
      have kz := kept_cell wB eb 3 (.int .i64 c)
      have dD := rd_set dB kz (by omega) (by omega) (by omega)
      have CD := csAt_kept CB kz (by omega) (by simp; omega)
      have ED := csAt_set EB 3 (by simp) (.int .i64 c)
      simp only [List.set_cons_zero, List.set_cons_succ] at ED
      have kD := kB.then kz (fun y hy => by simp at hy; subst hy; right; omega)
      have sD : eb + 1 ≤ (wB.setCell ⟨eb, 3, none⟩ (.int .i64 c)).heap.size := Nat.le_trans sB kz.size
      have cj := EB.cell 3 _ rfl
      have fj := EB.frozen 3 (by simp)
      go_upto_region 14 with fail
      generalize wB.setCell ⟨eb, 3, none⟩ (.int .i64 c) = wD at *
      clear kz cj fj CB EB kB sB dB
      go_wp2_with fail
      refine (pick_k u w0 wD rb a len cap (p + 1 + 1 + 1 + 1 + 1) 3 hr hl dD (by omega) (by omega) (by omega) (by omega)).mono ?_
      rintro e wF ⟨x, rfl, x0, x1, dF, mF⟩
      have CF := csAt_kept CD mF (by omega) (by simp; omega)
      have EF := csAt_kept ED mF (by omega) (by simp; omega)
      have kF := kD.trans mF
      have sF : eb + 1 ≤ wF.heap.size := Nat.le_trans sD mF.size
      clear CD ED kD sD dD mF
      by_cases hx : 0 < x
      · have kz := kept_cell wF eb 4 (.bool true)
        have dG := rd_set dF kz (by omega) (by omega) (by omega)
        have CG := csAt_kept CF kz (by omega) (by simp; omega)
        have EG := csAt_set EF 4 (by simp) (.bool true)
        simp only [List.set_cons_zero, List.set_cons_succ] at EG
        have kG := kF.then kz (fun y hy => by simp at hy; subst hy; right; omega)
        have sG : eb + 1 ≤ (wF.setCell ⟨eb, 4, none⟩ (.bool true)).heap.size := Nat.le_trans sF kz.size
        have cj := EF.cell 4 _ rfl
        have fj := EF.frozen 4 (by simp)
        go_upto_region 15 with fail
        generalize wF.setCell ⟨eb, 4, none⟩ (.bool true) = wG at *
        clear kz cj fj CF EF kF sF dF
        have y0 := EG.cell 0 _ rfl
        have y1 := EG.cell 1 _ rfl
        have y2 := EG.cell 2 _ rfl
        have y3 := EG.cell 3 _ rfl
        have y4 := EG.cell 4 _ rfl
        have v0 := CG.cell 0 _ rfl
        have v1 := CG.cell 1 _ rfl
        have v2 := CG.cell 2 _ rfl
        have v3 := CG.cell 3 _ rfl
        have v4 := CG.cell 4 _ rfl
        have f0 := CG.frozen 0 (by simp)
        have f1 := CG.frozen 1 (by simp)
        have f2 := CG.frozen 2 (by simp)
        have f3 := CG.frozen 3 (by simp)
        have f4 := CG.frozen 4 (by simp)
        have p1 := CG.put [.int .i64 2, .int .i64 (1 + r1), .int .i64 r2, .int .i64 c, .bool true] rfl
        have kz := kept_cells wG w.heap.size 0 [.int .i64 2, .int .i64 (1 + r1), .int .i64 r2, .int .i64 c, .bool true]
        have dZ := rd_set dG kz (by omega) (by omega) (by omega)
        have KZ := kG.then kz (fun y hy => by simp at hy; subst hy; right; omega)
        go_wp2
        refine bodyPost_ret (res_cell_mid Try.results102 _ _ w.heap.size [.int .i64 2, .int .i64 (1 + r1), .int .i64 r2, .int .i64 c, .bool true] _ rfl p1.cells Try.underlying125 rfl (by kernel_rfl)) rfl ?_
        exact ⟨_, _, _, _, _, _, rfl, by omega, by omega, dZ, KZ, by omega, by omega, by omega, by omega, by omega, by omega, by omega, by omega⟩
      · obtain rfl : x = 0 := by omega
        clear hx
        have kz := kept_cell wF eb 4 (.bool false)
        have dG := rd_set dF kz (by omega) (by omega) (by omega)
        have CG := csAt_kept CF kz (by omega) (by simp; omega)
        have EG := csAt_set EF 4 (by simp) (.bool false)
        simp only [List.set_cons_zero, List.set_cons_succ] at EG
        have kG := kF.then kz (fun y hy => by simp at hy; subst hy; right; omega)
        have sG : eb + 1 ≤ (wF.setCell ⟨eb, 4, none⟩ (.bool false)).heap.size := Nat.le_trans sF kz.size
        have cj := EF.cell 4 _ rfl
        have fj := EF.frozen 4 (by simp)
        go_upto_region 15 with fail
        generalize wF.setCell ⟨eb, 4, none⟩ (.bool false) = wG at *
        clear kz cj fj CF EF kF sF dF
        have y0 := EG.cell 0 _ rfl
        have y1 := EG.cell 1 _ rfl
        have y2 := EG.cell 2 _ rfl
        have y3 := EG.cell 3 _ rfl
        have y4 := EG.cell 4 _ rfl
        have v0 := CG.cell 0 _ rfl
        have v1 := CG.cell 1 _ rfl
        have v2 := CG.cell 2 _ rfl
        have v3 := CG.cell 3 _ rfl
        have v4 := CG.cell 4 _ rfl
        have f0 := CG.frozen 0 (by simp)
        have f1 := CG.frozen 1 (by simp)
        have f2 := CG.frozen 2 (by simp)
        have f3 := CG.frozen 3 (by simp)
        have f4 := CG.frozen 4 (by simp)
        have p1 := CG.put [.int .i64 2, .int .i64 (1 + r1), .int .i64 r2, .int .i64 c, .bool false] rfl
        have kz := kept_cells wG w.heap.size 0 [.int .i64 2, .int .i64 (1 + r1), .int .i64 r2, .int .i64 c, .bool false]
        have dZ := rd_set dG kz (by omega) (by omega) (by omega)
        have KZ := kG.then kz (fun y hy => by simp at hy; subst hy; right; omega)
        go_wp2
        refine bodyPost_ret (res_cell_mid Try.results102 _ _ w.heap.size [.int .i64 2, .int .i64 (1 + r1), .int .i64 r2, .int .i64 c, .bool false] _ rfl p1.cells Try.underlying125 rfl (by kernel_rfl)) rfl ?_
        exact ⟨_, _, _, _, _, _, rfl, by omega, by omega, dZ, KZ, by omega, by omega, by omega, by omega, by omega, by omega, by omega, by omega⟩
    · have y0 := EA.cell 0 _ rfl
      have y1 := EA.cell 1 _ rfl
      have y2 := EA.cell 2 _ rfl
      have y3 := EA.cell 3 _ rfl
      have y4 := EA.cell 4 _ rfl
      have v0 := CA.cell 0 _ rfl
      have v1 := CA.cell 1 _ rfl
      have v2 := CA.cell 2 _ rfl
      have v3 := CA.cell 3 _ rfl
      have v4 := CA.cell 4 _ rfl
      have f0 := CA.frozen 0 (by simp)
      have f1 := CA.frozen 1 (by simp)
      have f2 := CA.frozen 2 (by simp)
      have f3 := CA.frozen 3 (by simp)
      have f4 := CA.frozen 4 (by simp)
      have p1 := CA.put [.int .i64 2, .int .i64 (1 + r1), .int .i64 r2, .int .i64 9, .bool false] rfl
      have kz := kept_cells wA w.heap.size 0 [.int .i64 2, .int .i64 (1 + r1), .int .i64 r2, .int .i64 9, .bool false]
      have dZ := rd_set dA kz (by omega) (by omega) (by omega)
      have KZ := kA.then kz (fun y hy => by simp at hy; subst hy; right; omega)
      go_wp2
      refine bodyPost_ret (res_cell_mid Try.results102 _ _ w.heap.size [.int .i64 2, .int .i64 (1 + r1), .int .i64 r2, .int .i64 9, .bool false] _ rfl p1.cells Try.underlying125 rfl (by kernel_rfl)) rfl ?_
      exact ⟨_, _, _, _, _, _, rfl, by omega, by omega, dZ, KZ, by omega, by omega, by omega, by omega, by omega, by omega, by omega, by omega⟩
  by_cases q1 : k = 1
  · subst q1
    have kz := kept_cell w5 eb 0 (.int .i64 2)
    have d6 := rd_set d5 kz (by omega) (by omega) (by omega)
    have C6 := csAt_kept C5 kz (by omega) (by simp; omega)
    have E6 := csAt_set E5 0 (by simp) (.int .i64 2)
    simp only [List.set_cons_zero, List.set_cons_succ] at E6
    have k6 := k5.then kz (fun y hy => by simp at hy; subst hy; right; omega)
    have s6 : eb + 1 ≤ (w5.setCell ⟨eb, 0, none⟩ (.int .i64 2)).heap.size := Nat.le_trans s5 kz.size
    have cj := E5.cell 0 _ rfl
    have fj := E5.frozen 0 (by simp)
    go_upto_region 12 with fail
    generalize w5.setCell ⟨eb, 0, none⟩ (.int .i64 2) = w6 at *
    clear kz cj fj C5 E5 k5 s5 d5
    go_wp2_with fail
    refine (pick_k u w0 w6 rb a len cap (p + 1 + 1 + 1) 4 hr hl d6 (by omega) (by omega) (by omega) (by omega)).mono ?_
    rintro e wA ⟨t, rfl, t0, t1, dA, mA⟩
    have CA := csAt_kept C6 mA (by omega) (by simp; omega)
    have EA := csAt_kept E6 mA (by omega) (by simp; omega)
    have kA := k6.trans mA
    have sA : eb + 1 ≤ wA.heap.size := Nat.le_trans s6 mA.size
    clear C6 E6 k6 s6 d6 mA
    by_cases ht : t = 0
    · subst ht
      go_wp2_with fail
      refine (pick_k u w0 wA rb a len cap (p + 1 + 1 + 1 + 1) 5 hr hl dA (by omega) (by omega) (by omega) (by omega)).mono ?_
      rintro e wB ⟨c, rfl, c0, c1, dB, mB⟩
      have CB := csAt_kept CA mB (by omega) (by simp; omega)
      have EB := csAt_kept EA mB (by omega) (by simp; omega)
      have kB := kA.trans mB
      have sB : eb + 1 ≤ wB.heap.size := Nat.le_trans sA mB.size
      clear CA EA kA sA dA mB
      have kz := kept_cell wB eb 3 (.int .i64 c)
      have dD := rd_set dB kz (by omega) (by omega) (by omega)
      have CD := csAt_kept CB kz (by omega) (by simp; omega)
      have ED := csAt_set EB 3 (by simp) (.int .i64 c)
      simp only [List.set_cons_zero, List.set_cons_succ] at ED
      have kD := kB.then kz (fun y hy => by simp at hy; subst hy; right; omega)
      have sD : eb + 1 ≤ (wB.setCell ⟨eb, 3, none⟩ (.int .i64 c)).heap.size := Nat.le_trans sB kz.size
      have cj := EB.cell 3 _ rfl
      have fj := EB.frozen 3 (by simp)
      go_upto_region 14 with fail
      generalize wB.setCell ⟨eb, 3, none⟩ (.int .i64 c) = wD at *
      clear kz cj fj CB EB kB sB dB
      go_wp2_with fail
      refine (pick_k u w0 wD rb a len cap (p + 1 + 1 + 1 + 1 + 1) 3 hr hl dD (by omega) (by omega) (by omega) (by omega)).mono ?_
      rintro e wF ⟨x, rfl, x0, x1, dF, mF⟩
      have CF := csAt_kept CD mF (by omega) (by simp; omega)
      have EF := csAt_kept ED mF (by omega) (by simp; omega)
      have kF := kD.trans mF
      have sF : eb + 1 ≤ wF.heap.size := Nat.le_trans sD mF.size
      clear CD ED kD sD dD mF
      by_cases hx : 0 < x
      · have kz := kept_cell wF eb 4 (.bool true)
        have dG := rd_set dF kz (by omega) (by omega) (by omega)
        have CG := csAt_kept CF kz (by omega) (by simp; omega)
        have EG := csAt_set EF 4 (by simp) (.bool true)
        simp only [List.set_cons_zero, List.set_cons_succ] at EG
        have kG := kF.then kz (fun y hy => by simp at hy; subst hy; right; omega)
        have sG : eb + 1 ≤ (wF.setCell ⟨eb, 4, none⟩ (.bool true)).heap.size := Nat.le_trans sF kz.size
        have cj := EF.cell 4 _ rfl
        have fj := EF.frozen 4 (by simp)
        go_upto_region 15 with fail
        generalize wF.setCell ⟨eb, 4, none⟩ (.bool true) = wG at *
        clear kz cj fj CF EF kF sF dF
        have y0 := EG.cell 0 _ rfl
        have y1 := EG.cell 1 _ rfl
        have y2 := EG.cell 2 _ rfl
        have y3 := EG.cell 3 _ rfl
        have y4 := EG.cell 4 _ rfl
        have v0 := CG.cell 0 _ rfl
        have v1 := CG.cell 1 _ rfl
        have v2 := CG.cell 2 _ rfl
        have v3 := CG.cell 3 _ rfl
        have v4 := CG.cell 4 _ rfl
        have f0 := CG.frozen 0 (by simp)
        have f1 := CG.frozen 1 (by simp)
        have f2 := CG.frozen 2 (by simp)
        have f3 := CG.frozen 3 (by simp)
        have f4 := CG.frozen 4 (by simp)
        have p1 := CG.put [.int .i64 2, .int .i64 (1 + r1), .int .i64 r2, .int .i64 c, .bool true] rfl
        have kz := kept_cells wG w.heap.size 0 [.int .i64 2, .int .i64 (1 + r1), .int .i64 r2, .int .i64 c, .bool true]
        have dZ := rd_set dG kz (by omega) (by omega) (by omega)
        have KZ := kG.then kz (fun y hy => by simp at hy; subst hy; right; omega)
        go_wp2
        refine bodyPost_ret (res_cell_mid Try.results102 _ _ w.heap.size [.int .i64 2, .int .i64 (1 + r1), .int .i64 r2, .int .i64 c, .bool true] _ rfl p1.cells Try.underlying125 rfl (by kernel_rfl)) rfl ?_
        exact ⟨_, _, _, _, _, _, rfl, by omega, by omega, dZ, KZ, by omega, by omega, by omega, by omega, by omega, by omega, by omega, by omega⟩
      · obtain rfl : x = 0 := by omega
        clear hx
        have kz := kept_cell wF eb 4 (.bool false)
        have dG := rd_set dF kz (by omega) (by omega) (by omega)
        have CG := csAt_kept CF kz (by omega) (by simp; omega)
        have EG := csAt_set EF 4 (by simp) (.bool false)
        simp only [List.set_cons_zero, List.set_cons_succ] at EG
        have kG := kF.then kz (fun y hy => by simp at hy; subst hy; right; omega)
        have sG : eb + 1 ≤ (wF.setCell ⟨eb, 4, none⟩ (.bool false)).heap.size := Nat.le_trans sF kz.size
        have cj := EF.cell 4 _ rfl
        have fj := EF.frozen 4 (by simp)
        go_upto_region 15 with fail
        generalize wF.setCell ⟨eb, 4, none⟩ (.bool false) = wG at *
        clear kz cj fj CF EF kF sF dF
        have y0 := EG.cell 0 _ rfl
        have y1 := EG.cell 1 _ rfl
        have y2 := EG.cell 2 _ rfl
        have y3 := EG.cell 3 _ rfl
        have y4 := EG.cell 4 _ rfl
        have v0 := CG.cell 0 _ rfl
        have v1 := CG.cell 1 _ rfl
        have v2 := CG.cell 2 _ rfl
        have v3 := CG.cell 3 _ rfl
        have v4 := CG.cell 4 _ rfl
        have f0 := CG.frozen 0 (by simp)
        have f1 := CG.frozen 1 (by simp)
        have f2 := CG.frozen 2 (by simp)
        have f3 := CG.frozen 3 (by simp)
        have f4 := CG.frozen 4 (by simp)
        have p1 := CG.put [.int .i64 2, .int .i64 (1 + r1), .int .i64 r2, .int .i64 c, .bool false] rfl
        have kz := kept_cells wG w.heap.size 0 [.int .i64 2, .int .i64 (1 + r1), .int .i64 r2, .int .i64 c, .bool false]
        have dZ := rd_set dG kz (by omega) (by omega) (by omega)
        have KZ := kG.then kz (fun y hy => by simp at hy; subst hy; right; omega)
        go_wp2
        refine bodyPost_ret (res_cell_mid Try.results102 _ _ w.heap.size [.int .i64 2, .int .i64 (1 + r1), .int .i64 r2, .int .i64 c, .bool false] _ rfl p1.cells Try.underlying125 rfl (by kernel_rfl)) rfl ?_
        exact ⟨_, _, _, _, _, _, rfl, by omega, by omega, dZ, KZ, by omega, by omega, by omega, by omega, by omega, by omega, by omega, by omega⟩
    · have y0 := EA.cell 0 _ rfl
      have y1 := EA.cell 1 _ rfl
      have y2 := EA.cell 2 _ rfl
      have y3 := EA.cell 3 _ rfl
      have y4 := EA.cell 4 _ rfl
      have v0 := CA.cell 0 _ rfl
      have v1 := CA.cell 1 _ rfl
      have v2 := CA.cell 2 _ rfl
      have v3 := CA.cell 3 _ rfl
      have v4 := CA.cell 4 _ rfl
      have f0 := CA.frozen 0 (by simp)
      have f1 := CA.frozen 1 (by simp)
      have f2 := CA.frozen 2 (by simp)
      have f3 := CA.frozen 3 (by simp)
      have f4 := CA.frozen 4 (by simp)
      have p1 := CA.put [.int .i64 2, .int .i64 (1 + r1), .int .i64 r2, .int .i64 9, .bool false] rfl
      have kz := kept_cells wA w.heap.size 0 [.int .i64 2, .int .i64 (1 + r1), .int .i64 r2, .int .i64 9, .bool false]
      have dZ := rd_set dA kz (by omega) (by omega) (by omega)
      have KZ := kA.then kz (fun y hy => by simp at hy; subst hy; right; omega)
      go_wp2
      refine bodyPost_ret (res_cell_mid Try.results102 _ _ w.heap.size [.int .i64 2, .int .i64 (1 + r1), .int .i64 r2, .int .i64 9, .bool false] _ rfl p1.cells Try.underlying125 rfl (by kernel_rfl)) rfl ?_
      exact ⟨_, _, _, _, _, _, rfl, by omega, by omega, dZ, KZ, by omega, by omega, by omega, by omega, by omega, by omega, by omega, by omega⟩
  by_cases q2 : k = 2
  · subst q2
    have kz := kept_cell w5 eb 0 (.int .i64 2)
    have d6 := rd_set d5 kz (by omega) (by omega) (by omega)
    have C6 := csAt_kept C5 kz (by omega) (by simp; omega)
    have E6 := csAt_set E5 0 (by simp) (.int .i64 2)
    simp only [List.set_cons_zero, List.set_cons_succ] at E6
    have k6 := k5.then kz (fun y hy => by simp at hy; subst hy; right; omega)
    have s6 : eb + 1 ≤ (w5.setCell ⟨eb, 0, none⟩ (.int .i64 2)).heap.size := Nat.le_trans s5 kz.size
    have cj := E5.cell 0 _ rfl
    have fj := E5.frozen 0 (by simp)
    go_upto_region 12 with fail
    generalize w5.setCell ⟨eb, 0, none⟩ (.int .i64 2) = w6 at *
    clear kz cj fj C5 E5 k5 s5 d5
    go_wp2_with fail
    refine (pick_k u w0 w6 rb a len cap (p + 1 + 1 + 1) 4 hr hl d6 (by omega) (by omega) (by omega) (by omega)).mono ?_
    rintro e wA ⟨t, rfl, t0, t1, dA, mA⟩
    have CA := csAt_kept C6 mA (by omega) (by simp; omega)
    have EA := csAt_kept E6 mA (by omega) (by simp; omega)
    have kA := k6.trans mA
    have sA : eb + 1 ≤ wA.heap.size := Nat.le_trans s6 mA.size
    clear C6 E6 k6 s6 d6 mA
    by_cases ht : t = 0
    · subst ht
      go_wp2_with fail
      refine (pick_k u w0 wA rb a len cap (p + 1 + 1 + 1 + 1) 5 hr hl dA (by omega) (by omega) (by omega) (by omega)).mono ?_
      rintro e wB ⟨c, rfl, c0, c1, dB, mB⟩
      have CB := csAt_kept CA mB (by omega) (by simp; omega)
      have EB := csAt_kept EA mB (by omega) (by simp; omega)
      have kB := kA.trans mB
      have sB : eb + 1 ≤ wB.heap.size := Nat.le_trans sA mB.size
      clear CA EA kA sA dA mB
      have kz := kept_cell wB eb 3 (.int .i64 c)
      have dD := rd_set dB kz (by omega) (by omega) (by omega)
      have CD := csAt_kept CB kz (by omega) (by simp; omega)
      have ED := csAt_set EB 3 (by simp) (.int .i64 c)
      simp only [List.set_cons_zero, List.set_cons_succ] at ED
      have kD := kB.then kz (fun y hy => by simp at hy; subst hy; right; omega)
      have sD : eb + 1 ≤ (wB.setCell ⟨eb, 3, none⟩ (.int .i64 c)).heap.size := Nat.le_trans sB kz.size
      have cj := EB.cell 3 _ rfl
      have fj := EB.frozen 3 (by simp)
      go_upto_region 14 with fail
      generalize wB.setCell ⟨eb, 3, none⟩ (.int .i64 c) = wD at *
      clear kz cj fj CB EB kB sB dB
      go_wp2_with fail
      refine (pick_k u w0 wD rb a len cap (p + 1 + 1 + 1 + 1 + 1) 3 hr hl dD (by omega) (by omega) (by omega) (by omega)).mono ?_
      rintro e wF ⟨x, rfl, x0, x1, dF, mF⟩
      have CF := csAt_kept CD mF (by omega) (by simp; omega)
      have EF := csAt_kept ED mF (by omega) (by simp; omega)
      have kF := kD.trans mF
      have sF : eb + 1 ≤ wF.heap.size := Nat.le_trans sD mF.size
      clear CD ED kD sD dD mF
      by_cases hx : 0 < x
      · have kz := kept_cell wF eb 4 (.bool true)
        have dG := rd_set dF kz (by omega) (by omega) (by omega)
        have CG := csAt_kept CF kz (by omega) (by simp; omega)
        have EG := csAt_set EF 4 (by simp) (.bool true)
        simp only [List.set_cons_zero, List.set_cons_succ] at EG
        have kG := kF.then kz (fun y hy => by simp at hy; subst hy; right; omega)
        have sG : eb + 1 ≤ (wF.setCell ⟨eb, 4, none⟩ (.bool true)).heap.size := Nat.le_trans sF kz.size
        have cj := EF.cell 4 _ rfl
        have fj := EF.frozen 4 (by simp)
        go_upto_region 15 with fail
        generalize wF.setCell ⟨eb, 4, none⟩ (.bool true) = wG at *
        clear kz cj fj CF EF kF sF dF
        have y0 := EG.cell 0 _ rfl
        have y1 := EG.cell 1 _ rfl
        have y2 := EG.cell 2 _ rfl
        have y3 := EG.cell 3 _ rfl
        have y4 := EG.cell 4 _ rfl
        have v0 := CG.cell 0 _ rfl
        have v1 := CG.cell 1 _ rfl
        have v2 := CG.cell 2 _ rfl
        have v3 := CG.cell 3 _ rfl
        have v4 := CG.cell 4 _ rfl
        have f0 := CG.frozen 0 (by simp)
        have f1 := CG.frozen 1 (by simp)
        have f2 := CG.frozen 2 (by simp)
        have f3 := CG.frozen 3 (by simp)
        have f4 := CG.frozen 4 (by simp)
        have p1 := CG.put [.int .i64 2, .int .i64 (1 + r1), .int .i64 r2, .int .i64 c, .bool true] rfl
        have kz := kept_cells wG w.heap.size 0 [.int .i64 2, .int .i64 (1 + r1), .int .i64 r2, .int .i64 c, .bool true]
        have dZ := rd_set dG kz (by omega) (by omega) (by omega)
        have KZ := kG.then kz (fun y hy => by simp at hy; subst hy; right; omega)
        go_wp2
        refine bodyPost_ret (res_cell_mid Try.results102 _ _ w.heap.size [.int .i64 2, .int .i64 (1 + r1), .int .i64 r2, .int .i64 c, .bool true] _ rfl p1.cells Try.underlying125 rfl (by kernel_rfl)) rfl ?_
        exact ⟨_, _, _, _, _, _, rfl, by omega, by omega, dZ, KZ, by omega, by omega, by omega, by omega, by omega, by omega, by omega, by omega⟩
      · obtain rfl : x = 0 := by omega
        clear hx
        have kz := kept_cell wF eb 4 (.bool false)
        have dG := rd_set dF kz (by omega) (by omega) (by omega)
        have CG := csAt_kept CF kz (by omega) (by simp; omega)
        have EG := csAt_set EF 4 (by simp) (.bool false)
        simp only [List.set_cons_zero, List.set_cons_succ] at EG
        have kG := kF.then kz (fun y hy => by simp at hy; subst hy; right; omega)
        have sG : eb + 1 ≤ (wF.setCell ⟨eb, 4, none⟩ (.bool false)).heap.size := Nat.le_trans sF kz.size
        have cj := EF.cell 4 _ rfl
        have fj := EF.frozen 4 (by simp)
        go_upto_region 15 with fail
        generalize wF.setCell ⟨eb, 4, none⟩ (.bool false) = wG at *
        clear kz cj fj CF EF kF sF dF
        have y0 := EG.cell 0 _ rfl
        have y1 := EG.cell 1 _ rfl
        have y2 := EG.cell 2 _ rfl
        have y3 := EG.cell 3 _ rfl
        have y4 := EG.cell 4 _ rfl
        have v0 := CG.cell 0 _ rfl
        have v1 := CG.cell 1 _ rfl
        have v2 := CG.cell 2 _ rfl
        have v3 := CG.cell 3 _ rfl
        have v4 := CG.cell 4 _ rfl
        have f0 := CG.frozen 0 (by simp)
        have f1 := CG.frozen 1 (by simp)
        have f2 := CG.frozen 2 (by simp)
        have f3 := CG.frozen 3 (by simp)
        have f4 := CG.frozen 4 (by simp)
        have p1 := CG.put [.int .i64 2, .int .i64 (1 + r1), .int .i64 r2, .int .i64 c, .bool false] rfl
        have kz := kept_cells wG w.heap.size 0 [.int .i64 2, .int .i64 (1 + r1), .int .i64 r2, .int .i64 c, .bool false]
        have dZ := rd_set dG kz (by omega) (by omega) (by omega)
        have KZ := kG.then kz (fun y hy => by simp at hy; subst hy; right; omega)
        go_wp2
        refine bodyPost_ret (res_cell_mid Try.results102 _ _ w.heap.size [.int .i64 2, .int .i64 (1 + r1), .int .i64 r2, .int .i64 c, .bool false] _ rfl p1.cells Try.underlying125 rfl (by kernel_rfl)) rfl ?_
        exact ⟨_, _, _, _, _, _, rfl, by omega, by omega, dZ, KZ, by omega, by omega, by omega, by omega, by omega, by omega, by omega, by omega⟩
    · have y0 := EA.cell 0 _ rfl
      have y1 := EA.cell 1 _ rfl
      have y2 := EA.cell 2 _ rfl
      have y3 := EA.cell 3 _ rfl
      have y4 := EA.cell 4 _ rfl
      have v0 := CA.cell 0 _ rfl
      have v1 := CA.cell 1 _ rfl
      have v2 := CA.cell 2 _ rfl
      have v3 := CA.cell 3 _ rfl
      have v4 := CA.cell 4 _ rfl
      have f0 := CA.frozen 0 (by simp)
      have f1 := CA.frozen 1 (by simp)
      have f2 := CA.frozen 2 (by simp)
      have f3 := CA.frozen 3 (by simp)
      have f4 := CA.frozen 4 (by simp)
      have p1 := CA.put [.int .i64 2, .int .i64 (1 + r1), .int .i64 r2, .int .i64 9, .bool false] rfl
      have kz := kept_cells wA w.heap.size 0 [.int .i64 2, .int .i64 (1 + r1), .int .i64 r2, .int .i64 9, .bool false]
      have dZ := rd_set dA kz (by omega) (by omega) (by omega)
      have KZ := kA.then kz (fun y hy => by simp at hy; subst hy; right; omega)
      go_wp2
      refine bodyPost_ret (res_cell_mid Try.results102 _ _ w.heap.size [.int .i64 2, .int .i64 (1 + r1), .int .i64 r2, .int .i64 9, .bool false] _ rfl p1.cells Try.underlying125 rfl (by kernel_rfl)) rfl ?_
      exact ⟨_, _, _, _, _, _, rfl, by omega, by omega, dZ, KZ, by omega, by omega, by omega, by omega, by omega, by omega, by omega, by omega⟩
  by_cases q3 : k = 3
  · subst q3
    have kz := kept_cell w5 eb 0 (.int .i64 3)
    have d6 := rd_set d5 kz (by omega) (by omega) (by omega)
    have C6 := csAt_kept C5 kz (by omega) (by simp; omega)
    have E6 := csAt_set E5 0 (by simp) (.int .i64 3)
    simp only [List.set_cons_zero, List.set_cons_succ] at E6
    have k6 := k5.then kz (fun y hy => by simp at hy; subst hy; right; omega)
    have s6 : eb + 1 ≤ (w5.setCell ⟨eb, 0, none⟩ (.int .i64 3)).heap.size := Nat.le_trans s5 kz.size
    have cj := E5.cell 0 _ rfl
    have fj := E5.frozen 0 (by simp)
    go_upto_region 12 with fail
    generalize w5.setCell ⟨eb, 0, none⟩ (.int .i64 3) = w6 at *
    clear kz cj fj C5 E5 k5 s5 d5
    go_wp2_with fail
    refine (pick_k u w0 w6 rb a len cap (p + 1 + 1 + 1) 4 hr hl d6 (by omega) (by omega) (by omega) (by omega)).mono ?_
    rintro e wA ⟨t, rfl, t0, t1, dA, mA⟩
    have CA := csAt_kept C6 mA (by omega) (by simp; omega)
    have EA := csAt_kept E6 mA (by omega) (by simp; omega)
    have kA := k6.trans mA
    have sA : eb + 1 ≤ wA.heap.size := Nat.le_trans s6 mA.size
    clear C6 E6 k6 s6 d6 mA
    by_cases ht : t = 0
    · subst ht
      go_wp2_with fail
      refine (pick_k u w0 wA rb a len cap (p + 1 + 1 + 1 + 1) 5 hr hl dA (by omega) (by omega) (by omega) (by omega)).mono ?_
      rintro e wB ⟨c, rfl, c0, c1, dB, mB⟩
      have CB := csAt_kept CA mB (by omega) (by simp; omega)
      have EB := csAt_kept EA mB (by omega) (by simp; omega)
      have kB := kA.trans mB
      have sB : eb + 1 ≤ wB.heap.size := Nat.le_trans sA mB.size
      clear CA EA kA sA dA mB
      have kz := kept_cell wB eb 3 (.int .i64 c)
      have dD := rd_set dB kz (by omega) (by omega) (by omega)
      have CD := csAt_kept CB kz (by omega) (by simp; omega)
      have ED := csAt_set EB 3 (by simp) (.int .i64 c)
      simp only [List.set_cons_zero, List.set_cons_succ] at ED
      have kD := kB.then kz (fun y hy => by simp at hy; subst hy; right; omega)
      have sD : eb + 1 ≤ (wB.setCell ⟨eb, 3, none⟩ (.int .i64 c)).heap.size := Nat.le_trans sB kz.size
      have cj := EB.cell 3 _ rfl
      have fj := EB.frozen 3 (by simp)
      go_upto_region 14 with fail
      generalize wB.setCell ⟨eb, 3, none⟩ (.int .i64 c) = wD at *
      clear kz cj fj CB EB kB sB dB
      go_wp2_with fail
      refine (pick_k u w0 wD rb a len cap (p + 1 + 1 + 1 + 1 + 1) 3 hr hl dD (by omega) (by omega) (by omega) (by omega)).mono ?_
      rintro e wF ⟨x, rfl, x0, x1, dF, mF⟩
      have CF := csAt_kept CD mF (by omega) (by simp; omega)
      have EF := csAt_kept ED mF (by omega) (by simp; omega)
      have kF := kD.trans mF
      have sF : eb + 1 ≤ wF.heap.size := Nat.le_trans sD mF.size
      clear CD ED kD sD dD mF
      by_cases hx : 0 < x
      · have kz := kept_cell wF eb 4 (.bool true)
        have dG := rd_set dF kz (by omega) (by omega) (by omega)
        have CG := csAt_kept CF kz (by omega) (by simp; omega)
        have EG := csAt_set EF 4 (by simp) (.bool true)
        simp only [List.set_cons_zero, List.set_cons_succ] at EG
        have kG := kF.then kz (fun y hy => by simp at hy; subst hy; right; omega)
        have sG : eb + 1 ≤ (wF.setCell ⟨eb, 4, none⟩ (.bool true)).heap.size := Nat.le_trans sF kz.size
        have cj := EF.cell 4 _ rfl
        have fj := EF.frozen 4 (by simp)
        go_upto_region 15 with fail
        generalize wF.setCell ⟨eb, 4, none⟩ (.bool true) = wG at *
        clear kz cj fj CF EF kF sF dF
        have y0 := EG.cell 0 _ rfl
        have y1 := EG.cell 1 _ rfl
        have y2 := EG.cell 2 _ rfl
        have y3 := EG.cell 3 _ rfl
        have y4 := EG.cell 4 _ rfl
        have v0 := CG.cell 0 _ rfl
        have v1 := CG.cell 1 _ rfl
        have v2 := CG.cell 2 _ rfl
        have v3 := CG.cell 3 _ rfl
        have v4 := CG.cell 4 _ rfl
        have f0 := CG.frozen 0 (by simp)
        have f1 := CG.frozen 1 (by simp)
        have f2 := CG.frozen 2 (by simp)
        have f3 := CG.frozen 3 (by simp)
        have f4 := CG.frozen 4 (by simp)
        have p1 := CG.put [.int .i64 3, .int .i64 (1 + r1), .int .i64 r2, .int .i64 c, .bool true] rfl
        have kz := kept_cells wG w.heap.size 0 [.int .i64 3, .int .i64 (1 + r1), .int .i64 r2, .int .i64 c, .bool true]
        have dZ := rd_set dG kz (by omega) (by omega) (by omega)
        have KZ := kG.then kz (fun y hy => by simp at hy; subst hy; right; omega)
        go_wp2
        refine bodyPost_ret (res_cell_mid Try.results102 _ _ w.heap.size [.int .i64 3, .int .i64 (1 + r1), .int .i64 r2, .int .i64 c, .bool true] _ rfl p1.cells Try.underlying125 rfl (by kernel_rfl)) rfl ?_
        exact ⟨_, _, _, _, _, _, rfl, by omega, by omega, dZ, KZ, by omega, by omega, by omega, by omega, by omega, by omega, by omega, by omega⟩
      · obtain rfl : x = 0 := by omega
        clear hx
        have kz := kept_cell wF eb 4 (.bool false)
        have dG := rd_set dF kz (by omega) (by omega) (by omega)
        have CG := csAt_kept CF kz (by omega) (by simp; omega)
        have EG := csAt_set EF 4 (by simp) (.bool false)
        simp only [List.set_cons_zero, List.set_cons_succ] at EG
        have kG := kF.then kz (fun y hy => by simp at hy; subst hy; right; omega)
        have sG : eb + 1 ≤ (wF.setCell ⟨eb, 4, none⟩ (.bool false)).heap.size := Nat.le_trans sF kz.size
        have cj := EF.cell 4 _ rfl
        have fj := EF.frozen 4 (by simp)
        go_upto_region 15 with fail
        generalize wF.setCell ⟨eb, 4, none⟩ (.bool false) = wG at *
        clear kz cj fj CF EF kF sF dF
        have y0 := EG.cell 0 _ rfl
        have y1 := EG.cell 1 _ rfl
        have y2 := EG.cell 2 _ rfl
        have y3 := EG.cell 3 _ rfl
        have y4 := EG.cell 4 _ rfl
        have v0 := CG.cell 0 _ rfl
        have v1 := CG.cell 1 _ rfl
        have v2 := CG.cell 2 _ rfl
        have v3 := CG.cell 3 _ rfl
        have v4 := CG.cell 4 _ rfl
        have f0 := CG.frozen 0 (by simp)
        have f1 := CG.frozen 1 (by simp)
        have f2 := CG.frozen 2 (by simp)
        have f3 := CG.frozen 3 (by simp)
        have f4 := CG.frozen 4 (by simp)
        have p1 := CG.put [.int .i64 3, .int .i64 (1 + r1), .int .i64 r2, .int .i64 c, .bool false] rfl
        have kz := kept_cells wG w.heap.size 0 [.int .i64 3, .int .i64 (1 + r1), .int .i64 r2, .int .i64 c, .bool false]
        have dZ := rd_set dG kz (by omega) (by omega) (by omega)
        have KZ := kG.then kz (fun y hy => by simp at hy; subst hy; right; omega)
        go_wp2
        refine bodyPost_ret (res_cell_mid Try.results102 _ _ w.heap.size [.int .i64 3, .int .i64 (1 + r1), .int .i64 r2, .int .i64 c, .bool false] _ rfl p1.cells Try.underlying125 rfl (by kernel_rfl)) rfl ?_
        exact ⟨_, _, _, _, _, _, rfl, by omega, by omega, dZ, KZ, by omega, by omega, by omega, by omega, by omega, by omega, by omega, by omega⟩
    · have y0 := EA.cell 0 _ rfl
      have y1 := EA.cell 1 _ rfl
      have y2 := EA.cell 2 _ rfl
      have y3 := EA.cell 3 _ rfl
      have y4 := EA.cell 4 _ rfl
      have v0 := CA.cell 0 _ rfl
      have v1 := CA.cell 1 _ rfl
      have v2 := CA.cell 2 _ rfl
      have v3 := CA.cell 3 _ rfl
      have v4 := CA.cell 4 _ rfl
      have f0 := CA.frozen 0 (by simp)
      have f1 := CA.frozen 1 (by simp)
      have f2 := CA.frozen 2 (by simp)
      have f3 := CA.frozen 3 (by simp)
      have f4 := CA.frozen 4 (by simp)
      have p1 := CA.put [.int .i64 3, .int .i64 (1 + r1), .int .i64 r2, .int .i64 9, .bool false] rfl
      have kz := kept_cells wA w.heap.size 0 [.int .i64 3, .int .i64 (1 + r1), .int .i64 r2, .int .i64 9, .bool false]
      have dZ := rd_set dA kz (by omega) (by omega) (by omega)
      have KZ := kA.then kz (fun y hy => by simp at hy; subst hy; right; omega)
      go_wp2
      refine bodyPost_ret (res_cell_mid Try.results102 _ _ w.heap.size [.int .i64 3, .int .i64 (1 + r1), .int .i64 r2, .int .i64 9, .bool false] _ rfl p1.cells Try.underlying125 rfl (by kernel_rfl)) rfl ?_
      exact ⟨_, _, _, _, _, _, rfl, by omega, by omega, dZ, KZ, by omega, by omega, by omega, by omega, by omega, by omega, by omega, by omega⟩
  by_cases q4 : k = 4
  · subst q4
    go_wp2_with fail
    refine (pick_k u w0 w5 rb a len cap (p + 1 + 1 + 1) 3 hr hl d5 (by omega) (by omega) (by omega) (by omega)).mono ?_
    rintro e w7 ⟨z, rfl, z0, z1, d7, m7⟩
    have C7 := csAt_kept C5 m7 (by omega) (by simp; omega)
    have E7 := csAt_kept E5 m7 (by omega) (by simp; omega)
    have k7 := k5.trans m7
    have s7 : eb + 1 ≤ w7.heap.size := Nat.le_trans s5 m7.size
    clear C5 E5 k5 s5 d5 m7
    by_cases hz : z = 0
    · subst hz
      have kz := kept_cell w7 eb 0 (.int .i64 4)
      have d6 := rd_set d7 kz (by omega) (by omega) (by omega)
      have C6 := csAt_kept C7 kz (by omega) (by simp; omega)
      have E6 := csAt_set E7 0 (by simp) (.int .i64 4)
      simp only [List.set_cons_zero, List.set_cons_succ] at E6
      have k6 := k7.then kz (fun y hy => by simp at hy; subst hy; right; omega)
      have s6 : eb + 1 ≤ (w7.setCell ⟨eb, 0, none⟩ (.int .i64 4)).heap.size := Nat.le_trans s7 kz.size
      have cj := E7.cell 0 _ rfl
      have fj := E7.frozen 0 (by simp)
      go_upto_region 12 with fail
      generalize w7.setCell ⟨eb, 0, none⟩ (.int .i64 4) = w6 at *
      clear kz cj fj C7 E7 k7 s7 d7
      go_wp2_with fail
      refine (pick_k u w0 w6 rb a len cap (p + 1 + 1 + 1 + 1) 4 hr hl d6 (by omega) (by omega) (by omega) (by omega)).mono ?_
      rintro e wA ⟨t, rfl, t0, t1, dA, mA⟩
      have CA := csAt_kept C6 mA (by omega) (by simp; omega)
      have EA := csAt_kept E6 mA (by omega) (by simp; omega)
      have kA := k6.trans mA
      have sA : eb + 1 ≤ wA.heap.size := Nat.le_trans s6 mA.size
      clear C6 E6 k6 s6 d6 mA
      by_cases ht : t = 0
      · subst ht
        go_wp2_with fail
        refine (pick_k u w0 wA rb a len cap (p + 1 + 1 + 1 + 1 + 1) 5 hr hl dA (by omega) (by omega) (by omega) (by omega)).mono ?_
        rintro e wB ⟨c, rfl, c0, c1, dB, mB⟩
        have CB := csAt_kept CA mB (by omega) (by simp; omega)
        have EB := csAt_kept EA mB (by omega) (by simp; omega)
        have kB := kA.trans mB
        have sB : eb + 1 ≤ wB.heap.size := Nat.le_trans sA mB.size
        clear CA EA kA sA dA mB
        have kz := kept_cell wB eb 3 (.int .i64 c)
        have dD := rd_set dB kz (by omega) (by omega) (by omega)
        have CD := csAt_kept CB kz (by omega) (by simp; omega)
        have ED := csAt_set EB 3 (by simp) (.int .i64 c)
        simp only [List.set_cons_zero, List.set_cons_succ] at ED
        have kD := kB.then kz (fun y hy => by simp at hy; subst hy; right; omega)
        have sD : eb + 1 ≤ (wB.setCell ⟨eb, 3, none⟩ (.int .i64 c)).heap.size := Nat.le_trans sB kz.size
        have cj := EB.cell 3 _ rfl
        have fj := EB.frozen 3 (by simp)
        go_upto_region 14 with fail
        generalize wB.setCell ⟨eb, 3, none⟩ (.int .i64 c) = wD at *
        clear kz cj fj CB EB kB sB dB
        go_wp2_with fail
        refine (pick_k u w0 wD rb a len cap (p + 1 + 1 + 1 + 1 + 1 + 1) 3 hr hl dD (by omega) (by omega) (by omega) (by omega)).mono ?_
        rintro e wF ⟨x, rfl, x0, x1, dF, mF⟩
        have CF := csAt_kept CD mF (by omega) (by simp; omega)
        have EF := csAt_kept ED mF (by omega) (by simp; omega)
        have kF := kD.trans mF
        have sF : eb + 1 ≤ wF.heap.size := Nat.le_trans sD mF.size
        clear CD ED kD sD dD mF
        by_cases hx : 0 < x
        · have kz := kept_cell wF eb 4 (.bool true)
          have dG := rd_set dF kz (by omega) (by omega) (by omega)
          have CG := csAt_kept CF kz (by omega) (by simp; omega)
          have EG := csAt_set EF 4 (by simp) (.bool true)
          simp only [List.set_cons_zero, List.set_cons_succ] at EG
          have kG := kF.then kz (fun y hy => by simp at hy; subst hy; right; omega)
          have sG : eb + 1 ≤ (wF.setCell ⟨eb, 4, none⟩ (.bool true)).heap.size := Nat.le_trans sF kz.size
          have cj := EF.cell 4 _ rfl
          have fj := EF.frozen 4 (by simp)
          go_upto_region 15 with fail
          generalize wF.setCell ⟨eb, 4, none⟩ (.bool true) = wG at *
          clear kz cj fj CF EF kF sF dF
          have y0 := EG.cell 0 _ rfl
          have y1 := EG.cell 1 _ rfl
          have y2 := EG.cell 2 _ rfl
          have y3 := EG.cell 3 _ rfl
          have y4 := EG.cell 4 _ rfl
          have v0 := CG.cell 0 _ rfl
          have v1 := CG.cell 1 _ rfl
          have v2 := CG.cell 2 _ rfl
          have v3 := CG.cell 3 _ rfl
          have v4 := CG.cell 4 _ rfl
          have f0 := CG.frozen 0 (by simp)
          have f1 := CG.frozen 1 (by simp)
          have f2 := CG.frozen 2 (by simp)
          have f3 := CG.frozen 3 (by simp)
          have f4 := CG.frozen 4 (by simp)
          have p1 := CG.put [.int .i64 4, .int .i64 (1 + r1), .int .i64 r2, .int .i64 c, .bool true] rfl
          have kz := kept_cells wG w.heap.size 0 [.int .i64 4, .int .i64 (1 + r1), .int .i64 r2, .int .i64 c, .bool true]
          have dZ := rd_set dG kz (by omega) (by omega) (by omega)
          have KZ := kG.then kz (fun y hy => by simp at hy; subst hy; right; omega)
          go_wp2
          refine bodyPost_ret (res_cell_mid Try.results102 _ _ w.heap.size [.int .i64 4, .int .i64 (1 + r1), .int .i64 r2, .int .i64 c, .bool true] _ rfl p1.cells Try.underlying125 rfl (by kernel_rfl)) rfl ?_
          exact ⟨_, _, _, _, _, _, rfl, by omega, by omega, dZ, KZ, by omega, by omega, by omega, by omega, by omega, by omega, by omega, by omega⟩
        · obtain rfl : x = 0 := by omega
          clear hx
          have kz := kept_cell wF eb 4 (.bool false)
          have dG := rd_set dF kz (by omega) (by omega) (by omega)
          have CG := csAt_kept CF kz (by omega) (by simp; omega)
          have EG := csAt_set EF 4 (by simp) (.bool false)
          simp only [List.set_cons_zero, List.set_cons_succ] at EG
          have kG := kF.then kz (fun y hy => by simp at hy; subst hy; right; omega)
          have sG : eb + 1 ≤ (wF.setCell ⟨eb, 4, none⟩ (.bool false)).heap.size := Nat.le_trans sF kz.size
          have cj := EF.cell 4 _ rfl
          have fj := EF.frozen 4 (by simp)
          go_upto_region 15 with fail
          generalize wF.setCell ⟨eb, 4, none⟩ (.bool false) = wG at *
          clear kz cj fj CF EF kF sF dF
          have y0 := EG.cell 0 _ rfl
          have y1 := EG.cell 1 _ rfl
          have y2 := EG.cell 2 _ rfl
          have y3 := EG.cell 3 _ rfl
          have y4 := EG.cell 4 _ rfl
          have v0 := CG.cell 0 _ rfl
          have v1 := CG.cell 1 _ rfl
          have v2 := CG.cell 2 _ rfl
          have v3 := CG.cell 3 _ rfl
          have v4 := CG.cell 4 _ rfl
          have f0 := CG.frozen 0 (by simp)
          have f1 := CG.frozen 1 (by simp)
          have f2 := CG.frozen 2 (by simp)
          have f3 := CG.frozen 3 (by simp)
          have f4 := CG.frozen 4 (by simp)
          have p1 := CG.put [.int .i64 4, .int .i64 (1 + r1), .int .i64 r2, .int .i64 c, .bool false] rfl
          have kz := kept_cells wG w.heap.size 0 [.int .i64 4, .int .i64 (1 + r1), .int .i64 r2, .int .i64 c, .bool false]
          have dZ := rd_set dG kz (by omega) (by omega) (by omega)
          have KZ := kG.then kz (fun y hy => by simp at hy; subst hy; right; omega)
          go_wp2
          refine bodyPost_ret (res_cell_mid Try.results102 _ _ w.heap.size [.int .i64 4, .int .i64 (1 + r1), .int .i64 r2, .int .i64 c, .bool false] _ rfl p1.cells Try.underlying125 rfl (by kernel_rfl)) rfl ?_
          exact ⟨_, _, _, _, _, _, rfl, by omega, by omega, dZ, KZ, by omega, by omega, by omega, by omega, by omega, by omega, by omega, by omega⟩
      · have y0 := EA.cell 0 _ rfl
        have y1 := EA.cell 1 _ rfl
        have y2 := EA.cell 2 _ rfl
        have y3 := EA.cell 3 _ rfl
        have y4 := EA.cell 4 _ rfl
        have v0 := CA.cell 0 _ rfl
        have v1 := CA.cell 1 _ rfl
        have v2 := CA.cell 2 _ rfl
        have v3 := CA.cell 3 _ rfl
        have v4 := CA.cell 4 _ rfl
        have f0 := CA.frozen 0 (by simp)
        have f1 := CA.frozen 1 (by simp)
        have f2 := CA.frozen 2 (by simp)
        have f3 := CA.frozen 3 (by simp)
        have f4 := CA.frozen 4 (by simp)
        have p1 := CA.put [.int .i64 4, .int .i64 (1 + r1), .int .i64 r2, .int .i64 9, .bool false] rfl
        have kz := kept_cells wA w.heap.size 0 [.int .i64 4, .int .i64 (1 + r1), .int .i64 r2, .int .i64 9, .bool false]
        have dZ := rd_set dA kz (by omega) (by omega) (by omega)
        have KZ := kA.then kz (fun y hy => by simp at hy; subst hy; right; omega)
        go_wp2
        refine bodyPost_ret (res_cell_mid Try.results102 _ _ w.heap.size [.int .i64 4, .int .i64 (1 + r1), .int .i64 r2, .int .i64 9, .bool false] _ rfl p1.cells Try.underlying125 rfl (by kernel_rfl)) rfl ?_
        exact ⟨_, _, _, _, _, _, rfl, by omega, by omega, dZ, KZ, by omega, by omega, by omega, by omega, by omega, by omega, by omega, by omega⟩
    · go_wp2_with fail
      refine (pick_k u w0 w7 rb a len cap (p + 1 + 1 + 1 + 1) 4 hr hl d7 (by omega) (by omega) (by omega) (by omega)).mono ?_
      rintro e wA ⟨t, rfl, t0, t1, dA, mA⟩
      have CA := csAt_kept C7 mA (by omega) (by simp; omega)
      have EA := csAt_kept E7 mA (by omega) (by simp; omega)
      have kA := k7.trans mA
      have sA : eb + 1 ≤ wA.heap.size := Nat.le_trans s7 mA.size
      clear C7 E7 k7 s7 d7 mA
      by_cases ht : t = 0
      · subst ht
        go_wp2_with fail
        refine (pick_k u w0 wA rb a len cap (p + 1 + 1 + 1 + 1 + 1) 5 hr hl dA (by omega) (by omega) (by omega) (by omega)).mono ?_
        rintro e wB ⟨c, rfl, c0, c1, dB, mB⟩
        have CB := csAt_kept CA mB (by omega) (by simp; omega)
        have EB := csAt_kept EA mB (by omega) (by simp; omega)
        have kB := kA.trans mB
        have sB : eb + 1 ≤ wB.heap.size := Nat.le_trans sA mB.size
        clear CA EA kA sA dA mB
        have kz := kept_cell wB eb 3 (.int .i64 c)
        have dD := rd_set dB kz (by omega) (by omega) (by omega)
        have CD := csAt_kept CB kz (by omega) (by simp; omega)
        have ED := csAt_set EB 3 (by simp) (.int .i64 c)
        simp only [List.set_cons_zero, List.set_cons_succ] at ED
        have kD := kB.then kz (fun y hy => by simp at hy; subst hy; right; omega)
        have sD : eb + 1 ≤ (wB.setCell ⟨eb, 3, none⟩ (.int .i64 c)).heap.size := Nat.le_trans sB kz.size
        have cj := EB.cell 3 _ rfl
        have fj := EB.frozen 3 (by simp)
        go_upto_region 14 with fail
        generalize wB.setCell ⟨eb, 3, none⟩ (.int .i64 c) = wD at *
        clear kz cj fj CB EB kB sB dB
        go_wp2_with fail
        refine (pick_k u w0 wD rb a len cap (p + 1 + 1 + 1 + 1 + 1 + 1) 3 hr hl dD (by omega) (by omega) (by omega) (by omega)).mono ?_
        rintro e wF ⟨x, rfl, x0, x1, dF, mF⟩
        have CF := csAt_kept CD mF (by omega) (by simp; omega)
        have EF := csAt_kept ED mF (by omega) (by simp; omega)
        have kF := kD.trans mF
        have sF : eb + 1 ≤ wF.heap.size := Nat.le_trans sD mF.size
        clear CD ED kD sD dD mF
        by_cases hx : 0 < x
        · have kz := kept_cell wF eb 4 (.bool true)
          have dG := rd_set dF kz (by omega) (by omega) (by omega)
          have CG := csAt_kept CF kz (by omega) (by simp; omega)
          have EG := csAt_set EF 4 (by simp) (.bool true)
          simp only [List.set_cons_zero, List.set_cons_succ] at EG
          have kG := kF.then kz (fun y hy => by simp at hy; subst hy; right; omega)
          have sG : eb + 1 ≤ (wF.setCell ⟨eb, 4, none⟩ (.bool true)).heap.size := Nat.le_trans sF kz.size
          have cj := EF.cell 4 _ rfl
          have fj := EF.frozen 4 (by simp)
          go_upto_region 15 with fail
          generalize wF.setCell ⟨eb, 4, none⟩ (.bool true) = wG at *
          clear kz cj fj CF EF kF sF dF
          have y0 := EG.cell 0 _ rfl
          have y1 := EG.cell 1 _ rfl
          have y2 := EG.cell 2 _ rfl
          have y3 := EG.cell 3 _ rfl
          have y4 := EG.cell 4 _ rfl
          have v0 := CG.cell 0 _ rfl
          have v1 := CG.cell 1 _ rfl
          have v2 := CG.cell 2 _ rfl
          have v3 := CG.cell 3 _ rfl
          have v4 := CG.cell 4 _ rfl
          have f0 := CG.frozen 0 (by simp)
          have f1 := CG.frozen 1 (by simp)
          have f2 := CG.frozen 2 (by simp)
          have f3 := CG.frozen 3 (by simp)
          have f4 := CG.frozen 4 (by simp)
          have p1 := CG.put [.int .i64 1, .int .i64 (1 + r1), .int .i64 r2, .int .i64 c, .bool true] rfl
          have kz := kept_cells wG w.heap.size 0 [.int .i64 1, .int .i64 (1 + r1), .int .i64 r2, .int .i64 c, .bool true]
          have dZ := rd_set dG kz (by omega) (by omega) (by omega)
          have KZ := kG.then kz (fun y hy => by simp at hy; subst hy; right; omega)
          go_wp2
          refine bodyPost_ret (res_cell_mid Try.results102 _ _ w.heap.size [.int .i64 1, .int .i64 (1 + r1), .int .i64 r2, .int .i64 c, .bool true] _ rfl p1.cells Try.underlying125 rfl (by kernel_rfl)) rfl ?_
          exact ⟨_, _, _, _, _, _, rfl, by omega, by omega, dZ, KZ, by omega, by omega, by omega, by omega, by omega, by omega, by omega, by omega⟩
        · obtain rfl : x = 0 := by omega
          clear hx
          have kz := kept_cell wF eb 4 (.bool false)
          have dG := rd_set dF kz (by omega) (by omega) (by omega)
          have CG := csAt_kept CF kz (by omega) (by simp; omega)
          have EG := csAt_set EF 4 (by simp) (.bool false)
          simp only [List.set_cons_zero, List.set_cons_succ] at EG
          have kG := kF.then kz (fun y hy => by simp at hy; subst hy; right; omega)
          have sG : eb + 1 ≤ (wF.setCell ⟨eb, 4, none⟩ (.bool false)).heap.size := Nat.le_trans sF kz.size
          have cj := EF.cell 4 _ rfl
          have fj := EF.frozen 4 (by simp)
          go_upto_region 15 with fail
          generalize wF.setCell ⟨eb, 4, none⟩ (.bool false) = wG at *
          clear kz cj fj CF EF kF sF dF
          have y0 := EG.cell 0 _ rfl
          have y1 := EG.cell 1 _ rfl
          have y2 := EG.cell 2 _ rfl
          have y3 := EG.cell 3 _ rfl
          have y4 := EG.cell 4 _ rfl
          have v0 := CG.cell 0 _ rfl
          have v1 := CG.cell 1 _ rfl
          have v2 := CG.cell 2 _ rfl
          have v3 := CG.cell 3 _ rfl
          have v4 := CG.cell 4 _ rfl
          have f0 := CG.frozen 0 (by simp)
          have f1 := CG.frozen 1 (by simp)
          have f2 := CG.frozen 2 (by simp)
          have f3 := CG.frozen 3 (by simp)
          have f4 := CG.frozen 4 (by simp)
          have p1 := CG.put [.int .i64 1, .int .i64 (1 + r1), .int .i64 r2, .int .i64 c, .bool false] rfl
          have kz := kept_cells wG w.heap.size 0 [.int .i64 1, .int .i64 (1 + r1), .int .i64 r2, .int .i64 c, .bool false]
          have dZ := rd_set dG kz (by omega) (by omega) (by omega)
          have KZ := kG.then kz (fun y hy => by simp at hy; subst hy; right; omega)
          go_wp2
          refine bodyPost_ret (res_cell_mid Try.results102 _ _ w.heap.size [.int .i64 1, .int .i64 (1 + r1), .int .i64 r2, .int .i64 c, .bool false] _ rfl p1.cells Try.underlying125 rfl (by kernel_rfl)) rfl ?_
          exact ⟨_, _, _, _, _, _, rfl, by omega, by omega, dZ, KZ, by omega, by omega, by omega, by omega, by omega, by omega, by omega, by omega⟩
      · have y0 := EA.cell 0 _ rfl
        have y1 := EA.cell 1 _ rfl
        have y2 := EA.cell 2 _ rfl
        have y3 := EA.cell 3 _ rfl
        have y4 := EA.cell 4 _ rfl
        have v0 := CA.cell 0 _ rfl
        have v1 := CA.cell 1 _ rfl
        have v2 := CA.cell 2 _ rfl
        have v3 := CA.cell 3 _ rfl
        have v4 := CA.cell 4 _ rfl
        have f0 := CA.frozen 0 (by simp)
        have f1 := CA.frozen 1 (by simp)
        have f2 := CA.frozen 2 (by simp)
        have f3 := CA.frozen 3 (by simp)
        have f4 := CA.frozen 4 (by simp)
        have p1 := CA.put [.int .i64 1, .int .i64 (1 + r1), .int .i64 r2, .int .i64 9, .bool false] rfl
        have kz := kept_cells wA w.heap.size 0 [.int .i64 1, .int .i64 (1 + r1), .int .i64 r2, .int .i64 9, .bool false]
        have dZ := rd_set dA kz (by omega) (by omega) (by omega)
        have KZ := kA.then kz (fun y hy => by simp at hy; subst hy; right; omega)
        go_wp2
        refine bodyPost_ret (res_cell_mid Try.results102 _ _ w.heap.size [.int .i64 1, .int .i64 (1 + r1), .int .i64 r2, .int .i64 9, .bool false] _ rfl p1.cells Try.underlying125 rfl (by kernel_rfl)) rfl ?_
        exact ⟨_, _, _, _, _, _, rfl, by omega, by omega, dZ, KZ, by omega, by omega, by omega, by omega, by omega, by omega, by omega, by omega⟩
  go_wp2_with fail
  refine (pick_k u w0 w5 rb a len cap (p + 1 + 1 + 1) 4 hr hl d5 (by omega) (by omega) (by omega) (by omega)).mono ?_
  rintro e wA ⟨t, rfl, t0, t1, dA, mA⟩
  have CA := csAt_kept C5 mA (by omega) (by simp; omega)
  have EA := csAt_kept E5 mA (by omega) (by simp; omega)
  have kA := k5.trans mA
  have sA : eb + 1 ≤ wA.heap.size := Nat.le_trans s5 mA.size
  clear C5 E5 k5 s5 d5 mA
  by_cases ht : t = 0
  · subst ht
    go_wp2_with fail
    refine (pick_k u w0 wA rb a len cap (p + 1 + 1 + 1 + 1) 5 hr hl dA (by omega) (by omega) (by omega) (by omega)).mono ?_
    rintro e wB ⟨c, rfl, c0, c1, dB, mB⟩
    have CB := csAt_kept CA mB (by omega) (by simp; omega)
    have EB := csAt_kept EA mB (by omega) (by simp; omega)
    have kB := kA.trans mB
    have sB : eb + 1 ≤ wB.heap.size := Nat.le_trans sA mB.size
    clear CA EA kA sA dA mB
    have kz := kept_cell wB eb 3 (.int .i64 c)
    have dD := rd_set dB kz (by omega) (by omega) (by omega)
    have CD := csAt_kept CB kz (by omega) (by simp; omega)
    have ED := csAt_set EB 3 (by simp) (.int .i64 c)
    simp only [List.set_cons_zero, List.set_cons_succ] at ED
    have kD := kB.then kz (fun y hy => by simp at hy; subst hy; right; omega)
    have sD : eb + 1 ≤ (wB.setCell ⟨eb, 3, none⟩ (.int .i64 c)).heap.size := Nat.le_trans sB kz.size
    have cj := EB.cell 3 _ rfl
    have fj := EB.frozen 3 (by simp)
    go_upto_region 14 with fail
    generalize wB.setCell ⟨eb, 3, none⟩ (.int .i64 c) = wD at *
    clear kz cj fj CB EB kB sB dB
    go_wp2_with fail
    refine (pick_k u w0 wD rb a len cap (p + 1 + 1 + 1 + 1 + 1) 3 hr hl dD (by omega) (by omega) (by omega) (by omega)).mono ?_
    rintro e wF ⟨x, rfl, x0, x1, dF, mF⟩
    have CF := csAt_kept CD mF (by omega) (by simp; omega)
    have EF := csAt_kept ED mF (by omega) (by simp; omega)
    have kF := kD.trans mF
    have sF : eb + 1 ≤ wF.heap.size := Nat.le_trans sD mF.size
    clear CD ED kD sD dD mF
    by_cases hx : 0 < x
    · have kz := kept_cell wF eb 4 (.bool true)
      have dG := rd_set dF kz (by omega) (by omega) (by omega)
      have CG := csAt_kept CF kz (by omega) (by simp; omega)
      have EG := csAt_set EF 4 (by simp) (.bool true)
      simp only [List.set_cons_zero, List.set_cons_succ] at EG
      have kG := kF.then kz (fun y hy => by simp at hy; subst hy; right; omega)
      have sG : eb + 1 ≤ (wF.setCell ⟨eb, 4, none⟩ (.bool true)).heap.size := Nat.le_trans sF kz.size
      have cj := EF.cell 4 _ rfl
      have fj := EF.frozen 4 (by simp)
      go_upto_region 15 with fail
      generalize wF.setCell ⟨eb, 4, none⟩ (.bool true) = wG at *
      clear kz cj fj CF EF kF sF dF
      have y0 := EG.cell 0 _ rfl
      have y1 := EG.cell 1 _ rfl
      have y2 := EG.cell 2 _ rfl
      have y3 := EG.cell 3 _ rfl
      have y4 := EG.cell 4 _ rfl
      have v0 := CG.cell 0 _ rfl
      have v1 := CG.cell 1 _ rfl
      have v2 := CG.cell 2 _ rfl
      have v3 := CG.cell 3 _ rfl
      have v4 := CG.cell 4 _ rfl
      have f0 := CG.frozen 0 (by simp)
      have f1 := CG.frozen 1 (by simp)
      have f2 := CG.frozen 2 (by simp)
      have f3 := CG.frozen 3 (by simp)
      have f4 := CG.frozen 4 (by simp)
      have p1 := CG.put [.int .i64 1, .int .i64 (1 + r1), .int .i64 r2, .int .i64 c, .bool true] rfl
      have kz := kept_cells wG w.heap.size 0 [.int .i64 1, .int .i64 (1 + r1), .int .i64 r2, .int .i64 c, .bool true]
      have dZ := rd_set dG kz (by omega) (by omega) (by omega)
      have KZ := kG.then kz (fun y hy => by simp at hy; subst hy; right; omega)
      go_wp2
      refine bodyPost_ret (res_cell_mid Try.results102 _ _ w.heap.size [.int .i64 1, .int .i64 (1 + r1), .int .i64 r2, .int .i64 c, .bool true] _ rfl p1.cells Try.underlying125 rfl (by kernel_rfl)) rfl ?_
      exact ⟨_, _, _, _, _, _, rfl, by omega, by omega, dZ, KZ, by omega, by omega, by omega, by omega, by omega, by omega, by omega, by omega⟩
    · obtain rfl : x = 0 := by omega
      clear hx
      have kz := kept_cell wF eb 4 (.bool false)
      have dG := rd_set dF kz (by omega) (by omega) (by omega)
      have CG := csAt_kept CF kz (by omega) (by simp; omega)
      have EG := csAt_set EF 4 (by simp) (.bool false)
      simp only [List.set_cons_zero, List.set_cons_succ] at EG
      have kG := kF.then kz (fun y hy => by simp at hy; subst hy; right; omega)
      have sG : eb + 1 ≤ (wF.setCell ⟨eb, 4, none⟩ (.bool false)).heap.size := Nat.le_trans sF kz.size
      have cj := EF.cell 4 _ rfl
      have fj := EF.frozen 4 (by simp)
      go_upto_region 15 with fail
      generalize wF.setCell ⟨eb, 4, none⟩ (.bool false) = wG at *
      clear kz cj fj CF EF kF sF dF
      have y0 := EG.cell 0 _ rfl
      have y1 := EG.cell 1 _ rfl
      have y2 := EG.cell 2 _ rfl
      have y3 := EG.cell 3 _ rfl
      have y4 := EG.cell 4 _ rfl
      have v0 := CG.cell 0 _ rfl
      have v1 := CG.cell 1 _ rfl
      have v2 := CG.cell 2 _ rfl
      have v3 := CG.cell 3 _ rfl
      have v4 := CG.cell 4 _ rfl
      have f0 := CG.frozen 0 (by simp)
      have f1 := CG.frozen 1 (by simp)
      have f2 := CG.frozen 2 (by simp)
      have f3 := CG.frozen 3 (by simp)
      have f4 := CG.frozen 4 (by simp)
      have p1 := CG.put [.int .i64 1, .int .i64 (1 + r1), .int .i64 r2, .int .i64 c, .bool false] rfl
      have kz := kept_cells wG w.heap.size 0 [.int .i64 1, .int .i64 (1 + r1), .int .i64 r2, .int .i64 c, .bool false]
      have dZ := rd_set dG kz (by omega) (by omega) (by omega)
      have KZ := kG.then kz (fun y hy => by simp at hy; subst hy; right; omega)
      go_wp2
      refine bodyPost_ret (res_cell_mid Try.results102 _ _ w.heap.size [.int .i64 1, .int .i64 (1 + r1), .int .i64 r2, .int .i64 c, .bool false] _ rfl p1.cells Try.underlying125 rfl (by kernel_rfl)) rfl ?_
      exact ⟨_, _, _, _, _, _, rfl, by omega, by omega, dZ, KZ, by omega, by omega, by omega, by omega, by omega, by omega, by omega, by omega⟩
  · have y0 := EA.cell 0 _ rfl
    have y1 := EA.cell 1 _ rfl
    have y2 := EA.cell 2 _ rfl
    have y3 := EA.cell 3 _ rfl
    have y4 := EA.cell 4 _ rfl
    have v0 := CA.cell 0 _ rfl
    have v1 := CA.cell 1 _ rfl
    have v2 := CA.cell 2 _ rfl
    have v3 := CA.cell 3 _ rfl
    have v4 := CA.cell 4 _ rfl
    have f0 := CA.frozen 0 (by simp)
    have f1 := CA.frozen 1 (by simp)
    have f2 := CA.frozen 2 (by simp)
    have f3 := CA.frozen 3 (by simp)
    have f4 := CA.frozen 4 (by simp)
    have p1 := CA.put [.int .i64 1, .int .i64 (1 + r1), .int .i64 r2, .int .i64 9, .bool false] rfl
    have kz := kept_cells wA w.heap.size 0 [.int .i64 1, .int .i64 (1 + r1), .int .i64 r2, .int .i64 9, .bool false]
    have dZ := rd_set dA kz (by omega) (by omega) (by omega)
    have KZ := kA.then kz (fun y hy => by simp at hy; subst hy; right; omega)
    go_wp2
    refine bodyPost_ret (res_cell_mid Try.results102 _ _ w.heap.size [.int .i64 1, .int .i64 (1 + r1), .int .i64 r2, .int .i64 9, .bool false] _ rfl p1.cells Try.underlying125 rfl (by kernel_rfl)) rfl ?_
    exact ⟨_, _, _, _, _, _, rfl, by omega, by omega, dZ, KZ, by omega, by omega, by omega, by omega, by omega, by omega, by omega, by omega⟩
theorem event_any (u w0 w : World) (rb : Nat) (a : Option Addr) (len cap : Nat) (p : Int) (hr : Row w0 a len) (hl : len ≤ 10000) (h : Rd u w0 rb a len cap p w) (hp0 : 0 ≤ p) (hp : p ≤ 9000) :
    Calls Try.prog 102 #[.pointer (some ⟨rb, 0, none⟩)] w fun e w' => EvPost u w0 w rb a len cap p e w' :=
  (eventD_any u w0 w rb a len cap p hr hl h hp0 hp).mono fun _ _ ⟨k, x, b, c, t, p', h1, h2, h3, h4, h5, _⟩ => ⟨k, x, b, c, t, p', h1, h2, h3, h4, h5⟩
end Go.Proofs.Ytkikeapfjpnkgaa.EvA
