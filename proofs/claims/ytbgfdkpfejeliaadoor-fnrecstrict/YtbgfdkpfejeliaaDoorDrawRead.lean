/-
  The contract of the law's drawn text: whatever the code, a text; nothing that was there turns, and nothing panics.
-/
import Derived.Test.YtbgfdkpfejeliaaDoorKit
import Derived.Deep.RegionWith
namespace Go.Proofs.YtbgfdkpfejeliaaDoor.DrawRead
open Go.ChangeShapes Go.WideShapes Go.ChangeAt Go.RowKit Pick Draw OkA Dec RText SpecText Plain Kit
set_option linter.unusedVariables false

theorem rd_moved {w0 : World} {rb : Nat} {a : Option Addr} {len cap : Nat} {p : Int} {w w' : World} (h : Rd w0 rb a len cap p w) (hb : Below w.heap.size w w') : Rd w0 rb a len cap p w' :=
  ⟨Nat.lt_of_lt_of_le h.lt hb.size, h.old, moved h.c0 hb, moved h.c1 hb, by rw [hb.frozen (p := ⟨rb, 1, none⟩) h.lt]; exact h.f1, h.bel.trans (hb.mono h.bel.size)⟩
theorem recS_size (k s a v : Int) : (recS k s a v).size ≤ 20 := by
  cases h : recB k s a v
  · rw [recS_no h]; show 0 ≤ 20; omega
  · rw [recS_ok h]; exact text_size20 h

set_option maxHeartbeats 1000000 in
theorem of_any (w0 w : World) (rb : Nat) (a : Option Addr) (len cap : Nat) (p : Int) (hr : Row w0 a len) (hl : len ≤ 10000) (h : Rd w0 rb a len cap p w) (hp0 : 0 ≤ p) (hp : p ≤ 9000) (lb : Nat) (hne : lb ≠ rb)
    (l0 : w.cell? ⟨lb, 0, none⟩ = some (.string ⟨#[48]⟩)) (l1 : w.cell? ⟨lb, 1, none⟩ = some (.string ⟨#[32]⟩)) (l2 : w.cell? ⟨lb, 2, none⟩ = some (.string ⟨#[49]⟩)) (l3 : w.cell? ⟨lb, 3, none⟩ = some (.string ⟨#[120]⟩)) (l4 : w.cell? ⟨lb, 4, none⟩ = some (.string ⟨#[32, 53]⟩)) :
    Calls Tryd.prog 30 #[.pointer (some ⟨rb, 0, none⟩), .slice (some ⟨lb, 0, none⟩) 5 5] w fun e w' => ∃ u : ByteArray, e = .returned (.string u) ∧ u.size ≤ 10 ∧ Rd w0 rb a len cap (p + 1) w' := by
  have hlt : lb < w.heap.size := World.block_lt_of_cell? w ⟨lb, 0, none⟩ l0
  go_enter Tryd.func30, Tryd.ntmps30
  go_wp2_with fail
  refine (pick_any w0 _ rb a len cap p 5 hr hl h hp0 (by omega) (by omega) (by omega)).mono ?_
  rintro e w1 ⟨r, rfl, r0, r1, d1, m1⟩
  rw [← m1.cell _ _ hlt hne] at l0 l1 l2 l3 l4
  have D1 : Hid (Rd w0 rb a len cap (p + 1) w1) := d1
  clear d1 m1 h hr
  have rr : r = 0 ∨ r = 1 ∨ r = 2 ∨ r = 3 ∨ r = 4 := by omega
  rcases rr with rfl | rfl | rfl | rfl | rfl
  all_goals
    go_wp2_with fail
    go_ret
    exact ⟨_, rfl, by decide, D1.out⟩

set_option maxHeartbeats 2000000 in
theorem drawRead_any (w : World) (a : Option Addr) (len cap : Nat) (zs : List Int) (h : IsRow .u8 w a len cap zs) :
    Calls Tryd.prog 15 #[.slice a len cap] w fun e w' => ∃ t : ByteArray, e = .returned (.string t) ∧ Below w.heap.size w w' := by
  go_enter Tryd.func15, Tryd.ntmps15
  go_wp2_with fail
  refine (open_any _ a len cap zs h).mono ?_
  rintro e w1 ⟨rfl, len', hl, hr, d1⟩
  go_wp2_with fail
  refine (l71Rec_any _ _ _ a len' cap 0 hr hl d1 (by omega) (by omega)).mono ?_
  rintro e w2 ⟨k, s, x, v, p, rfl, k1, s1, x1, v1, p0, p1, d2⟩
  clear d1 h k1 s1 x1 v1
  go_wp2_with fail
  refine (spec_any _ _ _ _ _).mono ?_
  rintro e w3 ⟨rfl, b3⟩
  have d3 := rd_moved d2 b3
  have hS := recS_size k s x v
  clear d2 b3
  generalize recS k s x v = S at *
  go_wp2_with fail
  refine (pick_any _ _ _ a len' cap p ((S.size : Int) + 1) hr hl d3 (by omega) (by omega) (by omega) (by omega)).mono ?_
  rintro e w4 ⟨r, rfl, r0, r1, d4, _⟩
  clear d3
  go_wp2_with fail
  refine (pick_any _ _ _ a len' cap (p + 1) 8 hr hl d4 (by omega) (by omega) (by omega) (by omega)).mono ?_
  rintro e w5 ⟨t, rfl, t0, t1, d5, _⟩
  clear d4
  have hrn : r.toNat ≤ S.size := by omega
  have rl : r ≤ (S.size : Int) := by omega
  by_cases e0 : t = 0
  · subst e0
    have bw := d5.bel
    clear d5 hr
    go_wp2_with fail
    go_ret
    exact ⟨_, rfl, bw⟩
  by_cases e1 : t = 1
  · subst e1
    have hne : w5.heap.size ≠ w.heap.size := by have := d5.lt; omega
    have x1 : (S.extract 0 r.toNat).size ≤ 30 := by simp; omega
    have x2 : (S.extract r.toNat S.size).size ≤ 30 := by simp; omega
    have k0 : ∀ u : ByteArray, u.size ≤ 10 → ∀ W : World, (Op.stringOp .add (S.extract 0 r.toNat) u).run Tryd.prog W = .ok (.string (S.extract 0 r.toNat ++ u)) W := fun u hu => add_ok (by omega) (by omega)
    have k2 : ∀ u : ByteArray, u.size ≤ 10 → ∀ W : World, (Op.stringOp .add (S.extract 0 r.toNat ++ u) (S.extract r.toNat S.size)).run Tryd.prog W = .ok (.string (S.extract 0 r.toNat ++ u ++ S.extract r.toNat S.size)) W := fun u hu => add_ok (by rw [ByteArray.size_append]; omega) (by omega)
    have K0 : Hid _ := k0
    have K2 : Hid _ := k2
    clear k0 k2 x1 x2
    go_wp2_with fail
    go_region_with (first | (go_at_call 30; refine (of_any w _ w.heap.size a len' cap (p + 1 + 1) hr hl (by exact rd_moved d5 (below_drewN ((Below.refl _ _).alloc (Nat.le_refl _) _) 1)) (by omega) (by omega) w5.heap.size hne (by simp) (by simp) (by simp) (by simp) (by simp)).mono ?_; rintro e w6 ⟨u, rfl, hu, d6⟩; have ka := K0.out u hu; have kb := K2.out u hu))
    all_goals
      have bw := d6.bel
      go_wp2_with fail
      go_ret
      exact ⟨_, rfl, bw⟩
  · have f0 : (t == 0) = false := by simpa using e0
    have f1 : (t == 1) = false := by simpa using e1
    have bw := d5.bel
    clear d5 hr
    go_wp2_with fail
    go_ret
    exact ⟨_, rfl, bw⟩
end Go.Proofs.YtbgfdkpfejeliaaDoor.DrawRead
