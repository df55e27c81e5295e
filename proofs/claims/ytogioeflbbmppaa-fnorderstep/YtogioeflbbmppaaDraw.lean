/-
  The contracts of what opens a code and of what draws a record from it: whatever the code, a record of four small numbers is drawn, nothing that was there turns, and nothing panics.
-/
import Derived.Test.YtogioeflbbmppaaPick
namespace Go.Proofs.Ytogioeflbbmppaa.Draw
open Go.ChangeShapes Go.WideShapes Go.ChangeAt Go.RowKit Pick Kp
set_option linter.unusedVariables false

theorem row_of {w : World} {a : Option Addr} {len cap : Nat} {zs : List Int} (h : IsRow .u8 w a len cap zs) (m : Nat) (hm : m ≤ len) : Row w a m := by
  rcases h with ⟨rfl, rfl, rfl, rfl⟩ | ⟨x, rfl, hl, hx, hz, hc, hw⟩
  · exact .inl (by omega)
  · by_cases h0 : zs.length = 0
    · exact .inl (by omega)
    · obtain ⟨b, off, spot⟩ := x
      have c0 := hc 0 (by omega)
      have hs : spot = none := by simpa [Addr.add] using World.cell?_spot c0
      subst hs
      have hadd : ∀ i, (⟨b, off, none⟩ : Addr).add i = ⟨b, off + i, none⟩ := fun i => by
        by_cases hi : i = 0
        · subst hi; simp [Addr.add]
        · simp [Addr.add, hi]
      have c0' : w.cell? ⟨b, off + 0, none⟩ = some (.int .u8 (zs.getD 0 0)) := by rw [← hadd]; exact c0
      refine .inr ⟨b, off, rfl, cell_lt c0', fun i hi => ?_⟩
      have ci := hc i (by omega)
      rw [hadd] at ci
      have hwi := hw (zs.getD i 0) (by rw [List.getD_eq_getElem?_getD, List.getElem?_eq_getElem (by omega)]; simp)
      have hb : 0 ≤ zs.getD i 0 ∧ zs.getD i 0 ≤ 255 := by simpa [Lit.wf, IntKind.min, IntKind.max, IntKind.signed, IntKind.bits] using hwi
      exact ⟨zs.getD i 0, hb.1, hb.2, ci⟩

theorem cell_top (w : World) (cs : Array Value) (T : TypeId) (n j : Nat) (v : Value) (h : n = w.heap.size) (hv : cs[j]? = some v) : (w.alloc (.cells cs T)).cell? ⟨n, j, none⟩ = some v := by
  rw [World.cell?_alloc_at cs T n j h, hv]
theorem addr_lt {w : World} {p : Addr} {v : Value} (h : w.cell? p = some v) : p.block < w.heap.size := by
  by_cases hb : p.block < w.heap.size
  · exact hb
  · exfalso
    have : w.heap[p.block]? = none := by simp; omega
    simp [World.cell?, this] at h
theorem isRow_below {k : IntKind} {w w' : World} {a : Option Addr} {len cap : Nat} {zs : List Int} (h : IsRow k w a len cap zs) (b : Below w.heap.size w w') : IsRow k w' a len cap zs := by
  rcases h with h | ⟨x, h0, h1, h2, h3, h4, h5⟩
  · exact .inl h
  · exact .inr ⟨x, h0, h1, h2, h3, fun i hi => by rw [b.cell (addr_lt (h4 i hi))]; exact h4 i hi, h5⟩

theorem rd_new (w : World) (a : Option Addr) (len cap : Nat) (T : TypeId) : Rd w w w.heap.size a len cap 0 (w.alloc (.cells #[.slice a len cap, .int .i64 0] T)) :=
  ⟨by simp, Nat.le_refl _, by simp, by simp, by simp, (Below.refl _ _).alloc (Nat.le_refl _) _, (Kept.refl _ _).alloc _⟩

set_option maxHeartbeats 400000 in
theorem open_any (w : World) (a : Option Addr) (len cap : Nat) (zs : List Int) (h : IsRow .u8 w a len cap zs) :
    Calls Try.prog 58 #[.slice a len cap] w fun e w' => e = .returned (.pointer (some ⟨w.heap.size, 0, none⟩)) ∧ ∃ len', len' ≤ 10000 ∧ Row w a len' ∧ Rd w w w.heap.size a len' cap 0 w' := by
  by_cases hl : 2000 < len
  · have hr := row_of h 2000 (by omega)
    rcases h with ⟨rfl, rfl, rfl, rfl⟩ | ⟨x, rfl, h1, h2, _, _, _⟩
    · omega
    · unfold maxLen at h2
      have hl' : (2000 : Int) < (len : Int) := by omega
      have hc' : (2000 : Int) ≤ (cap : Int) := by omega
      go_enter Try.func58, Try.ntmps58
      go_wp2
      go_ret
      exact ⟨rfl, 2000, by omega, hr, rd_new _ _ _ _ _⟩
  · have hr := row_of h len (Nat.le_refl _)
    have hl' : ¬ (2000 : Int) < (len : Int) := by omega
    clear h
    go_enter Try.func58, Try.ntmps58
    go_wp2
    go_ret
    exact ⟨rfl, len, by omega, hr, rd_new _ _ _ _ _⟩

def Small (n : Int) : Prop := -1 ≤ n ∧ n ≤ 1000

theorem res_l71 {tmps : Array Value} {w : World} {b : Nat} {k s a v : Int} (ht : tmps.getD 2 undef = .pointer (some ⟨b, 0, none⟩)) (h0 : w.cell? ⟨b, 0, none⟩ = some (.int .i64 k)) (h1 : w.cell? ⟨b, 1, none⟩ = some (.int .i64 s)) (h2 : w.cell? ⟨b, 2, none⟩ = some (.int .i64 a)) (h3 : w.cell? ⟨b, 3, none⟩ = some (.int .i64 v)) :
    (results Try.f60 tmps).run Try.prog w = .ok (.agg #[.int .i64 k, .int .i64 s, .int .i64 a, .int .i64 v]) w := by
  have ht' : tmps[2]?.getD undef = .pointer (some ⟨b, 0, none⟩) := by simpa using ht
  simp [results, Try.results60, go_sem, ht', h0, h1, h2, h3]

set_option maxHeartbeats 1000000 in
theorem l71Rec_any (u w0 w : World) (rb : Nat) (a : Option Addr) (len cap : Nat) (p : Int) (hr : Row w0 a len) (hl : len ≤ 10000) (h : Rd u w0 rb a len cap p w) (hp0 : 0 ≤ p) (hp : p ≤ 9000) :
    Calls Try.prog 60 #[.pointer (some ⟨rb, 0, none⟩)] w fun e w' => ∃ k s x v p' : Int, e = .returned (.agg #[.int .i64 k, .int .i64 s, .int .i64 x, .int .i64 v]) ∧ Small k ∧ Small s ∧ Small x ∧ Small v ∧ p ≤ p' ∧ p' ≤ p + 6 ∧ Rd u w0 rb a len cap p' w' := by
  have hlt := h.lt
  go_enter Try.func60, Try.ntmps60
  go_wp2_with fail
  refine (pick_any u w0 _ rb a len cap p 2 hr hl (h.alloc _) hp0 (by omega) (by omega) (by omega)).mono ?_
  rintro e w1 ⟨k, rfl, k0, k1, d1, m1⟩
  go_wp2_with fail
  refine (pick_any u w0 _ rb a len cap (p + 1) 40 hr hl d1 (by omega) (by omega) (by omega) (by omega)).mono ?_
  rintro e w2 ⟨s, rfl, s0, s1, d2, m2⟩
  go_wp2_with fail
  refine (pick_any u w0 _ rb a len cap (p + 1 + 1) 6 hr hl d2 (by omega) (by omega) (by omega) (by omega)).mono ?_
  rintro e w3 ⟨x, rfl, x0, x1, d3, m3⟩
  go_wp2_with fail
  refine (pick_any u w0 _ rb a len cap (p + 1 + 1 + 1) 10 hr hl d3 (by omega) (by omega) (by omega) (by omega)).mono ?_
  rintro e w4 ⟨v, rfl, v0, v1, d4, m4⟩
  have hne : w.heap.size ≠ rb := by omega
  have m14 := m1.trans (m2.trans (m3.trans m4))
  have z4 : w.heap.size < w4.heap.size := by have := m14.size; simp at this; omega
  have hne4 : w4.heap.size ≠ rb := by omega
  have rc : ∀ j, w4.cell? ⟨w.heap.size, j, none⟩ = _ := fun j => m14.cell w.heap.size j (by simp) hne
  have rf : ∀ j, w4.frozen? ⟨w.heap.size, j, none⟩ = _ := fun j => m14.froz w.heap.size j (by simp)
  clear m1 m2 m3 m4 m14 d1 d2 d3
  go_wp2_with fail
  refine (pick_any u w0 _ rb a len cap (p + 1 + 1 + 1 + 1) 20 hr hl (d4.alloc _) (by omega) (by omega) (by omega) (by omega)).mono ?_
  rintro e w5 ⟨t, rfl, t0, t1, d5, m5⟩
  have z5 : w4.heap.size < w5.heap.size := by have := m5.size; simp at this; omega
  have r0 : w5.cell? ⟨w.heap.size, 0, none⟩ = some (.int .i64 0) := by rw [m5.cell _ _ (by simp; omega) hne, World.cell?_alloc_lt _ _ _ z4, rc]; simp
  have q0 : w5.frozen? ⟨w.heap.size, 0, none⟩ = false := by rw [m5.froz _ _ (by simp; omega), ((Below.refl w4.heap.size w4).alloc (Nat.le_refl _) _).frozen (p := ⟨w.heap.size, 0, none⟩) z4, rf]; simp
  have y0 : w5.cell? ⟨w4.heap.size, 0, none⟩ = some (.int .i64 (1 + k)) := by rw [m5.cell _ _ (by simp) hne4]; simp
  have u0 : w5.frozen? ⟨w4.heap.size, 0, none⟩ = false := by rw [m5.froz _ _ (by simp)]; simp
  have r1 : w5.cell? ⟨w.heap.size, 1, none⟩ = some (.int .i64 0) := by rw [m5.cell _ _ (by simp; omega) hne, World.cell?_alloc_lt _ _ _ z4, rc]; simp
  have q1 : w5.frozen? ⟨w.heap.size, 1, none⟩ = false := by rw [m5.froz _ _ (by simp; omega), ((Below.refl w4.heap.size w4).alloc (Nat.le_refl _) _).frozen (p := ⟨w.heap.size, 1, none⟩) z4, rf]; simp
  have y1 : w5.cell? ⟨w4.heap.size, 1, none⟩ = some (.int .i64 (1 + s)) := by rw [m5.cell _ _ (by simp) hne4]; simp
  have u1 : w5.frozen? ⟨w4.heap.size, 1, none⟩ = false := by rw [m5.froz _ _ (by simp)]; simp
  have r2 : w5.cell? ⟨w.heap.size, 2, none⟩ = some (.int .i64 0) := by rw [m5.cell _ _ (by simp; omega) hne, World.cell?_alloc_lt _ _ _ z4, rc]; simp
  have q2 : w5.frozen? ⟨w.heap.size, 2, none⟩ = false := by rw [m5.froz _ _ (by simp; omega), ((Below.refl w4.heap.size w4).alloc (Nat.le_refl _) _).frozen (p := ⟨w.heap.size, 2, none⟩) z4, rf]; simp
  have y2 : w5.cell? ⟨w4.heap.size, 2, none⟩ = some (.int .i64 (1 + x)) := by rw [m5.cell _ _ (by simp) hne4]; simp
  have u2 : w5.frozen? ⟨w4.heap.size, 2, none⟩ = false := by rw [m5.froz _ _ (by simp)]; simp
  have r3 : w5.cell? ⟨w.heap.size, 3, none⟩ = some (.int .i64 0) := by rw [m5.cell _ _ (by simp; omega) hne, World.cell?_alloc_lt _ _ _ z4, rc]; simp
  have q3 : w5.frozen? ⟨w.heap.size, 3, none⟩ = false := by rw [m5.froz _ _ (by simp; omega), ((Below.refl w4.heap.size w4).alloc (Nat.le_refl _) _).frozen (p := ⟨w.heap.size, 3, none⟩) z4, rf]; simp
  have y3 : w5.cell? ⟨w4.heap.size, 3, none⟩ = some (.int .i64 (v)) := by rw [m5.cell _ _ (by simp) hne4]; simp
  have u3 : w5.frozen? ⟨w4.heap.size, 3, none⟩ = false := by rw [m5.froz _ _ (by simp)]; simp
  clear rc rf m5 d4
  have sm : ∀ {n : Int}, -1 ≤ n → n ≤ 1000 → Small n := fun h g => ⟨h, g⟩
  have old := h.bel.size
  have oldu := h.kp.size
  by_cases e0 : t = 0
  · subst e0
    go_wp2_with fail
    refine (pick_any u w0 _ rb a len cap (p + 1 + 1 + 1 + 1 + 1) 4 hr hl d5 (by omega) (by omega) (by omega) (by omega)).mono ?_
    rintro e w6 ⟨t, rfl, t0', t1', d6, m6⟩
    rw [← m6.cell _ _ (by omega) hne] at r0 r1 r2 r3
    rw [← m6.cell _ _ z5 hne4] at y0 y1 y2 y3
    rw [← m6.froz _ _ (by omega)] at q0 q1 q2 q3
    rw [← m6.froz _ _ z5] at u0 u1 u2 u3
    clear m6 d5
    go_wp2
    refine bodyPost_ret (res_l71 rfl (by go_cell) (by go_cell) (by go_cell) (by go_cell)) rfl ⟨_, _, _, _, _, rfl, sm (by omega) (by omega), sm (by omega) (by omega), sm (by omega) (by omega), sm (by omega) (by omega), ?_, ?_, (((((d6.setCell hne4 (by omega) _).setCell hne (by omega) _).setCell hne (by omega) _).setCell hne (by omega) _).setCell hne (by omega) _)⟩ <;> omega
  by_cases e1 : t = 1
  · subst e1
    go_wp2_with fail
    refine (pick_any u w0 _ rb a len cap (p + 1 + 1 + 1 + 1 + 1) 3 hr hl (d5.alloc _) (by omega) (by omega) (by omega) (by omega)).mono ?_
    rintro e w6 ⟨t, rfl, t0', t1', d6, m6'⟩
    have m6 := ((Mv.refl rb w5).alloc _).trans m6'
    rw [← m6.cell _ _ (by omega) hne] at r0 r1 r2 r3
    rw [← m6.cell _ _ z5 hne4] at y0 y1 y2 y3
    rw [← m6.froz _ _ (by omega)] at q0 q1 q2 q3
    rw [← m6.froz _ _ z5] at u0 u1 u2 u3
    have hne5 : w5.heap.size ≠ rb := by omega
    have k2 : w6.cell? ⟨w5.heap.size, 0, none⟩ = some (.int .i64 (0)) := by rw [m6'.cell _ _ (by simp) hne5]; simp
    have k3 : w6.cell? ⟨w5.heap.size, 1, none⟩ = some (.int .i64 (600)) := by rw [m6'.cell _ _ (by simp) hne5]; simp
    have k4 : w6.cell? ⟨w5.heap.size, 2, none⟩ = some (.int .i64 (601)) := by rw [m6'.cell _ _ (by simp) hne5]; simp
    clear m6 m6' d5
    have tt : t = 0 ∨ t = 1 ∨ t = 2 := by omega
    rcases tt with rfl | rfl | rfl
    all_goals
      go_wp2
      refine bodyPost_ret (res_l71 rfl (by go_cell) (by go_cell) (by go_cell) (by go_cell)) rfl ⟨_, _, _, _, _, rfl, sm (by omega) (by omega), sm (by omega) (by omega), sm (by omega) (by omega), sm (by omega) (by omega), ?_, ?_, (((((d6.setCell hne4 (by omega) _).setCell hne (by omega) _).setCell hne (by omega) _).setCell hne (by omega) _).setCell hne (by omega) _)⟩ <;> omega
  by_cases e2 : t = 2
  · subst e2
    go_wp2_with fail
    refine (pick_any u w0 _ rb a len cap (p + 1 + 1 + 1 + 1 + 1) 2 hr hl (d5.alloc _) (by omega) (by omega) (by omega) (by omega)).mono ?_
    rintro e w6 ⟨t, rfl, t0', t1', d6, m6'⟩
    have m6 := ((Mv.refl rb w5).alloc _).trans m6'
    rw [← m6.cell _ _ (by omega) hne] at r0 r1 r2 r3
    rw [← m6.cell _ _ z5 hne4] at y0 y1 y2 y3
    rw [← m6.froz _ _ (by omega)] at q0 q1 q2 q3
    rw [← m6.froz _ _ z5] at u0 u1 u2 u3
    have hne5 : w5.heap.size ≠ rb := by omega
    have k2 : w6.cell? ⟨w5.heap.size, 0, none⟩ = some (.int .i64 (0)) := by rw [m6'.cell _ _ (by simp) hne5]; simp
    have k3 : w6.cell? ⟨w5.heap.size, 1, none⟩ = some (.int .i64 (7)) := by rw [m6'.cell _ _ (by simp) hne5]; simp
    clear m6 m6' d5
    have tt : t = 0 ∨ t = 1 := by omega
    rcases tt with rfl | rfl
    all_goals
      go_wp2
      refine bodyPost_ret (res_l71 rfl (by go_cell) (by go_cell) (by go_cell) (by go_cell)) rfl ⟨_, _, _, _, _, rfl, sm (by omega) (by omega), sm (by omega) (by omega), sm (by omega) (by omega), sm (by omega) (by omega), ?_, ?_, (((((d6.setCell hne4 (by omega) _).setCell hne (by omega) _).setCell hne (by omega) _).setCell hne (by omega) _).setCell hne (by omega) _)⟩ <;> omega
  by_cases e3 : t = 3
  · subst e3
    go_wp2_with fail
    refine (pick_any u w0 _ rb a len cap (p + 1 + 1 + 1 + 1 + 1) 2 hr hl (d5.alloc _) (by omega) (by omega) (by omega) (by omega)).mono ?_
    rintro e w6 ⟨t, rfl, t0', t1', d6, m6'⟩
    have m6 := ((Mv.refl rb w5).alloc _).trans m6'
    rw [← m6.cell _ _ (by omega) hne] at r0 r1 r2 r3
    rw [← m6.cell _ _ z5 hne4] at y0 y1 y2 y3
    rw [← m6.froz _ _ (by omega)] at q0 q1 q2 q3
    rw [← m6.froz _ _ z5] at u0 u1 u2 u3
    have hne5 : w5.heap.size ≠ rb := by omega
    have k2 : w6.cell? ⟨w5.heap.size, 0, none⟩ = some (.int .i64 (-1)) := by rw [m6'.cell _ _ (by simp) hne5]; simp
    have k3 : w6.cell? ⟨w5.heap.size, 1, none⟩ = some (.int .i64 (10)) := by rw [m6'.cell _ _ (by simp) hne5]; simp
    clear m6 m6' d5
    have tt : t = 0 ∨ t = 1 := by omega
    rcases tt with rfl | rfl
    all_goals
      go_wp2
      refine bodyPost_ret (res_l71 rfl (by go_cell) (by go_cell) (by go_cell) (by go_cell)) rfl ⟨_, _, _, _, _, rfl, sm (by omega) (by omega), sm (by omega) (by omega), sm (by omega) (by omega), sm (by omega) (by omega), ?_, ?_, (((((d6.setCell hne4 (by omega) _).setCell hne (by omega) _).setCell hne (by omega) _).setCell hne (by omega) _).setCell hne (by omega) _)⟩ <;> omega
  go_wp2
  refine bodyPost_ret (res_l71 rfl (by go_cell) (by go_cell) (by go_cell) (by go_cell)) rfl ⟨_, _, _, _, _, rfl, sm (by omega) (by omega), sm (by omega) (by omega), sm (by omega) (by omega), sm (by omega) (by omega), ?_, ?_, ((((d5.setCell hne (by omega) _).setCell hne (by omega) _).setCell hne (by omega) _).setCell hne (by omega) _)⟩ <;> omega
end Go.Proofs.Ytogioeflbbmppaa.Draw
