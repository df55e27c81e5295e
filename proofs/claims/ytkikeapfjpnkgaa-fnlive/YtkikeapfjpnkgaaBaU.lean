/-
  Texts that belong together, one behind the other: Pick, Draw.
-/
import Derived.Test.YtkikeapfjpnkgaaBaA
import Derived.ShutString
import Derived.ChangeOld
import Derived.Deep.QuietTactic
import Derived.BigQuiet
import Derived.WalkSmall

/-
  The contract of the drawing function pick: it hands back a number from 0 to n-1, for every code and every place reached, and turns nothing but its own counter.
-/
namespace Go.Proofs.Ytkikeapfjpnkgaa.Pick
open Go.ChangeShapes Go.WideShapes Go.ChangeAt Go.RowKit Kp
set_option linter.unusedVariables false

theorem _root_.Go.Proofs.Ytkikeapfjpnkgaa.Kp.Kept.drewN {L : List Nat} {u w : World} (h : Kept L u w) (n : Nat) : Kept L u (w.drewN n) := ⟨h.os, h.tape, h.output, h.size, h.block⟩
/-- A slice of bytes that came in: nil, or a row of cells. -/
def IsRow (k : IntKind) (w : World) (a : Option Addr) (len cap : Nat) (zs : List Int) : Prop :=
  (a = none ∧ len = 0 ∧ cap = 0 ∧ zs = []) ∨
  ∃ x, a = some x ∧ len ≤ cap ∧ cap ≤ maxLen ∧ zs.length = cap ∧ (∀ i, i < zs.length → w.cell? (x.add i) = some (.int k (zs.getD i 0))) ∧ ∀ n ∈ zs, (Lit.int k n).wf = true

/-- What is drawn from: empty, or bytes that lie in old blocks. -/
def Row (w : World) (a : Option Addr) (len : Nat) : Prop :=
  len = 0 ∨ ∃ b off, a = some ⟨b, off, none⟩ ∧ b < w.heap.size ∧ ∀ i, i < len → ∃ z : Int, 0 ≤ z ∧ z ≤ 255 ∧ w.cell? ⟨b, off + i, none⟩ = some (.int .u8 z)

/-- The reader in block rb at place p, over the row of the world w0; since the world u nothing else that was there has turned. -/
structure Rd (u w0 : World) (rb : Nat) (a : Option Addr) (len cap : Nat) (p : Int) (w : World) : Prop where
  lt : rb < w.heap.size
  old : w0.heap.size ≤ rb
  c0 : w.cell? ⟨rb, 0, none⟩ = some (.slice a len cap)
  c1 : w.cell? ⟨rb, 1, none⟩ = some (.int .i64 p)
  f1 : w.frozen? ⟨rb, 1, none⟩ = false
  bel : Below w0.heap.size w0 w
  kp : Kept [rb] u w

/-- What was there stands as it stood, but for the reader's block. -/
structure Mv (rb : Nat) (w w' : World) : Prop where
  size : w.heap.size ≤ w'.heap.size
  cell : ∀ b o, b < w.heap.size → b ≠ rb → w'.cell? ⟨b, o, none⟩ = w.cell? ⟨b, o, none⟩
  froz : ∀ b o, b < w.heap.size → w'.frozen? ⟨b, o, none⟩ = w.frozen? ⟨b, o, none⟩

theorem cell_lt {w : World} {b o : Nat} {v : Value} (h : w.cell? ⟨b, o, none⟩ = some v) : b < w.heap.size := by
  by_cases hb : b < w.heap.size
  · exact hb
  · exfalso
    have : w.heap[b]? = none := by simp; omega
    simp [World.cell?, this] at h

theorem xor_nat (a b : Nat) (ha : a < 4611686018427387904) (hb : b < 4611686018427387904) : bits .xor .i64 (a : Int) (b : Int) = ((a ^^^ b : Nat) : Int) := by
  have hx : a ^^^ b < 2 ^ 62 := Nat.xor_lt_two_pow (by omega) (by omega)
  have h1 : (BitVec.ofInt 64 (a : Int)).toNat = a := by
    rw [BitVec.ofInt_natCast, BitVec.toNat_ofNat]; exact Nat.mod_eq_of_lt (by omega)
  have h2 : (BitVec.ofInt 64 (b : Int)).toNat = b := by
    rw [BitVec.ofInt_natCast, BitVec.toNat_ofNat]; exact Nat.mod_eq_of_lt (by omega)
  show IntKind.i64.wrap ((BitVec.ofInt 64 (a : Int) ^^^ BitVec.ofInt 64 (b : Int)).toNat : Int) = _
  rw [BitVec.toNat_xor, h1, h2]
  simp [IntKind.wrap, IntKind.bits, IntKind.signed]
  omega
theorem xor_nonneg {x y : Int} (hx : 0 ≤ x) (hx1 : x ≤ 1000000000) (hy : 0 ≤ y) (hy1 : y ≤ 1000000000) : 0 ≤ bits .xor .i64 x y := by
  obtain ⟨a, rfl⟩ := Int.eq_ofNat_of_zero_le hx
  obtain ⟨b, rfl⟩ := Int.eq_ofNat_of_zero_le hy
  rw [xor_nat a b (by omega) (by omega)]
  omega
theorem tmod_in {x n : Int} (hx : 0 ≤ x) (hn : 1 ≤ n) : 0 ≤ x.tmod n ∧ x.tmod n < n := by
  rw [Int.tmod_eq_emod_of_nonneg hx]
  exact ⟨Int.emod_nonneg _ (by omega), Int.emod_lt_of_pos _ (by omega)⟩

set_option maxHeartbeats 400000 in
theorem pick_nil (u w0 w : World) (rb : Nat) (a : Option Addr) (cap : Nat) (p n : Int) (h : Rd u w0 rb a 0 cap p w) (hp0 : 0 ≤ p) (hp : p ≤ 10000) (hn : 1 ≤ n) (hn2 : n ≤ 10000) :
    Calls Try.prog 42 #[.pointer (some ⟨rb, 0, none⟩), .int .i64 n] w fun e w' => e = .returned (.int .i64 0) ∧ w' = w.setCell ⟨rb, 1, none⟩ (.int .i64 (p + 1)) := by
  obtain ⟨lt, old, c0, c1, f1, bel, kp⟩ := h
  clear bel kp
  have hn' : ¬ n < 1 := by omega
  go_enter Try.func42, Try.ntmps42
  go_wp2
  go_ret
  exact ⟨rfl, rfl⟩

set_option maxHeartbeats 400000 in
theorem pick_in (w : World) (rb b off : Nat) (len cap : Nat) (p n z : Int) (lt : rb < w.heap.size) (hbr : b ≠ rb)
    (c0 : w.cell? ⟨rb, 0, none⟩ = some (.slice (some ⟨b, off, none⟩) len cap)) (c1 : w.cell? ⟨rb, 1, none⟩ = some (.int .i64 p)) (f1 : w.frozen? ⟨rb, 1, none⟩ = false)
    (hz0 : 0 ≤ z) (hz : z ≤ 255) (hc : w.cell? ⟨b, off + p.toNat, none⟩ = some (.int .u8 z)) (hpl : p < len) (hl : len ≤ 10000)
    (hp0 : 0 ≤ p) (hn : 1 ≤ n) (hn2 : n ≤ 10000) :
    Calls Try.prog 42 #[.pointer (some ⟨rb, 0, none⟩), .int .i64 n] w fun e w' => e = .returned (.int .i64 (z % n)) ∧ w' = w.setCell ⟨rb, 1, none⟩ (.int .i64 (p + 1)) := by
  have hn' : ¬ n < 1 := by omega
  have hl0 : ((len : Int) == 0) = false := by simp; omega
  go_enter Try.func42, Try.ntmps42
  go_wp2
  go_ret
  exact ⟨rfl, rfl⟩


set_option maxHeartbeats 1000000 in
theorem pick_over (w : World) (rb b off : Nat) (len cap : Nat) (p n z y : Int) (lt : rb < w.heap.size) (hbr : b ≠ rb)
    (c0 : w.cell? ⟨rb, 0, none⟩ = some (.slice (some ⟨b, off, none⟩) len cap)) (c1 : w.cell? ⟨rb, 1, none⟩ = some (.int .i64 p)) (f1 : w.frozen? ⟨rb, 1, none⟩ = false)
    (hz0 : 0 ≤ z) (hz : z ≤ 255) (hc : w.cell? ⟨b, off + (p % len).toNat, none⟩ = some (.int .u8 z))
    (hy0 : 0 ≤ y) (hy : y ≤ 255) (hd : w.cell? ⟨b, off + ((p * 7 + 3) % len).toNat, none⟩ = some (.int .u8 y)) (hpl : (len : Int) ≤ p) (hl1 : 1 ≤ len) (hl : len ≤ 10000)
    (hp0 : 0 ≤ p) (hp : p ≤ 10000) (hn : 1 ≤ n) (hn2 : n ≤ 10000) :
    Calls Try.prog 42 #[.pointer (some ⟨rb, 0, none⟩), .int .i64 n] w fun e w' => ∃ r : Int, e = .returned (.int .i64 r) ∧ 0 ≤ r ∧ r < n ∧ ∃ nq, w' = (w.setCell ⟨rb, 1, none⟩ (.int .i64 (p + 1))).drewN nq := by
  have hn' : ¬ n < 1 := by omega
  have hl0 : ((len : Int) == 0) = false := by simp; omega
  have hlt : ¬ p < (len : Int) := by omega
  have lp : (0 : Int) < (len : Int) := by omega
  have hm0 : 0 ≤ p % (len : Int) := Int.emod_nonneg _ (by omega)
  have hm1 : p % (len : Int) < (len : Int) := Int.emod_lt_of_pos _ lp
  have hk0 : 0 ≤ (p * 7 + 3) % (len : Int) := Int.emod_nonneg _ (by omega)
  have hk1 : (p * 7 + 3) % (len : Int) < (len : Int) := Int.emod_lt_of_pos _ lp
  have hq0 : 0 ≤ p / (len : Int) := Int.ediv_nonneg hp0 (by omega)
  have hq1 : p / (len : Int) ≤ 10000 := Int.le_trans (Int.ediv_le_self _ hp0) hp
  go_enter Try.func42, Try.ntmps42
  go_wp2
  go_quiet (fail)
  clear hc hd c0 c1 f1
  go_wp2
  have hX0 : 0 ≤ z * 131 + y * 1117 + p * 29 + p / (len : Int) * 53 := by omega
  have hX1 : z * 131 + y * 1117 + p * 29 + p / (len : Int) * 53 ≤ 1000000000 := by omega
  generalize z * 131 + y * 1117 + p * 29 + p / (len : Int) * 53 = X at *
  have hr := tmod_in (xor_nonneg hX0 hX1 (y := X / 64) (by omega) (by omega)) hn
  go_ret
  exact ⟨_, rfl, hr.1, hr.2, nq, rfl⟩

/-- Whatever is drawn from, and wherever the reader stands: a number from 0 to n-1. -/
theorem pick_any (u w0 w : World) (rb : Nat) (a : Option Addr) (len cap : Nat) (p n : Int) (hr : Row w0 a len) (hl : len ≤ 10000) (h : Rd u w0 rb a len cap p w) (hp0 : 0 ≤ p) (hp : p ≤ 10000) (hn : 1 ≤ n) (hn2 : n ≤ 10000) :
    Calls Try.prog 42 #[.pointer (some ⟨rb, 0, none⟩), .int .i64 n] w fun e w' => ∃ r : Int, e = .returned (.int .i64 r) ∧ 0 ≤ r ∧ r < n ∧ Rd u w0 rb a len cap (p + 1) w' ∧ Mv rb w w' := by
  have fin : ∀ nq, Rd u w0 rb a len cap (p + 1) ((w.setCell ⟨rb, 1, none⟩ (.int .i64 (p + 1))).drewN nq) ∧ Mv rb w ((w.setCell ⟨rb, 1, none⟩ (.int .i64 (p + 1))).drewN nq) := by
    intro nq
    have hsz : ((w.setCell ⟨rb, 1, none⟩ (.int .i64 (p + 1))).drewN nq).heap.size = w.heap.size := World.size_setCell _ _ _
    have hfr : ∀ x, ((w.setCell ⟨rb, 1, none⟩ (.int .i64 (p + 1))).drewN nq).frozen? x = w.frozen? x := fun x => World.frozen?_setCell _ _ _ _
    have hot : ∀ x, (⟨rb, 1, none⟩ : Addr) ≠ x → ((w.setCell ⟨rb, 1, none⟩ (.int .i64 (p + 1))).drewN nq).cell? x = w.cell? x := fun x hx => World.cell?_setCell_other _ _ _ _ hx
    refine ⟨⟨by rw [hsz]; exact h.lt, h.old, by rw [hot _ (by simp)]; exact h.c0, World.cell?_setCell_same _ _ _ h.c1, by rw [hfr]; exact h.f1, below_drewN (h.bel.setCell h.old _) nq, (h.kp.setCell (.inl (by simp)) _).drewN nq⟩, ⟨by rw [hsz]; exact Nat.le_refl _, fun b o _ hb => hot _ (fun e => hb (congrArg Addr.block e).symm), fun b o _ => hfr _⟩⟩
  rcases hr with rfl | ⟨b, off, rfl, hb, hc⟩
  · refine (pick_nil u w0 w rb _ cap p n h hp0 hp hn hn2).mono ?_
    rintro e w' ⟨rfl, rfl⟩
    exact ⟨0, rfl, by omega, by omega, fin 0⟩
  · have hcell : ∀ i, i < len → ∃ z : Int, 0 ≤ z ∧ z ≤ 255 ∧ w.cell? ⟨b, off + i, none⟩ = some (.int .u8 z) := fun i hi => by
      obtain ⟨z, h0, h1, h2⟩ := hc i hi
      exact ⟨z, h0, h1, by rw [h.bel.cell (p := ⟨b, off + i, none⟩) hb]; exact h2⟩
    have hbr : b ≠ rb := by have := h.old; omega
    by_cases hl0 : len = 0
    · subst hl0
      refine (pick_nil u w0 w rb _ cap p n h hp0 hp hn hn2).mono ?_
      rintro e w' ⟨rfl, rfl⟩
      exact ⟨0, rfl, by omega, by omega, fin 0⟩
    · by_cases hpl : p < (len : Int)
      · obtain ⟨z, h0, h1, h2⟩ := hcell p.toNat (by omega)
        refine (pick_in w rb b off len cap p n z h.lt hbr h.c0 h.c1 h.f1 h0 h1 h2 hpl hl hp0 hn hn2).mono ?_
        rintro e w' ⟨rfl, rfl⟩
        exact ⟨_, rfl, Int.emod_nonneg _ (by omega), Int.emod_lt_of_pos _ (by omega), fin 0⟩
      · have lp : (0 : Int) < (len : Int) := by omega
        have b1 := Int.emod_nonneg p (b := (len : Int)) (by omega)
        have b2 := Int.emod_lt_of_pos p lp
        have b3 := Int.emod_nonneg (p * 7 + 3) (b := (len : Int)) (by omega)
        have b4 := Int.emod_lt_of_pos (p * 7 + 3) lp
        obtain ⟨z, h0, h1, h2⟩ := hcell (p % (len : Int)).toNat (by omega)
        obtain ⟨y, g0, g1, g2⟩ := hcell ((p * 7 + 3) % (len : Int)).toNat (by omega)
        refine (pick_over w rb b off len cap p n z y h.lt hbr h.c0 h.c1 h.f1 h0 h1 h2 g0 g1 g2 (by omega) (by omega) hl hp0 hp hn hn2).mono ?_
        rintro e w' ⟨r, rfl, r0, r1, nq, rfl⟩
        exact ⟨_, rfl, r0, r1, fin nq⟩

theorem Rd.alloc {u w0 : World} {rb : Nat} {a : Option Addr} {len cap : Nat} {p : Int} {w : World} (h : Rd u w0 rb a len cap p w) (o : Obj) : Rd u w0 rb a len cap p (w.alloc o) := by
  have b := (Below.refl w.heap.size w).alloc (Nat.le_refl _) o
  have l := h.lt
  refine ⟨by simp; omega, h.old, ?_, ?_, ?_, h.bel.alloc h.bel.size o, h.kp.alloc o⟩
  · rw [b.cell (p := ⟨rb, 0, none⟩) h.lt]; exact h.c0
  · rw [b.cell (p := ⟨rb, 1, none⟩) h.lt]; exact h.c1
  · rw [b.frozen (p := ⟨rb, 1, none⟩) h.lt]; exact h.f1
theorem Rd.drew {u w0 : World} {rb : Nat} {a : Option Addr} {len cap : Nat} {p : Int} {w : World} (h : Rd u w0 rb a len cap p w) : Rd u w0 rb a len cap p w.drew :=
  ⟨h.lt, h.old, h.c0, h.c1, h.f1, below_drewN h.bel 1, h.kp.drew⟩
theorem Rd.setCell {u w0 : World} {rb : Nat} {a : Option Addr} {len cap : Nat} {p : Int} {w : World} (h : Rd u w0 rb a len cap p w) {b o : Nat} (hb : b ≠ rb) (ho : w0.heap.size ≤ b ∧ u.heap.size ≤ b) (v : Value) : Rd u w0 rb a len cap p (w.setCell ⟨b, o, none⟩ v) := by
  have hot : ∀ j, (⟨b, o, none⟩ : Addr) ≠ ⟨rb, j, none⟩ := fun j e => hb (congrArg Addr.block e)
  exact ⟨by rw [World.size_setCell]; exact h.lt, h.old, by rw [World.cell?_setCell_other _ _ _ _ (hot 0)]; exact h.c0, by rw [World.cell?_setCell_other _ _ _ _ (hot 1)]; exact h.c1, by rw [World.frozen?_setCell]; exact h.f1, h.bel.setCell ho.1 v, h.kp.setCell (.inr ho.2) v⟩
theorem Mv.trans {rb : Nat} {a b c : World} (h : Mv rb a b) (g : Mv rb b c) : Mv rb a c :=
  ⟨Nat.le_trans h.size g.size, fun x o hx hn => (g.cell x o (Nat.lt_of_lt_of_le hx h.size) hn).trans (h.cell x o hx hn), fun x o hx => (g.froz x o (Nat.lt_of_lt_of_le hx h.size)).trans (h.froz x o hx)⟩
theorem Mv.alloc {rb : Nat} {a b : World} (h : Mv rb a b) (o : Obj) : Mv rb a (b.alloc o) := by
  have g := (Below.refl b.heap.size b).alloc (Nat.le_refl _) o
  exact h.trans ⟨g.size, fun x o hx _ => g.cell (p := ⟨x, o, none⟩) hx, fun x o hx => g.frozen (p := ⟨x, o, none⟩) hx⟩
theorem Mv.refl (rb : Nat) (a : World) : Mv rb a a := ⟨Nat.le_refl _, fun _ _ _ _ => rfl, fun _ _ _ => rfl⟩
/-- From here on. -/
theorem Rd.here {u w0 : World} {rb : Nat} {a : Option Addr} {len cap : Nat} {p : Int} {w : World} (h : Rd u w0 rb a len cap p w) : Rd w w0 rb a len cap p w := ⟨h.lt, h.old, h.c0, h.c1, h.f1, h.bel, .refl _ _⟩
/-- Other blocks are turned. -/
theorem Rd.kept {u w0 : World} {rb : Nat} {a : Option Addr} {len cap : Nat} {p : Int} {w w' : World} {L : List Nat} (h : Rd u w0 rb a len cap p w) (k : Kept L w w') (hL : ∀ x ∈ L, x ≠ rb ∧ w0.heap.size ≤ x) : Rd w' w0 rb a len cap p w' := by
  have hn : rb ∉ L := fun hm => (hL rb hm).1 rfl
  exact ⟨Nat.lt_of_lt_of_le h.lt k.size, h.old, by rw [k.cell 0 h.lt hn]; exact h.c0, by rw [k.cell 1 h.lt hn]; exact h.c1, by rw [k.frozen 1 h.lt hn]; exact h.f1, h.bel.trans (k.below (fun x hx => (hL x hx).2) h.bel.size), .refl _ _⟩
end Go.Proofs.Ytkikeapfjpnkgaa.Pick

/-
  The contracts of what opens a code and of what draws a record from it: whatever the code, a record of four small numbers is drawn, nothing that was there turns, and nothing panics.
-/
namespace Go.Proofs.Ytkikeapfjpnkgaa.Draw
open Go.ChangeShapes Go.WideShapes Go.ChangeAt Go.RowKit Pick Kp
set_option linter.unusedVariables false

theorem row_of {w : World} {a : Option Addr} {len cap : Nat} {zs : List Int} (h : IsRow .u8 w a len cap zs) (m : Nat) (hm : m ≤ len) : Row w a m := by
  rcases h with ⟨rfl, rfl, rfl, rfl⟩ | ⟨x, rfl, hl, hx, hz, hc, hw⟩
  · exact .inl (by omega)
  · by_cases h0 : zs.length = 0
    · exact .inl (by omega)
    · obtain ⟨b, off, spot⟩ := x
      have c0 := hc 0 (by omega)
      have hs : spot = none := by simpa [Addr.add] using World.cell?_spot c0
      subst hs
      have hadd : ∀ i, (⟨b, off, none⟩ : Addr).add i = ⟨b, off + i, none⟩ := fun i => by
        by_cases hi : i = 0
        · subst hi; simp [Addr.add]
        · simp [Addr.add, hi]
      have c0' : w.cell? ⟨b, off + 0, none⟩ = some (.int .u8 (zs.getD 0 0)) := by rw [← hadd]; exact c0
      refine .inr ⟨b, off, rfl, cell_lt c0', fun i hi => ?_⟩
      have ci := hc i (by omega)
      rw [hadd] at ci
      have hwi := hw (zs.getD i 0) (by rw [List.getD_eq_getElem?_getD, List.getElem?_eq_getElem (by omega)]; simp)
      have hb : 0 ≤ zs.getD i 0 ∧ zs.getD i 0 ≤ 255 := by simpa [Lit.wf, IntKind.min, IntKind.max, IntKind.signed, IntKind.bits] using hwi
      exact ⟨zs.getD i 0, hb.1, hb.2, ci⟩

theorem cell_top (w : World) (cs : Array Value) (T : TypeId) (n j : Nat) (v : Value) (h : n = w.heap.size) (hv : cs[j]? = some v) : (w.alloc (.cells cs T)).cell? ⟨n, j, none⟩ = some v := by
  rw [World.cell?_alloc_at cs T n j h, hv]
theorem addr_lt {w : World} {p : Addr} {v : Value} (h : w.cell? p = some v) : p.block < w.heap.size := by
  by_cases hb : p.block < w.heap.size
  · exact hb
  · exfalso
    have : w.heap[p.block]? = none := by simp; omega
    simp [World.cell?, this] at h
theorem isRow_below {k : IntKind} {w w' : World} {a : Option Addr} {len cap : Nat} {zs : List Int} (h : IsRow k w a len cap zs) (b : Below w.heap.size w w') : IsRow k w' a len cap zs := by
  rcases h with h | ⟨x, h0, h1, h2, h3, h4, h5⟩
  · exact .inl h
  · exact .inr ⟨x, h0, h1, h2, h3, fun i hi => by rw [b.cell (addr_lt (h4 i hi))]; exact h4 i hi, h5⟩

theorem rd_new (w : World) (a : Option Addr) (len cap : Nat) (T : TypeId) : Rd w w w.heap.size a len cap 0 (w.alloc (.cells #[.slice a len cap, .int .i64 0] T)) :=
  ⟨by simp, Nat.le_refl _, by simp, by simp, by simp, (Below.refl _ _).alloc (Nat.le_refl _) _, (Kept.refl _ _).alloc _⟩

set_option maxHeartbeats 400000 in
theorem open_any (w : World) (a : Option Addr) (len cap : Nat) (zs : List Int) (h : IsRow .u8 w a len cap zs) :
    Calls Try.prog 39 #[.slice a len cap] w fun e w' => e = .returned (.pointer (some ⟨w.heap.size, 0, none⟩)) ∧ ∃ len', len' ≤ 10000 ∧ Row w a len' ∧ Rd w w w.heap.size a len' cap 0 w' := by
  by_cases hl : 2000 < len
  · have hr := row_of h 2000 (by omega)
    rcases h with ⟨rfl, rfl, rfl, rfl⟩ | ⟨x, rfl, h1, h2, _, _, _⟩
    · omega
    · unfold maxLen at h2
      have hl' : (2000 : Int) < (len : Int) := by omega
      have hc' : (2000 : Int) ≤ (cap : Int) := by omega
      go_enter Try.func39, Try.ntmps39
      go_wp2
      go_ret
      exact ⟨rfl, 2000, by omega, hr, rd_new _ _ _ _ _⟩
  · have hr := row_of h len (Nat.le_refl _)
    have hl' : ¬ (2000 : Int) < (len : Int) := by omega
    clear h
    go_enter Try.func39, Try.ntmps39
    go_wp2
    go_ret
    exact ⟨rfl, len, by omega, hr, rd_new _ _ _ _ _⟩

def Small (n : Int) : Prop := -1 ≤ n ∧ n ≤ 1000

theorem res_l71 {tmps : Array Value} {w : World} {b : Nat} {k s a v : Int} (ht : tmps.getD 2 undef = .pointer (some ⟨b, 0, none⟩)) (h0 : w.cell? ⟨b, 0, none⟩ = some (.int .i64 k)) (h1 : w.cell? ⟨b, 1, none⟩ = some (.int .i64 s)) (h2 : w.cell? ⟨b, 2, none⟩ = some (.int .i64 a)) (h3 : w.cell? ⟨b, 3, none⟩ = some (.int .i64 v)) :
    (results Try.f41 tmps).run Try.prog w = .ok (.agg #[.int .i64 k, .int .i64 s, .int .i64 a, .int .i64 v]) w := by
  have ht' : tmps[2]?.getD undef = .pointer (some ⟨b, 0, none⟩) := by simpa using ht
  simp [results, Try.results41, go_sem, ht', h0, h1, h2, h3]

set_option maxHeartbeats 1000000 in
theorem l71Rec_any (u w0 w : World) (rb : Nat) (a : Option Addr) (len cap : Nat) (p : Int) (hr : Row w0 a len) (hl : len ≤ 10000) (h : Rd u w0 rb a len cap p w) (hp0 : 0 ≤ p) (hp : p ≤ 9000) :
    Calls Try.prog 41 #[.pointer (some ⟨rb, 0, none⟩)] w fun e w' => ∃ k s x v p' : Int, e = .returned (.agg #[.int .i64 k, .int .i64 s, .int .i64 x, .int .i64 v]) ∧ Small k ∧ Small s ∧ Small x ∧ Small v ∧ p ≤ p' ∧ p' ≤ p + 6 ∧ Rd u w0 rb a len cap p' w' := by
  have hlt := h.lt
  go_enter Try.func41, Try.ntmps41
  go_wp2_with fail
  refine (pick_any u w0 _ rb a len cap p 2 hr hl (h.alloc _) hp0 (by omega) (by omega) (by omega)).mono ?_
  rintro e w1 ⟨k, rfl, k0, k1, d1, m1⟩
  go_wp2_with fail
  refine (pick_any u w0 _ rb a len cap (p + 1) 40 hr hl d1 (by omega) (by omega) (by omega) (by omega)).mono ?_
  rintro e w2 ⟨s, rfl, s0, s1, d2, m2⟩
  go_wp2_with fail
  refine (pick_any u w0 _ rb a len cap (p + 1 + 1) 6 hr hl d2 (by omega) (by omega) (by omega) (by omega)).mono ?_
  rintro e w3 ⟨x, rfl, x0, x1, d3, m3⟩
  go_wp2_with fail
  refine (pick_any u w0 _ rb a len cap (p + 1 + 1 + 1) 10 hr hl d3 (by omega) (by omega) (by omega) (by omega)).mono ?_
  rintro e w4 ⟨v, rfl, v0, v1, d4, m4⟩
  have hne : w.heap.size ≠ rb := by omega
  have m14 := m1.trans (m2.trans (m3.trans m4))
  have z4 : w.heap.size < w4.heap.size := by have := m14.size; simp at this; omega
  have hne4 : w4.heap.size ≠ rb := by omega
  have rc : ∀ j, w4.cell? ⟨w.heap.size, j, none⟩ = _ := fun j => m14.cell w.heap.size j (by simp) hne
  have rf : ∀ j, w4.frozen? ⟨w.heap.size, j, none⟩ = _ := fun j => m14.froz w.heap.size j (by simp)
  clear m1 m2 m3 m4 m14 d1 d2 d3
  go_wp2_with fail
  refine (pick_any u w0 _ rb a len cap (p + 1 + 1 + 1 + 1) 20 hr hl (d4.alloc _) (by omega) (by omega) (by omega) (by omega)).mono ?_
  rintro e w5 ⟨t, rfl, t0, t1, d5, m5⟩
  have z5 : w4.heap.size < w5.heap.size := by have := m5.size; simp at this; omega
  have r0 : w5.cell? ⟨w.heap.size, 0, none⟩ = some (.int .i64 0) := by rw [m5.cell _ _ (by simp; omega) hne, World.cell?_alloc_lt _ _ _ z4, rc]; simp
  have q0 : w5.frozen? ⟨w.heap.size, 0, none⟩ = false := by rw [m5.froz _ _ (by simp; omega), ((Below.refl w4.heap.size w4).alloc (Nat.le_refl _) _).frozen (p := ⟨w.heap.size, 0, none⟩) z4, rf]; simp
  have y0 : w5.cell? ⟨w4.heap.size, 0, none⟩ = some (.int .i64 (1 + k)) := by rw [m5.cell _ _ (by simp) hne4]; simp
  have u0 : w5.frozen? ⟨w4.heap.size, 0, none⟩ = false := by rw [m5.froz _ _ (by simp)]; simp
  have r1 : w5.cell? ⟨w.heap.size, 1, none⟩ = some (.int .i64 0) := by rw [m5.cell _ _ (by simp; omega) hne, World.cell?_alloc_lt _ _ _ z4, rc]; simp
  have q1 : w5.frozen? ⟨w.heap.size, 1, none⟩ = false := by rw [m5.froz _ _ (by simp; omega), ((Below.refl w4.heap.size w4).alloc (Nat.le_refl _) _).frozen (p := ⟨w.heap.size, 1, none⟩) z4, rf]; simp
  have y1 : w5.cell? ⟨w4.heap.size, 1, none⟩ = some (.int .i64 (1 + s)) := by rw [m5.cell _ _ (by simp) hne4]; simp
  have u1 : w5.frozen? ⟨w4.heap.size, 1, none⟩ = false := by rw [m5.froz _ _ (by simp)]; simp
  have r2 : w5.cell? ⟨w.heap.size, 2, none⟩ = some (.int .i64 0) := by rw [m5.cell _ _ (by simp; omega) hne, World.cell?_alloc_lt _ _ _ z4, rc]; simp
  have q2 : w5.frozen? ⟨w.heap.size, 2, none⟩ = false := by rw [m5.froz _ _ (by simp; omega), ((Below.refl w4.heap.size w4).alloc (Nat.le_refl _) _).frozen (p := ⟨w.heap.size, 2, none⟩) z4, rf]; simp
  have y2 : w5.cell? ⟨w4.heap.size, 2, none⟩ = some (.int .i64 (1 + x)) := by rw [m5.cell _ _ (by simp) hne4]; simp
  have u2 : w5.frozen? ⟨w4.heap.size, 2, none⟩ = false := by rw [m5.froz _ _ (by simp)]; simp
  have r3 : w5.cell? ⟨w.heap.size, 3, none⟩ = some (.int .i64 0) := by rw [m5.cell _ _ (by simp; omega) hne, World.cell?_alloc_lt _ _ _ z4, rc]; simp
  have q3 : w5.frozen? ⟨w.heap.size, 3, none⟩ = false := by rw [m5.froz _ _ (by simp; omega), ((Below.refl w4.heap.size w4).alloc (Nat.le_refl _) _).frozen (p := ⟨w.heap.size, 3, none⟩) z4, rf]; simp
  have y3 : w5.cell? ⟨w4.heap.size, 3, none⟩ = some (.int .i64 (v)) := by rw [m5.cell _ _ (by simp) hne4]; simp
  have u3 : w5.frozen? ⟨w4.heap.size, 3, none⟩ = false := by rw [m5.froz _ _ (by simp)]; simp
  clear rc rf m5 d4
  have sm : ∀ {n : Int}, -1 ≤ n → n ≤ 1000 → Small n := fun h g => ⟨h, g⟩
  have old := h.bel.size
  have oldu := h.kp.size
  by_cases e0 : t = 0
  · subst e0
    go_wp2_with fail
    refine (pick_any u w0 _ rb a len cap (p + 1 + 1 + 1 + 1 + 1) 4 hr hl d5 (by omega) (by omega) (by omega) (by omega)).mono ?_
    rintro e w6 ⟨t, rfl, t0', t1', d6, m6⟩
    rw [← m6.cell _ _ (by omega) hne] at r0 r1 r2 r3
    rw [← m6.cell _ _ z5 hne4] at y0 y1 y2 y3
    rw [← m6.froz _ _ (by omega)] at q0 q1 q2 q3
    rw [← m6.froz _ _ z5] at u0 u1 u2 u3
    clear m6 d5
    go_wp2
    refine bodyPost_ret (res_l71 rfl (by go_cell) (by go_cell) (by go_cell) (by go_cell)) rfl ⟨_, _, _, _, _, rfl, sm (by omega) (by omega), sm (by omega) (by omega), sm (by omega) (by omega), sm (by omega) (by omega), ?_, ?_, (((((d6.setCell hne4 (by omega) _).setCell hne (by omega) _).setCell hne (by omega) _).setCell hne (by omega) _).setCell hne (by omega) _)⟩ <;> omega
  by_cases e1 : t = 1
  · subst e1
    go_wp2_with fail
    refine (pick_any u w0 _ rb a len cap (p + 1 + 1 + 1 + 1 + 1) 3 hr hl (d5.alloc _) (by omega) (by omega) (by omega) (by omega)).mono ?_
    rintro e w6 ⟨t, rfl, t0', t1', d6, m6'⟩
    have m6 := ((Mv.refl rb w5).alloc _).trans m6'
    rw [← m6.cell _ _ (by omega) hne] at r0 r1 r2 r3
    rw [← m6.cell _ _ z5 hne4] at y0 y1 y2 y3
    rw [← m6.froz _ _ (by omega)] at q0 q1 q2 q3
    rw [← m6.froz _ _ z5] at u0 u1 u2 u3
    have hne5 : w5.heap.size ≠ rb := by omega
    have k2 : w6.cell? ⟨w5.heap.size, 0, none⟩ = some (.int .i64 (0)) := by rw [m6'.cell _ _ (by simp) hne5]; simp
    have k3 : w6.cell? ⟨w5.heap.size, 1, none⟩ = some (.int .i64 (600)) := by rw [m6'.cell _ _ (by simp) hne5]; simp
    have k4 : w6.cell? ⟨w5.heap.size, 2, none⟩ = some (.int .i64 (601)) := by rw [m6'.cell _ _ (by simp) hne5]; simp
    clear m6 m6' d5
    have tt : t = 0 ∨ t = 1 ∨ t = 2 := by omega
    rcases tt with rfl | rfl | rfl
    all_goals
      go_wp2
      refine bodyPost_ret (res_l71 rfl (by go_cell) (by go_cell) (by go_cell) (by go_cell)) rfl ⟨_, _, _, _, _, rfl, sm (by omega) (by omega), sm (by omega) (by omega), sm (by omega) (by omega), sm (by omega) (by omega), ?_, ?_, (((((d6.setCell hne4 (by omega) _).setCell hne (by omega) _).setCell hne (by omega) _).setCell hne (by omega) _).setCell hne (by omega) _)⟩ <;> omega
  by_cases e2 : t = 2
  · subst e2
    go_wp2_with fail
    refine (pick_any u w0 _ rb a len cap (p + 1 + 1 + 1 + 1 + 1) 2 hr hl (d5.alloc _) (by omega) (by omega) (by omega) (by omega)).mono ?_
    rintro e w6 ⟨t, rfl, t0', t1', d6, m6'⟩
    have m6 := ((Mv.refl rb w5).alloc _).trans m6'
    rw [← m6.cell _ _ (by omega) hne] at r0 r1 r2 r3
    rw [← m6.cell _ _ z5 hne4] at y0 y1 y2 y3
    rw [← m6.froz _ _ (by omega)] at q0 q1 q2 q3
    rw [← m6.froz _ _ z5] at u0 u1 u2 u3
    have hne5 : w5.heap.size ≠ rb := by omega
    have k2 : w6.cell? ⟨w5.heap.size, 0, none⟩ = some (.int .i64 (0)) := by rw [m6'.cell _ _ (by simp) hne5]; simp
    have k3 : w6.cell? ⟨w5.heap.size, 1, none⟩ = some (.int .i64 (7)) := by rw [m6'.cell _ _ (by simp) hne5]; simp
    clear m6 m6' d5
    have tt : t = 0 ∨ t = 1 := by omega
    rcases tt with rfl | rfl
    all_goals
      go_wp2
      refine bodyPost_ret (res_l71 rfl (by go_cell) (by go_cell) (by go_cell) (by go_cell)) rfl ⟨_, _, _, _, _, rfl, sm (by omega) (by omega), sm (by omega) (by omega), sm (by omega) (by omega), sm (by omega) (by omega), ?_, ?_, (((((d6.setCell hne4 (by omega) _).setCell hne (by omega) _).setCell hne (by omega) _).setCell hne (by omega) _).setCell hne (by omega) _)⟩ <;> omega
  by_cases e3 : t = 3
  · subst e3
    go_wp2_with fail
    refine (pick_any u w0 _ rb a len cap (p + 1 + 1 + 1 + 1 + 1) 2 hr hl (d5.alloc _) (by omega) (by omega) (by omega) (by omega)).mono ?_
    rintro e w6 ⟨t, rfl, t0', t1', d6, m6'⟩
    have m6 := ((Mv.refl rb w5).alloc _).trans m6'
    rw [← m6.cell _ _ (by omega) hne] at r0 r1 r2 r3
    rw [← m6.cell _ _ z5 hne4] at y0 y1 y2 y3
    rw [← m6.froz _ _ (by omega)] at q0 q1 q2 q3
    rw [← m6.froz _ _ z5] at u0 u1 u2 u3
    have hne5 : w5.heap.size ≠ rb := by omega
    have k2 : w6.cell? ⟨w5.heap.size, 0, none⟩ = some (.int .i64 (-1)) := by rw [m6'.cell _ _ (by simp) hne5]; simp
    have k3 : w6.cell? ⟨w5.heap.size, 1, none⟩ = some (.int .i64 (10)) := by rw [m6'.cell _ _ (by simp) hne5]; simp
    clear m6 m6' d5
    have tt : t = 0 ∨ t = 1 := by omega
    rcases tt with rfl | rfl
    all_goals
      go_wp2
      refine bodyPost_ret (res_l71 rfl (by go_cell) (by go_cell) (by go_cell) (by go_cell)) rfl ⟨_, _, _, _, _, rfl, sm (by omega) (by omega), sm (by omega) (by omega), sm (by omega) (by omega), sm (by omega) (by omega), ?_, ?_, (((((d6.setCell hne4 (by omega) _).setCell hne (by omega) _).setCell hne (by omega) _).setCell hne (by omega) _).setCell hne (by omega) _)⟩ <;> omega
  go_wp2
  refine bodyPost_ret (res_l71 rfl (by go_cell) (by go_cell) (by go_cell) (by go_cell)) rfl ⟨_, _, _, _, _, rfl, sm (by omega) (by omega), sm (by omega) (by omega), sm (by omega) (by omega), sm (by omega) (by omega), ?_, ?_, ((((d5.setCell hne (by omega) _).setCell hne (by omega) _).setCell hne (by omega) _).setCell hne (by omega) _)⟩ <;> omega
end Go.Proofs.Ytkikeapfjpnkgaa.Draw
