/-
  All blocks of memory but some stand as they stood. Nothing here speaks of the program.
-/
import Derived.Test.YtogioeflbbmppaaBig
namespace Go.Proofs.Ytogioeflbbmppaa.Kp
open Go.ChangeShapes Go.WideShapes Go.ChangeAt Go.RowKit
set_option linter.unusedVariables false
set_option linter.unusedSimpArgs false

/-- But for the blocks of L the world w' has what w had; the streams are as they were; no block has gone. -/
structure Kept (L : List Nat) (w w' : World) : Prop where
  os : w'.os = w.os
  tape : w'.tape = w.tape
  output : w'.output = w.output
  size : w.heap.size ≤ w'.heap.size
  block : ∀ k, k < w.heap.size → k ∉ L → w'.heap[k]? = w.heap[k]?
variable {L M : List Nat} {u v w w' : World}
theorem Kept.refl (L : List Nat) (w : World) : Kept L w w := ⟨rfl, rfl, rfl, Nat.le_refl _, fun _ _ _ => rfl⟩
theorem Kept.of (h : Below w.heap.size w w') : Kept L w w' := ⟨h.os, h.tape, h.output, h.size, fun k hk _ => h.block k hk⟩
theorem Kept.trans (h : Kept L u v) (g : Kept L v w) : Kept L u w :=
  ⟨g.os.trans h.os, g.tape.trans h.tape, g.output.trans h.output, Nat.le_trans h.size g.size, fun k hk hn => (g.block k (Nat.lt_of_lt_of_le hk h.size) hn).trans (h.block k hk hn)⟩
/-- New blocks need not be named. -/
theorem Kept.less (h : Kept L w w') (hs : ∀ x ∈ L, x ∈ M ∨ w.heap.size ≤ x) : Kept M w w' :=
  ⟨h.os, h.tape, h.output, h.size, fun k hk hn => h.block k hk (fun hm => (hs k hm).elim hn (fun hg => by omega))⟩
theorem Kept.sub (h : Kept L w w') (hs : ∀ x ∈ L, x ∈ M) : Kept M w w' := h.less fun x hx => .inl (hs x hx)
/-- A step behind others that turned new blocks besides. -/
theorem Kept.then (h : Kept L u v) (g : Kept M v w) (hs : ∀ x ∈ M, x ∈ L ∨ u.heap.size ≤ x) : Kept L u w :=
  ⟨g.os.trans h.os, g.tape.trans h.tape, g.output.trans h.output, Nat.le_trans h.size g.size, fun k hk hn => (g.block k (Nat.lt_of_lt_of_le hk h.size) (fun hm => (hs k hm).elim hn (fun hg => by omega))).trans (h.block k hk hn)⟩
theorem Kept.below (h : Kept L w w') {B : Nat} (hL : ∀ x ∈ L, B ≤ x) (hB : B ≤ w.heap.size) : Below B w w' :=
  ⟨h.os, h.tape, h.output, h.size, fun k hk => h.block k (by omega) (fun hm => by have := hL k hm; omega)⟩
theorem Kept.all (h : Kept L w w') (hL : ∀ x ∈ L, w.heap.size ≤ x) : Below w.heap.size w w' := h.below hL (Nat.le_refl _)
theorem Kept.drew (h : Kept L u w) : Kept L u w.drew := ⟨h.os, h.tape, h.output, h.size, h.block⟩
theorem Kept.alloc (h : Kept L u w) (o : Obj) : Kept L u (w.alloc o) := h.trans (.of ((Below.refl _ _).alloc (Nat.le_refl _) o))
theorem Kept.setCell (h : Kept L u w) {p : Addr} (hp : p.block ∈ L ∨ u.heap.size ≤ p.block) (x : Value) : Kept L u (w.setCell p x) :=
  h.then (M := [p.block]) ⟨rfl, rfl, rfl, by simp [World.setCell], fun k hk hn => Below.heap_setCell _ _ _ _ (by simpa using hn)⟩ (fun y hy => by simp at hy; subst hy; exact hp)
theorem Kept.setCells (h : Kept L u w) {b : Nat} (hp : b ∈ L ∨ u.heap.size ≤ b) (o : Nat) (vs : List Value) : Kept L u (w.setCells b o vs) := by
  induction vs generalizing w o with
  | nil => exact h
  | cons x r ih => exact ih (h.setCell (p := ⟨b, o, none⟩) hp x) (o + 1)
theorem Kept.grown {row : Option Nat} (h : Kept L u w) (hg : w.grownBy w' row) (hr : ∀ k, row = some k → k ∈ L ∨ u.heap.size ≤ k) : Kept L u w' :=
  h.then (M := row.toList) ⟨hg.os, hg.tape, hg.output, hg.size, fun k hk hn => hg.block k hk (fun e => hn (by rw [← e]; simp))⟩ (fun y hy => hr y (by cases row <;> simp_all))
theorem Kept.cell (h : Kept L w w') {b : Nat} (o : Nat) (hb : b < w.heap.size) (hn : b ∉ L) : w'.cell? ⟨b, o, none⟩ = w.cell? ⟨b, o, none⟩ := World.cell?_of_block (w := w) (h.block b hb hn)
theorem Kept.frozen (h : Kept L w w') {b : Nat} (o : Nat) (hb : b < w.heap.size) (hn : b ∉ L) : w'.frozen? ⟨b, o, none⟩ = w.frozen? ⟨b, o, none⟩ := World.frozen?_of_block (w := w) (h.block b hb hn)
theorem Kept.range (h : Kept L w w') {b o : Nat} {cs : List Value} (hr : w.rangeAt b o cs) (hb : b < w.heap.size) (hn : b ∉ L) : w'.rangeAt b o cs := fun j x hx => by rw [h.cell _ hb hn]; exact hr j x hx
theorem Kept.there (h : Kept L w w') {b o n : Nat} (hr : w.there b o n) (hb : b < w.heap.size) (hn : b ∉ L) : w'.there b o n := fun j hj => by rw [h.cell _ hb hn, h.frozen _ hb hn]; exact hr j hj
theorem Kept.row (h : Kept L w w') {base : Nat} {e : TypeId} {size n : Nat} {x : Value} {xs : List Value} (hr : w.ownsRow base e size x n xs) (hn : ∀ b, x.ownBlock = some b → b ∉ L) : w'.ownsRow base e size x n xs := by
  obtain ⟨h1, h2⟩ := hr
  refine ⟨h1, ?_⟩
  rcases h2 with h2 | ⟨g, cap, cur, rfl, hg, hh, r⟩
  · exact .inl h2
  · have hlt : g < w.heap.size := by
      by_cases hb : g < w.heap.size
      · exact hb
      · have : w.heap[g]? = none := by simp; omega
        rw [this] at hh; cases hh
    exact .inr ⟨g, cap, cur, rfl, hg, by rw [h.block g hlt (hn g rfl)]; exact hh, r⟩
end Go.Proofs.Ytogioeflbbmppaa.Kp
