/-
  Blocks in memory of their own: a row of blocks, each with a row of pages, all rows apart from each other. Nothing here walks the program.
-/
import Derived.Test.YtogioeflbbmppaaImplS
namespace Go.Proofs.Ytogioeflbbmppaa.Own
open Go.ChangeShapes Go.WideShapes Go.ChangeAt Go.RowKit OkA Big Fl ImplS
set_option linter.unusedVariables false
set_option linter.unusedSimpArgs false

/-- Rows g, and G of the pages, from lo on, apart: the blocks bs are laid in them; the outer row has room for n. -/
structure Own (w : World) (lo g : Nat) (G : List Nat) (bs : List Bk) (n : Nat) : Prop where
  len : G.length = bs.length
  nd : (g :: G).Nodup
  lo : ∀ x ∈ g :: G, lo ≤ x
  hi : ∀ x ∈ g :: G, x < w.heap.size
  fit : bs.length ≤ n
  room : w.there g 0 (n * 2)
  out : ∀ i (hi : i < bs.length), ∃ cap, w.cell? ⟨g, i * 2, none⟩ = some (.slice (some ⟨G[i]'(by omega), 0, none⟩) bs[i].ps.length cap)
  worn : ∀ i (hi : i < bs.length), w.cell? ⟨g, i * 2 + 1, none⟩ = some (.int .i64 bs[i].wn)
  pgs : ∀ i (hi : i < bs.length), w.rangeAt (G[i]'(by omega)) 0 (psC bs[i].ps)
  free : ∀ i (hi : i < bs.length), w.there (G[i]'(by omega)) 0 (bs[i].ps.length * 5)
  caps : ∀ i (hi : i < bs.length) (a : Option Addr) (m c : Nat), w.cell? ⟨g, i * 2, none⟩ = some (.slice a m c) → m ≤ c

variable {w w' : World} {lo g n : Nat} {G : List Nat} {bs : List Bk}

theorem Own.fs (h : Own w lo g G bs n) : FsAt w (some ⟨g, 0, none⟩) bs := .inr ⟨g, 0, rfl, fun i hi => by
  obtain ⟨cap, hc⟩ := h.out i hi
  exact ⟨_, cap, by simpa using hc, by simpa using h.worn i hi, .inr ⟨_, 0, rfl, h.pgs i hi⟩⟩⟩
theorem Own.mono (h : Own w lo g G bs n) {lo' : Nat} (hl : lo' ≤ lo) : Own w lo' g G bs n :=
  ⟨h.len, h.nd, fun x hx => Nat.le_trans hl (h.lo x hx), h.hi, h.fit, h.room, h.out, h.worn, h.pgs, h.free, h.caps⟩
theorem Own.below (h : Own w lo g G bs n) {B : Nat} (hb : Below B w w') (hB : w.heap.size ≤ B) : Own w' lo g G bs n := by
  have hg : g < B := Nat.lt_of_lt_of_le (h.hi g (by simp)) hB
  have hG : ∀ i (hi : i < bs.length), G[i]'(by have := h.len; omega) < B := fun i hi => Nat.lt_of_lt_of_le (h.hi _ (by simp)) hB
  refine ⟨h.len, h.nd, h.lo, fun x hx => Nat.lt_of_lt_of_le (h.hi x hx) hb.size, h.fit, there_below h.room hb hg, fun i hi => ?_, fun i hi => ?_, fun i hi => rangeAt_below (h.pgs i hi) hb (hG i hi), fun i hi => there_below (h.free i hi) hb (hG i hi), fun i hi a m c hc => h.caps i hi a m c (by rw [hb.cell (p := ⟨g, i * 2, none⟩) hg] at hc; exact hc)⟩
  · obtain ⟨cap, hc⟩ := h.out i hi
    exact ⟨cap, by rw [hb.cell (p := ⟨g, i * 2, none⟩) hg]; exact hc⟩
  · rw [hb.cell (p := ⟨g, i * 2 + 1, none⟩) hg]; exact h.worn i hi
/-- A new outer row. -/
theorem Own.start (hg : lo ≤ g) (hl : g < w.heap.size) (hr : w.there g 0 (n * 2)) : Own w lo g [] [] n :=
  ⟨rfl, by simp, fun x hx => by simp at hx; subst hx; exact hg, fun x hx => by simp at hx; subst hx; exact hl, Nat.zero_le _, hr, fun i hi => by simp at hi, fun i hi => by simp at hi, fun i hi => by simp at hi, fun i hi => by simp at hi, fun i hi => by simp at hi⟩
theorem cell_setCells_ne {w : World} {b o b' o' : Nat} {vs : List Value} (h : b' ≠ b ∨ o' < o ∨ o + vs.length ≤ o') : (w.setCells b o vs).cell? ⟨b', o', none⟩ = w.cell? ⟨b', o', none⟩ :=
  World.cell?_setCells_out b vs o w ⟨b', o', none⟩ (fun hb _ => by
    simp only at hb
    rcases h with h | h
    · exact absurd hb h
    · exact h)
theorem cell_setCells_eq {w : World} {b o : Nat} {vs : List Value} (ht : w.there b o vs.length) (j : Nat) (hj : j < vs.length) : (w.setCells b o vs).cell? ⟨b, o + j, none⟩ = some vs[j] :=
  World.cell?_setCells_in b vs o w (fun i hi => (ht i hi).1) j hj
/-- One block more, its pages in a row p that is apart. -/
theorem Own.push (h : Own w lo g G bs n) (hn : bs.length < n) (p cap : Nat) (b : Bk) (hp : lo ≤ p) (hps : p < w.heap.size) (hpg : p ∉ g :: G) (hr : w.rangeAt p 0 (psC b.ps)) (ht : w.there p 0 (b.ps.length * 5)) (hcap : b.ps.length ≤ cap) :
    Own (w.setCells g (bs.length * 2) [.slice (some ⟨p, 0, none⟩) b.ps.length cap, .int .i64 b.wn]) lo g (G ++ [p]) (bs ++ [b]) n := by
  have hlen := h.len
  have hne : p ≠ g := fun e => hpg (by simp [e])
  have hGg : ∀ i (hi : i < bs.length), G[i]'(by omega) ≠ g := fun i hi e => by
    have := (List.nodup_cons.1 h.nd).1
    exact this (e ▸ List.getElem_mem (by omega))
  have room2 : w.there g (bs.length * 2) 2 := by
    have := there_sub h.room (bs.length * 2) 2 (by omega)
    simpa using this
  have c0 := cell_setCells_eq (w := w) (b := g) (o := bs.length * 2) (vs := [.slice (some ⟨p, 0, none⟩) b.ps.length cap, .int .i64 b.wn]) room2 0 (by simp)
  have c1 := cell_setCells_eq (w := w) (b := g) (o := bs.length * 2) (vs := [.slice (some ⟨p, 0, none⟩) b.ps.length cap, .int .i64 b.wn]) room2 1 (by simp)
  have ecap : ∀ i, i < (bs ++ [b]).length → ∀ (a : Option Addr) (m c : Nat), (w.setCells g (bs.length * 2) [.slice (some ⟨p, 0, none⟩) b.ps.length cap, .int .i64 b.wn]).cell? ⟨g, i * 2, none⟩ = some (.slice a m c) → m ≤ c := by
    intro i hi a m c hc
    simp only [List.length_append, List.length_singleton] at hi
    by_cases e : i < bs.length
    · rw [cell_setCells_ne (.inr (.inl (by omega)))] at hc
      exact h.caps i e a m c hc
    · obtain rfl : i = bs.length := by omega
      have c2 := c0
      simp only [Nat.add_zero, List.getElem_cons_zero] at c2
      rw [c2] at hc
      simp at hc
      obtain ⟨_, rfl, rfl⟩ := hc
      exact hcap
  refine ⟨by simp [hlen], ?_, ?_, ?_, by simp; omega, World.there_setCells h.room _ _ _, ?_, ?_, ?_, ?_, ecap⟩
  · rw [← List.cons_append]
    exact List.nodup_append.2 ⟨h.nd, by simp, fun x hx y hy => by simp at hy; subst hy; intro e; subst e; exact hpg hx⟩
  · intro x hx
    rw [← List.cons_append, List.mem_append] at hx
    rcases hx with hx | hx
    · exact h.lo x hx
    · simp at hx; subst hx; exact hp
  · intro x hx
    rw [size_setCells]
    rw [← List.cons_append, List.mem_append] at hx
    rcases hx with hx | hx
    · exact h.hi x hx
    · simp at hx; subst hx; exact hps
  · intro i hi
    simp only [List.length_append, List.length_singleton] at hi
    by_cases e : i < bs.length
    · obtain ⟨cp, hc⟩ := h.out i e
      refine ⟨cp, ?_⟩
      rw [cell_setCells_ne (.inr (.inl (by omega))), List.getElem_append_left (by omega), List.getElem_append_left e]
      exact hc
    · obtain rfl : i = bs.length := by omega
      refine ⟨cap, ?_⟩
      rw [List.getElem_append_right (by omega), List.getElem_append_right (by omega)]
      simpa [hlen] using c0
  · intro i hi
    simp only [List.length_append, List.length_singleton] at hi
    by_cases e : i < bs.length
    · rw [cell_setCells_ne (.inr (.inl (by omega))), List.getElem_append_left e]
      exact h.worn i e
    · obtain rfl : i = bs.length := by omega
      rw [List.getElem_append_right (by omega)]
      simpa using c1
  · intro i hi
    simp only [List.length_append, List.length_singleton] at hi
    by_cases e : i < bs.length
    · simp only [List.getElem_append_left e, List.getElem_append_left (show i < G.length by omega)]
      exact World.rangeAt_setCells_apart (h.pgs i e) _ _ _ (.inl (hGg i e))
    · obtain rfl : i = bs.length := by omega
      have e1 : (G ++ [p])[bs.length]'(by simp [hlen]) = p := by rw [List.getElem_append_right (by omega)]; simp [hlen]
      have e2 : (bs ++ [b])[bs.length]'(by simp) = b := by rw [List.getElem_append_right (by omega)]; simp
      simp only [e1, e2]
      exact World.rangeAt_setCells_apart hr _ _ _ (.inl hne)
  · intro i hi
    simp only [List.length_append, List.length_singleton] at hi
    by_cases e : i < bs.length
    · simp only [List.getElem_append_left e, List.getElem_append_left (show i < G.length by omega)]
      exact World.there_setCells (h.free i e) _ _ _
    · obtain rfl : i = bs.length := by omega
      have e1 : (G ++ [p])[bs.length]'(by simp [hlen]) = p := by rw [List.getElem_append_right (by omega)]; simp [hlen]
      have e2 : (bs ++ [b])[bs.length]'(by simp) = b := by rw [List.getElem_append_right (by omega)]; simp
      simp only [e1, e2]
      exact World.there_setCells ht _ _ _

/-- A list of blocks in new memory: empty, or rows of its own. -/
def NewFs (w : World) (lo : Nat) (v : Value) (bs : List Bk) : Prop :=
  (bs = [] ∧ ∃ a c, v = .slice a 0 c) ∨ ∃ g G cap, v = .slice (some ⟨g, 0, none⟩) bs.length cap ∧ Own w lo g G bs bs.length
theorem NewFs.form {v : Value} (h : NewFs w lo v bs) : ∃ a cap, v = .slice a bs.length cap ∧ FsAt w a bs := by
  rcases h with ⟨rfl, a, c, rfl⟩ | ⟨g, G, cap, rfl, h⟩
  · exact ⟨a, c, rfl, .inl rfl⟩
  · exact ⟨_, cap, rfl, h.fs⟩
theorem NewFs.below {v : Value} (h : NewFs w lo v bs) {B : Nat} (hb : Below B w w') (hB : w.heap.size ≤ B) : NewFs w' lo v bs := by
  rcases h with h | ⟨g, G, cap, rfl, h⟩
  · exact .inl h
  · exact .inr ⟨g, G, cap, rfl, h.below hb hB⟩
end Go.Proofs.Ytogioeflbbmppaa.Own
