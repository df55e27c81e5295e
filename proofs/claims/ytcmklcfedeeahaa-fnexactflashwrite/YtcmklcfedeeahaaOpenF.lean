/-
  A law's argument that is a list of blocks, opened: whatever it is, blocks and pages of ints lie there.
-/
import Derived.Test.YtcmklcfedeeahaaLawsE
import Derived.ShutString
import Derived.ChangeOld
import Derived.Deep.Slices
import Derived.ChangeSame
import Derived.Lib.SmallJoins
namespace Go.Proofs.Ytcmklcfedeeahaa.OpenF
open Go.ChangeShapes Go.WideShapes Go.ChangeAt Go.RowKit Go.Joins Go.Deep OkA Big Fl ImplS LawsA
set_option linter.unusedVariables false
set_option linter.unusedSimpArgs false

theorem range_flat {α : Type} (f : α → List Value) (n : Nat) {w : World} {b : Nat} : ∀ (l : List α) (o : Nat), (∀ x ∈ l, (f x).length = n) → (∀ i (hi : i < l.length), w.rangeAt b (o + i * n) (f l[i])) → w.rangeAt b o (l.flatMap f)
  | [], o, _, _ => fun j v hv => by simp at hv
  | x :: r, o, h1, h2 => by
    rw [List.flatMap_cons, range_app, h1 x (by simp)]
    refine ⟨by have := h2 0 (by simp); rw [Nat.zero_mul, Nat.add_zero] at this; exact this, range_flat f n r (o + n) (fun y hy => h1 y (by simp [hy])) fun i hi => ?_⟩
    have := h2 (i + 1) (by simpa using hi)
    rw [show o + n + i * n = o + (i + 1) * n by rw [Nat.add_mul]; omega]
    simpa using this
theorem spot_none {w : World} {b o : Nat} {s : Option Nat} {v : Value} (h : w.cell? ⟨b, o, s⟩ = some v) : s = none := by simpa using World.cell?_spot h

theorem list2 {cs : List Value} (h : cs.length = 2) : ∃ a b, cs = [a, b] := by
  match cs, h with
  | [a, b], _ => exact ⟨a, b, rfl⟩
theorem list4 {cs : List Value} (h : cs.length = 4) : ∃ a b c d, cs = [a, b, c, d] := by
  match cs, h with
  | [a, b, c, d], _ => exact ⟨a, b, c, d, rfl⟩
theorem list5 {cs : List Value} (h : cs.length = 5) : ∃ a b c d e, cs = [a, b, c, d, e] := by
  match cs, h with
  | [a, b, c, d, e], _ => exact ⟨a, b, c, d, e, rfl⟩
variable {H : Type} {enc : TypeId × Value → H} {w : World}

theorem open_rec {fuel : Nat} {cs : List Value} {x : DataW H × List MemPlace} (h : DataW.trod enc Try.prog w 0 (fun _ => true) true fuel 56 cs = some x) :
    ∃ k s a v : Int, cs = [.int .i64 k, .int .i64 s, .int .i64 a, .int .i64 v] := by
  obtain ⟨y0, y1, y2, y3, n, _, hl, h0, h1, h2, h3⟩ := trod_struct4 Try.underlying56 h
  rw [show Try.prog.cellsOf 56 = 4 by kernel_rfl] at hl
  obtain ⟨c0, c1, c2, c3, rfl⟩ := list4 hl
  rw [show Try.prog.cellsOf 3 = 1 by kernel_rfl] at h0 h1 h2 h3
  obtain ⟨x0, e0, _, _⟩ := DataW.trod_int Try.underlying3 h0
  obtain ⟨x1, e1, _, _⟩ := DataW.trod_int Try.underlying3 h1
  obtain ⟨x2, e2, _, _⟩ := DataW.trod_int Try.underlying3 h2
  obtain ⟨x3, e3, _, _⟩ := DataW.trod_int Try.underlying3 h3
  simp at e0 e1 e2 e3
  subst e0 e1 e2 e3
  exact ⟨_, _, _, _, rfl⟩
theorem open_page {fuel : Nat} {cs : List Value} {x : DataW H × List MemPlace} (h : DataW.trod enc Try.prog w 0 (fun _ => true) true fuel 154 cs = some x) : ∃ p : Pg, cs = pgC p := by
  obtain ⟨y0, y1, n, _, hl, h0, h1⟩ := trod_struct2 Try.underlying154 h
  rw [show Try.prog.cellsOf 154 = 5 by kernel_rfl] at hl
  obtain ⟨c0, c1, c2, c3, c4, rfl⟩ := list5 hl
  rw [show Try.prog.cellsOf 3 = 1 by kernel_rfl] at h0
  rw [show Try.prog.cellsOf 56 = 4 by kernel_rfl] at h1
  obtain ⟨x0, e0, _, _⟩ := DataW.trod_int Try.underlying3 h0
  obtain ⟨k, s, a, v, e1⟩ := open_rec h1
  simp at e0 e1
  obtain ⟨rfl, rfl, rfl, rfl⟩ := e1
  subst e0
  exact ⟨⟨x0, k, s, a, v⟩, rfl⟩
theorem open_pages {fuel : Nat} {V : Value} {x : DataW H × List MemPlace} (h : DataW.trod enc Try.prog w 0 (fun _ => true) true fuel 106 [V] = some x) :
    ∃ a ps cap, V = .slice a (ps : List Pg).length cap ∧ PsAt w a ps ∧ ps.length ≤ 9223372036854775807 := by
  rcases open_slice Try.underlying106 h with ⟨h0, _⟩ | ⟨a, len, cap, m, n, D, Pl, hc, _, hl, hm, hmm, _, hx⟩
  · simp at h0; subst h0; exact ⟨none, [], 0, rfl, .inl rfl, by simp⟩
  · simp at hc
    subst hc
    have hlm : len ≤ m := by rw [hmm]; simp; exact hl
    rw [show Try.prog.cellsOf 154 = 5 by kernel_rfl] at hx
    have hp : ∀ i, i < len → ∃ p : Pg, ∀ j, j < 5 → w.cell? ((a.add (i * 5)).add j) = (pgC p)[j]? := fun i hi => by
      obtain ⟨cs', h1, h2⟩ := hx i (by omega)
      obtain ⟨p, rfl⟩ := open_page h2
      obtain ⟨_, _, h3⟩ := World.cells?_some h1
      exact ⟨p, h3⟩
    have : Inhabited Pg := ⟨⟨0, 0, 0, 0, 0⟩⟩
    obtain ⟨P, hP⟩ := choose_lt hp
    refine ⟨some a, (List.range len).map P, cap, by simp, ?_, ?_⟩
    · by_cases h0 : len = 0
      · subst h0; exact .inl rfl
      · obtain ⟨b, o, s⟩ := a
        have c0 := hP 0 (by omega) 0 (by omega)
        rw [Nat.zero_mul] at c0
        have hs : s = none := by
          have : w.cell? ⟨b, o, s⟩ = some (.int .i64 (P 0).st) := by simpa [Addr.add, pgC] using c0
          exact spot_none this
        subst hs
        refine .inr ⟨b, o, rfl, range_flat pgC 5 _ o (fun _ _ => rfl) fun i hi j v hv => ?_⟩
        simp only [List.length_map, List.length_range] at hi
        simp only [List.getElem_map, List.getElem_range] at hv
        have hj : j < 5 := by have := (List.getElem?_eq_some_iff.1 hv).1; simpa [len_pgC] using this
        have := hP i hi j hj
        rw [Addr.add_mid, Addr.add_mid] at this
        rw [this]; exact hv
    · simp
      have h1 := hm
      unfold maxLen at h1
      omega
theorem open_block {fuel : Nat} {cs : List Value} {x : DataW H × List MemPlace} (h : DataW.trod enc Try.prog w 0 (fun _ => true) true fuel 108 cs = some x) :
    ∃ (b : Bk) (a : Option Addr) (cap : Nat), cs = [.slice a b.ps.length cap, .int .i64 b.wn] ∧ PsAt w a b.ps ∧ b.ps.length ≤ 9223372036854775807 := by
  obtain ⟨y0, y1, n, _, hl, h0, h1⟩ := trod_struct2 Try.underlying108 h
  rw [show Try.prog.cellsOf 108 = 2 by kernel_rfl] at hl
  obtain ⟨c0, c1, rfl⟩ := list2 hl
  rw [show Try.prog.cellsOf 3 = 1 by kernel_rfl] at h1
  rw [show Try.prog.cellsOf 106 = 1 by kernel_rfl] at h0
  obtain ⟨x0, e0, _, _⟩ := DataW.trod_int Try.underlying3 h1
  obtain ⟨a, ps, cap, e1, hps, hle⟩ := open_pages h0
  simp at e0
  subst e0 e1
  exact ⟨⟨ps, x0⟩, a, cap, rfl, hps, hle⟩
theorem open_flash {fuel : Nat} {V : Value} {x : DataW H × List MemPlace} (h : DataW.trod enc Try.prog w 0 (fun _ => true) true fuel 30 [V] = some x) :
    ∃ a bs cap, V = .slice a (bs : List Bk).length cap ∧ FsAt w a bs ∧ Fit bs := by
  rcases open_slice Try.underlying30 h with ⟨h0, _⟩ | ⟨a, len, cap, m, n, D, Pl, hc, _, hl, hm, hmm, _, hx⟩
  · simp at h0; subst h0; exact ⟨none, [], 0, rfl, .inl rfl, by simp, fun b hb => by simp at hb⟩
  · simp at hc
    subst hc
    have hlm : len ≤ m := by rw [hmm]; simp; exact hl
    rw [show Try.prog.cellsOf 108 = 2 by kernel_rfl] at hx
    have hp : ∀ i, i < len → ∃ b : Bk, b.ps.length ≤ 9223372036854775807 ∧ ∃ pa pc, w.cell? ((a.add (i * 2)).add 0) = some (.slice pa b.ps.length pc) ∧ w.cell? ((a.add (i * 2)).add 1) = some (.int .i64 b.wn) ∧ PsAt w pa b.ps := fun i hi => by
      obtain ⟨cs', h1, h2⟩ := hx i (by omega)
      obtain ⟨b, pa, pc, rfl, hps, hle⟩ := open_block h2
      obtain ⟨_, _, h3⟩ := World.cells?_some h1
      exact ⟨b, hle, pa, pc, h3 0 (by omega), h3 1 (by omega), hps⟩
    have : Inhabited Bk := ⟨⟨[], 0⟩⟩
    obtain ⟨B, hB⟩ := choose_lt hp
    refine ⟨some a, (List.range len).map B, cap, by simp, ?_, ?_, ?_⟩
    · by_cases h0 : len = 0
      · subst h0; exact .inl rfl
      · obtain ⟨b, o, s⟩ := a
        obtain ⟨_, pa, pc, c0, _⟩ := hB 0 (by omega)
        rw [Nat.zero_mul] at c0
        have hs : s = none := by
          have : w.cell? ⟨b, o, s⟩ = some (.slice pa (B 0).ps.length pc) := by simpa [Addr.add] using c0
          exact spot_none this
        subst hs
        refine .inr ⟨b, o, rfl, fun i hi => ?_⟩
        simp only [List.length_map, List.length_range] at hi
        obtain ⟨_, pa, pc, d0, d1, d2⟩ := hB i hi
        simp only [List.getElem_map, List.getElem_range]
        rw [Addr.add_mid, Addr.add_mid] at d0 d1
        exact ⟨pa, pc, d0, d1, d2⟩
    · simp
      have h1 := hm
      unfold maxLen at h1
      omega
    · intro b hb
      simp at hb
      obtain ⟨i, hi, rfl⟩ := hb
      have := (hB i hi).1
      omega
end Go.Proofs.Ytcmklcfedeeahaa.OpenF
