/-
  Plain facts of a flush.
-/
import Derived.Test.YtiplhdcapnboaaaPw
import Derived.Test.YtiplhdcapnboaaaPy
import Derived.Test.YtiplhdcapnboaaaDrG
namespace Go.Proofs.Ytiplhdcapnboaaa.Pv
open Go.ChangeShapes Go.WideShapes Go.ChangeAt Go.RowKit Go.Shelf OkA Big Fl ImplB ImplF ImplS ImplT ImplU SpecA SpecB SpecC SpecD SpecW SpecF SpecG SpecH FindP ImplL FindN FindL FindD FindO Pl Kp StA StB StC StD StE StF StG SpS SpT Sv RmA WrA FlA PlA PlB SpU TwC Pw Py
set_option linter.unusedVariables false
set_option linter.unusedSimpArgs false
variable {bs : List Bk} {dk : List Int}
/-- Whether a value is to be told. -/
def dtB (bs : List Bk) (k : Int) : Bool := inB k 1 6 && dirtyB bs k
/-- Whether one of the first j numbers is this one. -/
def anyN (l : List Int) (k : Int) (j : Nat) : Bool := (l.take j).any fun x => x == k
theorem anyN_succ (l : List Int) (k : Int) (j : Nat) (hj : j < l.length) : anyN l k (j + 1) = (anyN l k j || l.getD j 0 == k) := by
  unfold anyN
  rw [List.take_succ_eq_append_getElem hj, List.any_append, List.getD_eq_getElem?_getD, List.getElem?_eq_getElem hj]
  simp
theorem any_dy (hs : stB bs dk = true) (k : Int) : anyN (dyS bs dk) k (dyS bs dk).length = dtB bs k := by
  unfold anyN
  rw [List.take_length, dy_ok hs, Bool.eq_iff_iff, List.any_eq_true]
  unfold dtB dyK
  constructor
  · rintro ⟨x, hx, e⟩
    obtain ⟨h1, h2⟩ := List.mem_filter.1 hx
    rw [List.mem_map] at h1
    obtain ⟨i, hi, rfl⟩ := h1
    rw [List.mem_range] at hi
    have e' : ((i : Nat) : Int) + 1 = k := by simpa using e
    rw [← e', h2]
    simp [inB]; omega
  · intro h
    rw [Bool.and_eq_true] at h
    have h1 : 1 ≤ k ∧ k ≤ 6 := by simpa [inB] using h.1
    refine ⟨k, List.mem_filter.2 ⟨List.mem_map.2 ⟨(k - 1).toNat, List.mem_range.2 (by omega), by omega⟩, h.2⟩, by simp⟩
theorem dt_read (hs : stB bs dk = true) {k : Int} (hd : dtB bs k = true) : (1 ≤ k ∧ k ≤ 6) ∧ rdS bs dk k = readI bs dk k ∧ 0 ≤ readI bs dk k ∧ readI bs dk k ≤ 9 := by
  unfold dtB at hd
  rw [Bool.and_eq_true] at hd
  have h1 : 1 ≤ k ∧ k ≤ 6 := by simpa [inB] using hd.1
  have hok := (st_parts hs).1
  unfold dirtyB at hd
  rw [Bool.and_eq_true] at hd
  have hr : readI bs dk k = (lastR bs k).v := by unfold readI; rw [hd.2.1, if_pos rfl]
  refine ⟨h1, by unfold rdS; rw [hs, hd.1]; rfl, ?_⟩
  rw [hr]
  rcases lastR_ok bs k hok with e | ⟨e, _⟩
  · have := hd.2.1; unfold lastO at this; rw [e] at this; simp [zRc] at this
  · simp [recB, numB, inB] at e
    omega
theorem fl_def (hs : stB bs dk = true) (k : Int) : flushS bs dk k = if dtB bs k then (if (writeP bs 2 k (readI bs dk k)).isEmpty then [] else diskS k (readI bs dk k) :: writeP bs 2 k (readI bs dk k)) else [] := by
  unfold flushS
  rw [if_pos hs]; rfl
theorem rec_same {k v v' : Int} (h1 : 1 ≤ k) (h6 : k ≤ 6) (h0 : 0 ≤ v) (h9 : v ≤ 9) (h0' : 0 ≤ v') (h9' : v' ≤ 9) (s : Int) : recB 2 s k v = recB 1 s k v' := by
  rw [Bool.eq_iff_iff]
  simp [recB, numB, inB]
  omega
theorem fl_zero (hs : stB bs dk = true) {k : Int} (hd : dtB bs k = true) (h : flushS bs dk k = []) : putS bs dk k 1 = [] := by
  obtain ⟨h1, _, h0, h9⟩ := dt_read hs hd
  rw [fl_def hs, if_pos hd] at h
  unfold putS
  rw [if_pos hs]
  cases hw : (writeP bs 2 k (readI bs dk k)).isEmpty
  · rw [hw] at h; cases h
  · unfold writeP at hw ⊢
    rw [rec_same h1.1 h1.2 h0 h9 (show (0 : Int) ≤ 1 by omega) (show (1 : Int) ≤ 9 by omega)] at hw
    cases hc : roomO bs && recB 1 (mostB bs + 1) k 1
    · rfl
    · rw [hc] at hw; simp at hw
theorem fl_pos (hs : stB bs dk = true) {k : Int} (h : flushS bs dk k ≠ []) : dtB bs k = true ∧ flushS bs dk k = diskS k (rdS bs dk k) :: (roomL bs ++ [writeS (roomB bs) ⟨2, mostB bs + 1, k, rdS bs dk k⟩]) ∧ putS bs dk k (rdS bs dk k) = roomL bs ++ [writeS (roomB bs) ⟨1, mostB bs + 1, k, rdS bs dk k⟩] := by
  rw [fl_def hs] at h
  cases hd : dtB bs k
  · rw [hd] at h; exact absurd rfl h
  rw [hd, if_pos rfl] at h
  obtain ⟨h1, hr, h0, h9⟩ := dt_read hs hd
  cases hw : (writeP bs 2 k (readI bs dk k)).isEmpty
  · have hc : (roomO bs && recB 2 (mostB bs + 1) k (readI bs dk k)) = true := by
      cases hc : roomO bs && recB 2 (mostB bs + 1) k (readI bs dk k)
      · unfold writeP at hw; rw [hc] at hw; simp at hw
      · rfl
    refine ⟨rfl, ?_, ?_⟩
    · rw [fl_def hs, hd, if_pos rfl, hw, hr]
      unfold writeP
      rw [hc]; rfl
    · unfold putS
      rw [if_pos hs]
      unfold writeP
      rw [hr, ← rec_same h1.1 h1.2 h0 h9 h0 h9, hc]; rfl
  · rw [hw] at h; exact absurd rfl h
end Go.Proofs.Ytiplhdcapnboaaa.Pv
