/-
  The laws' helpers over lists of numbers: how many; the same in memory of its own; whether two are the same; marks.
-/
import Derived.Test.YtahloklmogkaeaaStG
import Derived.Test.YtahloklmogkaeaaLawV
namespace Go.Proofs.Ytahloklmogkaeaa.LawI
open Go.ChangeShapes Go.WideShapes Go.ChangeAt Go.RowKit Go.Shelf OkA Big Fl ImplB ImplF ImplS _root_.Go.Proofs.Ytahloklmogkaeaa.Own ImplT ImplU SpecA SpecB SpecC SpecD SpecW Ok2 Pl ImplL Kp StA StB StD StF StG LawsA LawsE LawV MarkB
set_option linter.unusedVariables false
set_option linter.unusedSimpArgs false
attribute [local go_sem ↓] Go.wp_at_zero Go.wp_at_succ

set_option maxHeartbeats 400000 in
theorem szIntS_any (a : Option Addr) (n cap : Nat) (l : Int) (w : World) (h0 : 0 ≤ l) (h1 : l ≤ 1048576) (hn : (n : Int) ≤ 9223372036854775807) :
    Calls Try.prog 66 #[.slice a n cap, .int .i64 l] w fun e w' => e = .returned (.int .i64 (szR l n)) ∧ w' = w := by
  by_cases h : l - n < 0
  · have HR : Hid (szR l n = -1) := if_pos h
    go_enter Try.func66, Try.ntmps66
    go_wp2
    go_ret
    exact ⟨by rw [unhide HR]; rfl, rfl⟩
  · have HR : Hid (szR l n = l - n) := if_neg h
    go_enter Try.func66, Try.ntmps66
    go_wp2
    go_ret
    exact ⟨by rw [unhide HR]; rfl, rfl⟩

theorem made_n (n : Nat) : madeCells (Value.int .i64 0).cells (n * 1) = (isC (List.replicate n 0)).toArray := by
  apply Array.ext'
  rw [show (Value.int .i64 0).cells = #[Value.int .i64 0] from rfl, toList_madeCells_one, Nat.mul_one]
  simp [isC]
theorem dk_cell {w : World} {a : Option Addr} {l : List Int} (h : DkAt w a l) (k : Nat) (hk : k < l.length) : ∃ b o, a = some ⟨b, o, none⟩ ∧ w.cell? ⟨b, o + k, none⟩ = some (.int .i64 l[k]) ∧ b < w.heap.size := by
  rcases h with rfl | ⟨b, o, rfl, h⟩
  · simp at hk
  · have := isC_at h k hk
    rw [List.getD_eq_getElem?_getD, List.getElem?_eq_getElem hk] at this
    exact ⟨b, o, rfl, this, cell_lt this⟩
def TiPost (w : World) (l : List Int) (e : Ending) (w' : World) : Prop := e = .returned (.slice (some ⟨w.heap.size, 0, none⟩) l.length l.length) ∧ CsAt w' w.heap.size (isC l) ∧ w.heap.size < w'.heap.size ∧ Below w.heap.size w w'

set_option maxHeartbeats 1000000 in
theorem toIntS_any (a : Option Addr) (cap : Nat) (l : List Int) (w : World) (h : DkAt w a l) (hl : l.length ≤ 1048576) :
    Calls Try.prog 69 #[.slice a l.length cap] w fun e w' => TiPost w l e w' := by
  have c0 := CsAt.new w (isC (List.replicate l.length 0)) 3
  have b0 : Below w.heap.size w (w.alloc (.cells (isC (List.replicate l.length 0)).toArray 3)) := (Below.refl _ _).alloc (Nat.le_refl _) _
  have s0 : w.heap.size < (w.alloc (.cells (isC (List.replicate l.length 0)).toArray 3)).heap.size := by simp
  have hli : (l.length : Int) ≤ 1048576 := by omega
  have HP := hide h
  have HM := hide (made_n l.length)
  have HL0 : Hid ((List.replicate l.length (0 : Int)).length = l.length) := by show _ = _; simp
  clear h
  generalize hz : List.replicate l.length (0 : Int) = z at *
  clear hz
  go_enter Try.func69, Try.ntmps69
  go_wp2_with (refine wpList_make_big rfl 23 _ _ rfl l.length rfl rfl 3 1 8 (.int .i64 0) Try.underlying23 made_int (by omega) (by omega) ?_; rw [unhide HM])
  generalize w.alloc (.cells (isC z).toArray 3) = w1 at *
  go_loopw [4] (fun i w' => ∃ (k : Nat) (m : List Int), k ≤ l.length ∧ i = .int .i64 k ∧ m.length = l.length ∧ Hid (∀ j, j < k → m[j]? = l[j]?) ∧ CsAt w' w.heap.size (isC m) ∧ w.heap.size < w'.heap.size ∧ Below w.heap.size w w') (fun i _ => l.length - (intOf i).toNat)
  case atStart => exact ⟨0, z, by omega, rfl, unhide HL0, (fun j hj => by omega), c0, s0, b0⟩
  case round =>
    clear c0 s0 b0
    obtain ⟨k, m, hk, rfl, hm, HI, hC, hs, hB⟩ := hrel
    by_cases h0 : k = l.length
    · subst h0
      have HE : Hid (m = l) := by
        show _ = _
        apply List.ext_getElem?
        intro j
        by_cases q : j < l.length
        · exact unhide HI j q
        · rw [List.getElem?_eq_none (by omega), List.getElem?_eq_none (by omega)]
      rw [unhide HE] at hC
      go_wp2
      go_ret
      exact ⟨rfl, hC, hs, hB⟩
    · have hlt : (k : Int) < (l.length : Int) := by omega
      have hkb : k < l.length := by omega
      have hlo : (0 : Int) ≤ (k : Int) := by omega
      obtain ⟨sb, so, rfl, hx, hsb⟩ := dk_cell ((unhide HP).below hB) k hkb
      have hkl : k < (isC m).length := by rw [len_isC]; omega
      have x0 := hC.cell k _ (List.getElem?_eq_getElem hkl)
      have f0 := hC.frozen k hkl
      have HI2 : Hid (∀ j, j < k + 1 → (m.set k l[k])[j]? = l[j]?) := fun j hj => by
        by_cases q : j = k
        · subst q; rw [List.getElem?_set_self (by omega), List.getElem?_eq_getElem hkb]
        · rw [List.getElem?_set_ne (fun e => q e.symm)]; exact unhide HI j (by omega)
      generalize (isC m)[k] = old at *
      generalize l[k] = v at *
      have hC2 := hC.setInt (k := k) (by omega) v
      have hB2 : Below w.heap.size w (wr.setCell ⟨w.heap.size, k, none⟩ (.int .i64 v)) := hB.setCell (Nat.le_refl _) _
      have hs2 : w.heap.size < (wr.setCell ⟨w.heap.size, k, none⟩ (.int .i64 v)).heap.size := by rw [World.size_setCell]; exact hs
      have hm2 : (m.set k v).length = l.length := by rw [List.length_set]; exact hm
      clear hC
      go_wp2
      go_roundw
      case rel => exact ⟨k + 1, m.set k v, by omega, by first | rfl | go_num, hm2, HI2, hC2, hs2, hB2⟩
      case measure => simp [intOf]; omega

set_option maxHeartbeats 1000000 in
theorem eqIntS_any (a1 a2 : Option Addr) (c1 c2 : Nat) (l : List Int) (w : World) (h1 : DkAt w a1 l) (h2 : DkAt w a2 l) (hl : l.length ≤ 1048576) :
    Calls Try.prog 32 #[.slice a1 l.length c1, .slice a2 l.length c2] w fun e w' => e = .returned (.bool true) ∧ Below w.heap.size w w' := by
  have hli : (l.length : Int) ≤ 1048576 := by omega
  have H1 := hide h1
  have H2 := hide h2
  clear h1 h2
  go_enter Try.func32, Try.ntmps32
  go_wp2
  go_loopw [5] (fun i w' => ∃ k : Nat, k ≤ l.length ∧ i = .int .i64 k ∧ Below w.heap.size w w') (fun i _ => l.length - (intOf i).toNat)
  case atStart => exact ⟨0, by omega, rfl, Below.refl _ _⟩
  case round =>
    obtain ⟨k, hk, rfl, bw⟩ := hrel
    by_cases h0 : k = l.length
    · subst h0
      go_wp2
      go_ret
      exact ⟨rfl, bw⟩
    · have hlt : (k : Int) < (l.length : Int) := by omega
      have hkb : k < l.length := by omega
      have hlo : (0 : Int) ≤ (k : Int) := by omega
      obtain ⟨b1, o1, rfl, x1, l1⟩ := dk_cell ((unhide H1).below bw) k hkb
      obtain ⟨b2, o2, rfl, x2, l2⟩ := dk_cell ((unhide H2).below bw) k hkb
      generalize l[k] = v at *
      go_wp2
      refine wp_region_noPanic ?_
      refine wp_region_held_drew (S := fun w' => w'.cell? ⟨b1, o1 + k, none⟩ = some (.int .i64 v) ∧ w'.cell? ⟨b2, o2 + k, none⟩ = some (.int .i64 v)) (by kernel_rfl) (⟨x1, x2⟩) (fun hHeld => ?_)
      refine takeL 0 (.slice (some ⟨b1, o1, none⟩) l.length c1) rfl (by kernel_rfl) (by kernel_rfl) (by kernel_rfl) (fun _ _ _ h => h) (Or.inl ⟨rfl, fun _ _ => rfl⟩) hHeld ?_
      try simp only [Act.put, List.setIfInBounds_toArray, List.set_cons_zero, List.set_cons_succ]
      refine takeL 1 (.int .i64 k) rfl (by kernel_rfl) (by kernel_rfl) (by kernel_rfl) (fun _ _ _ h => h) (Or.inl ⟨rfl, fun _ _ => rfl⟩) hHeld ?_
      try simp only [Act.put, List.setIfInBounds_toArray, List.set_cons_zero, List.set_cons_succ]
      refine takeL 2 (.pointer (some ⟨b1, o1 + k, none⟩)) rfl (by kernel_rfl) (by kernel_rfl) (by kernel_rfl) (fun _ _ _ h => h) (Or.inl ⟨rfl, fun w9 hSw => by go_simp⟩) hHeld ?_
      try simp only [Act.put, List.setIfInBounds_toArray, List.set_cons_zero, List.set_cons_succ]
      refine takeL 3 (.int .i64 v) rfl (by kernel_rfl) (by kernel_rfl) (by kernel_rfl) (fun _ _ _ h => h) (Or.inl ⟨rfl, fun w9 hSw => by have hc := hSw.1; go_simp⟩) hHeld ?_
      try simp only [Act.put, List.setIfInBounds_toArray, List.set_cons_zero, List.set_cons_succ]
      refine takeL 4 (.slice (some ⟨b2, o2, none⟩) l.length c2) rfl (by kernel_rfl) (by kernel_rfl) (by kernel_rfl) (fun _ _ _ h => h) (Or.inl ⟨rfl, fun _ _ => rfl⟩) hHeld ?_
      try simp only [Act.put, List.setIfInBounds_toArray, List.set_cons_zero, List.set_cons_succ]
      refine takeL 5 (.int .i64 k) rfl (by kernel_rfl) (by kernel_rfl) (by kernel_rfl) (fun _ _ _ h => h) (Or.inl ⟨rfl, fun _ _ => rfl⟩) hHeld ?_
      try simp only [Act.put, List.setIfInBounds_toArray, List.set_cons_zero, List.set_cons_succ]
      refine takeL 6 (.pointer (some ⟨b2, o2 + k, none⟩)) rfl (by kernel_rfl) (by kernel_rfl) (by kernel_rfl) (fun _ _ _ h => h) (Or.inl ⟨rfl, fun w9 hSw => by go_simp⟩) hHeld ?_
      try simp only [Act.put, List.setIfInBounds_toArray, List.set_cons_zero, List.set_cons_succ]
      refine takeL 7 (.int .i64 v) rfl (by kernel_rfl) (by kernel_rfl) (by kernel_rfl) (fun _ _ _ h => h) (Or.inl ⟨rfl, fun w9 hSw => by have hc := hSw.2; go_simp⟩) hHeld ?_
      try simp only [Act.put, List.setIfInBounds_toArray, List.set_cons_zero, List.set_cons_succ]
      refine takeL 8 (.bool false) rfl (by kernel_rfl) (by kernel_rfl) (by kernel_rfl) (fun _ _ _ h => h) (Or.inl ⟨rfl, fun w9 hSw => by go_simp⟩) hHeld ?_
      try simp only [Act.put, List.setIfInBounds_toArray, List.set_cons_zero, List.set_cons_succ]
      refine wpAnyH_done (by kernel_rfl) ?_ _
      refine NoPanic.normal ?_
      have B2 := bw.drew
      clear x1 x2 hHeld
      go_wp2
      go_roundw
      case rel => exact ⟨k + 1, by omega, by first | rfl | go_num, B2⟩
      case measure => simp [intOf]; omega

/-! Marks. -/
def mkI (n : Nat) (k : Int) : List Int := (List.range n).map fun i => k + (i : Nat)
theorem mkI_len (n : Nat) (k : Int) : (mkI n k).length = n := by simp [mkI]
theorem mkI_at (n : Nat) (k : Int) (j : Nat) (hj : j < n) : (mkI n k)[j]? = some (k + (j : Nat)) := by simp [mkI, hj]
def MiPost (w : World) (g n : Nat) (k : Int) (e : Ending) (w' : World) : Prop := e = .returned (.int .i64 (k + (n : Nat))) ∧ CsAt w' g (isC (mkI n k)) ∧ Only [g] w w' ∧ Kept [g] w w'
theorem Only.setInt {L : List Nat} {w w' : World} (h : Only L w w') {b : Nat} (hb : b ∈ L) (o : Nat) (v : Value) : Only L w (w'.setCell ⟨b, o, none⟩ v) := h.setCells hb o [v]

set_option maxHeartbeats 1000000 in
theorem markIntS_any (g cap : Nat) (l : List Int) (k : Int) (w : World) (hC : CsAt w g (isC l)) (hl : l.length ≤ 1048576) (hk0 : 0 ≤ k) (hk1 : k ≤ 6000000000000) :
    Calls Try.prog 33 #[.slice (some ⟨g, 0, none⟩) l.length cap, .int .i64 k] w fun e w' => MiPost w g l.length k e w' := by
  have hli : (l.length : Int) ≤ 1048576 := by omega
  have HC := hide hC
  clear hC
  generalize hn : l.length = n at *
  have HN := hide hn
  clear hn
  go_enter Try.func33, Try.ntmps33
  go_wp2
  go_loopw [5, 1] (fun i q w' => ∃ (j : Nat) (m : List Int), j ≤ n ∧ i = .int .i64 j ∧ q = .int .i64 (k + (j : Nat)) ∧ m.length = n ∧ Hid (∀ i, i < j → m[i]? = some (k + (i : Nat))) ∧ CsAt w' g (isC m) ∧ Only [g] w w' ∧ Kept [g] w w') (fun i _ _ => n - (intOf i).toNat)
  case atStart => exact ⟨0, l, by omega, rfl, by simp, unhide HN, (fun i hi => by omega), unhide HC, Only.refl _ _, Kept.refl _ _⟩
  case round =>
    obtain ⟨j, m, hj, rfl, rfl, hm, HI, hM, hO, hK⟩ := hrel
    by_cases h0 : j = n
    · subst h0
      have HE : Hid (m = mkI j k) := by
        show _ = _
        apply List.ext_getElem?
        intro i
        by_cases q : i < j
        · rw [unhide HI i q, mkI_at _ _ _ q]
        · rw [List.getElem?_eq_none (by omega), List.getElem?_eq_none (by rw [mkI_len]; omega)]
      rw [unhide HE] at hM
      go_wp2
      go_ret
      exact ⟨rfl, hM, hO, hK⟩
    · have hlt : (j : Int) < (n : Int) := by omega
      have hjn : j < n := by omega
      have hlo : (0 : Int) ≤ (j : Int) := by omega
      have hjl : j < (isC m).length := by rw [len_isC]; omega
      have x0 := hM.cell j _ (List.getElem?_eq_getElem hjl)
      have f0 := hM.frozen j hjl
      have hM2 := hM.setInt (k := j) (by omega) (k + (j : Nat))
      have hO2 := Only.setInt hO (show g ∈ [g] by simp) j (.int .i64 (k + (j : Nat)))
      have hK2 := hK.setCell (p := ⟨g, j, none⟩) (.inl (by simp)) (.int .i64 (k + (j : Nat)))
      have HI2 : Hid (∀ i, i < j + 1 → (m.set j (k + (j : Nat)))[i]? = some (k + (i : Nat))) := fun i hi => by
        by_cases q : i = j
        · subst q; rw [List.getElem?_set_self (by omega)]
        · rw [List.getElem?_set_ne (fun e => q e.symm)]; exact unhide HI i (by omega)
      have hm2 : (m.set j (k + (j : Nat))).length = n := by rw [List.length_set]; exact hm
      generalize m.set j (k + (j : Nat)) = m2 at *
      generalize (isC m)[j] = old at *
      clear hM hO hK
      go_wp2
      go_roundw
      case rel => exact ⟨j + 1, m2, by omega, by first | rfl | go_num, by rw [show k + ((j + 1 : Nat) : Int) = k + (j : Nat) + 1 by omega], hm2, HI2, hM2, hO2, hK2⟩
      case measure => simp [intOf]; omega

set_option maxHeartbeats 1000000 in
theorem heldIntS_any (a : Option Addr) (cap n : Nat) (k : Int) (w : World) (hn : n ≤ 1048576) (hk0 : 0 ≤ k) (hk1 : k ≤ 6000000000000) (h : DkAt w a (mkI n k)) :
    Calls Try.prog 34 #[.slice a n cap, .int .i64 k] w fun e w' => e = .returned (.int .i64 (k + (n : Nat))) ∧ w' = w := by
  have hni : (n : Int) ≤ 1048576 := by omega
  have HF := hide h
  clear h
  go_enter Try.func34, Try.ntmps34
  go_wp2
  go_loop [5, 1] (fun i m => ∃ (j : Nat), j ≤ n ∧ i = .int .i64 j ∧ m = .int .i64 (k + (j : Nat))) (fun i _ => n - (intOf i).toNat)
  case atStart => exact ⟨0, by omega, rfl, by simp⟩
  case round =>
    obtain ⟨j, hj, rfl, rfl⟩ := hrel
    by_cases h0 : j = n
    · subst h0
      go_wp2
      go_ret
      exact ⟨rfl, rfl⟩
    · have hlt : (j : Int) < (n : Int) := by omega
      have hlo : (0 : Int) ≤ (j : Int) := by omega
      have hjl : j < (mkI n k).length := by rw [mkI_len]; omega
      obtain ⟨b1, o1, rfl, x1, l1⟩ := dk_cell (unhide HF) j hjl
      have e : (mkI n k)[j] = k + (j : Nat) := by have := mkI_at n k j (by omega); rw [List.getElem?_eq_getElem hjl] at this; exact Option.some.inj this
      rw [e] at x1
      clear e
      go_wp2
      go_round
      case rel => exact ⟨j + 1, by omega, by first | rfl | go_num, by rw [show k + ((j + 1 : Nat) : Int) = k + (j : Nat) + 1 by omega]⟩
      case measure => simp [intOf]; omega
end Go.Proofs.Ytahloklmogkaeaa.LawI
