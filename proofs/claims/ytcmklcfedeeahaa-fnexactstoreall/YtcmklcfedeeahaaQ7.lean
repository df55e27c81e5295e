/-
  Texts that belong together, one behind the other: SpecG, SpecH, Pl, FindP, Gd, ImplO, SpecX.
-/
import Derived.Test.YtcmklcfedeeahaaQ6

/-
  The specification's finding: the eldest block.
-/
namespace Go.Proofs.Ytcmklcfedeeahaa.SpecG
open Go.ChangeShapes Go.WideShapes Go.ChangeAt Go.RowKit OkA Big Fl ImplB ImplF ImplS Own ImplT ImplU SpecA SpecB SpecF
set_option linter.unusedVariables false
set_option linter.unusedSimpArgs false
attribute [local go_sem ↓] Go.wp_at_zero Go.wp_at_succ

/-- The first of the first k + 1 blocks whose greatest number is least. -/
def oldN (bs : List Bk) : Nat → Nat
  | 0 => 0
  | k + 1 => if mostN (bs.getD (k + 1) zBk).ps < mostN (bs.getD (oldN bs k) zBk).ps then k + 1 else oldN bs k
theorem oldN_le (bs : List Bk) (k : Nat) : oldN bs k ≤ k := by
  induction k with
  | zero => exact Nat.le_refl _
  | succ k ih => unfold oldN; split <;> omega
theorem getD_at (bs : List Bk) (k : Nat) (h : k < bs.length) : bs.getD k zBk = bs[k] := by rw [List.getD_eq_getElem?_getD, List.getElem?_eq_getElem h]; rfl
theorem blk_two {w : World} {b o : Nat} {x y : Value} (h0 : w.cell? ⟨b, o, none⟩ = some x) (h1 : w.cell? ⟨b, o + 1, none⟩ = some y) : w.rangeAt b o [x, y] := fun j v hv => by
  match j, hv with
  | 0, hv => (obtain rfl : v = x := by simpa using hv.symm); exact h0
  | 1, hv => (obtain rfl : v = y := by simpa using hv.symm); exact h1
  | n + 2, hv => simp at hv

set_option maxHeartbeats 1000000 in
theorem old_any (a : Option Addr) (cap : Nat) (bs : List Bk) (w : World) (hf : FsAt w a bs) (hl : bs.length ≤ 1048576) (hp : ∀ b ∈ bs, b.ps.length ≤ 1048576) (hz : 0 < bs.length) :
    Calls Try.prog 121 #[.slice a bs.length cap] w fun e w' => e = .returned (.int .i64 (oldN bs (bs.length - 1))) ∧ Below w.heap.size w w' := by
  have H := hide hf
  have HP := hide hp
  clear hf hp
  generalize hn : bs.length = n at *
  have HL := hide hn
  clear hn
  have hli : (n : Int) ≤ 1048576 := by omega
  go_enter Try.func121, Try.ntmps121
  go_wp2
  go_loopw [3, 4] (fun m i w' => ∃ k : Nat, k < n ∧ i = .int .i64 (k + 1 : Nat) ∧ m = .int .i64 (oldN bs k : Nat) ∧ Below w.heap.size w w') (fun _ i _ => n - (intOf i).toNat)
  case atStart => exact ⟨0, by omega, rfl, rfl, Below.refl _ _⟩
  case round =>
    obtain ⟨k, hk, rfl, rfl, bw⟩ := hrel
    have hle := oldN_le bs k
    have HO : Hid (oldN bs (k + 1) = if mostN (bs.getD (k + 1) zBk).ps < mostN (bs.getD (oldN bs k) zBk).ps then k + 1 else oldN bs k) := rfl
    generalize hu : oldN bs k = u at *
    by_cases h0 : k + 1 = n
    · obtain rfl := h0
      have HU := hide hu
      go_wp2
      go_ret
      exact ⟨by rw [Nat.add_sub_cancel, unhide HU]; rfl, bw⟩
    · generalize hi : k + 1 = i at *
      have hlt : (i : Int) < (n : Int) := by omega
      have hkb : i < bs.length := by have := unhide HL; omega
      have hub : u < bs.length := by have := unhide HL; omega
      have hult : (u : Int) < (n : Int) := by omega
      have hlo : (0 : Int) ≤ (i : Int) := by omega
      have hulo : (0 : Int) ≤ (u : Int) := by omega
      rw [getD_at bs i hkb, getD_at bs u hub] at HO
      obtain ⟨b1, o1, rfl, g1⟩ : ∃ b o, a = some ⟨b, o, none⟩ ∧ ∀ i (hi : i < bs.length), BkAt wr b (o + i * 2) bs[i] := by
        rcases (unhide H).below bw with rfl | h
        · simp at hkb
        · exact h
      obtain ⟨p1, c1, d0, d1, q1⟩ := g1 i hkb
      obtain ⟨p2, c2, e0, e1, q2⟩ := g1 u hub
      have l1 := cell_lt d0
      have x1 := blk_two d0 d1
      have x2 := blk_two e0 e1
      have Q2 := q2.below ((Below.refl wr.heap.size wr).drew)
      have Q1 := q1.below ((Below.refl wr.heap.size wr).drew)
      have HC1 := hide (fun w' (h : PsAt w' p1 bs[i].ps) => most_any p1 c1 bs[i].ps bs[i].wn w' h (unhide HP _ (List.getElem_mem hkb)))
      have HC2 := hide (fun w' (h : PsAt w' p2 bs[u].ps) => most_any p2 c2 bs[u].ps bs[u].wn w' h (unhide HP _ (List.getElem_mem hub)))
      have HZ1 : Hid ((Try.prog.info? 102).map (·.size) = some [Value.slice p1 bs[i].ps.length c1, Value.int .i64 bs[i].wn].length) := by show _ = some 2; kernel_rfl
      have HZ2 : Hid ((Try.prog.info? 102).map (·.size) = some [Value.slice p2 bs[u].ps.length c2, Value.int .i64 bs[u].wn].length) := by show _ = some 2; kernel_rfl
      clear g1 d0 d1 e0 e1 q1 q2
      generalize bs[i] = b at *
      generalize bs[u] = c at *
      have hls : w.heap.size ≤ wr.heap.size := bw.size
      go_wp2_with fail
      refine wp_region_noPanic ?_
      refine wp_region_held_drew (S := fun w' => w'.rangeAt b1 (o1 + i * 2) [.slice p1 b.ps.length c1, .int .i64 b.wn] ∧ w'.rangeAt b1 (o1 + u * 2) [.slice p2 c.ps.length c2, .int .i64 c.wn]) (by kernel_rfl) (⟨by simpa using x1, by simpa using x2⟩) (fun hHeld => ?_)
      refine takeL 0 (.slice (some ⟨b1, o1, none⟩) n cap) rfl (by kernel_rfl) (by kernel_rfl) (by kernel_rfl) (fun _ _ _ h => h) (Or.inl ⟨rfl, fun _ _ => rfl⟩) hHeld ?_
      try simp only [Act.put, List.setIfInBounds_toArray, List.set_cons_zero, List.set_cons_succ]
      refine takeL 1 (.int .i64 i) rfl (by kernel_rfl) (by kernel_rfl) (by kernel_rfl) (fun _ _ _ h => h) (Or.inl ⟨rfl, fun _ _ => rfl⟩) hHeld ?_
      try simp only [Act.put, List.setIfInBounds_toArray, List.set_cons_zero, List.set_cons_succ]
      refine takeL 2 (.pointer (some ⟨b1, o1 + i * 2, none⟩)) rfl (by kernel_rfl) (by kernel_rfl) (by kernel_rfl) (fun _ _ _ h => h) (Or.inl ⟨rfl, fun w9 hSw => by go_simp⟩) hHeld ?_
      try simp only [Act.put, List.setIfInBounds_toArray, List.set_cons_zero, List.set_cons_succ]
      refine takeL 3 (.agg #[.slice p1 b.ps.length c1, .int .i64 b.wn]) rfl (by kernel_rfl) (by kernel_rfl) (by kernel_rfl) (fun _ _ _ h => h) (yieldsIf_load_mid rfl 102 _ rfl b1 (o1 + i * 2) rfl [.slice p1 b.ps.length c1, .int .i64 b.wn] _ (fun _ h => h.1) Try.underlying102 rfl (unhide HZ1)) hHeld ?_
      try simp only [Act.put, List.setIfInBounds_toArray, List.set_cons_zero, List.set_cons_succ]
      refine takeL 5 (.slice (some ⟨b1, o1, none⟩) n cap) rfl (by kernel_rfl) (by kernel_rfl) (by kernel_rfl) (fun _ _ _ h => h) (Or.inl ⟨rfl, fun _ _ => rfl⟩) hHeld ?_
      try simp only [Act.put, List.setIfInBounds_toArray, List.set_cons_zero, List.set_cons_succ]
      refine takeL 6 (.int .i64 u) rfl (by kernel_rfl) (by kernel_rfl) (by kernel_rfl) (fun _ _ _ h => h) (Or.inl ⟨rfl, fun _ _ => rfl⟩) hHeld ?_
      try simp only [Act.put, List.setIfInBounds_toArray, List.set_cons_zero, List.set_cons_succ]
      refine takeL 7 (.pointer (some ⟨b1, o1 + u * 2, none⟩)) rfl (by kernel_rfl) (by kernel_rfl) (by kernel_rfl) (fun _ _ _ h => h) (Or.inl ⟨rfl, fun w9 hSw => by go_simp⟩) hHeld ?_
      try simp only [Act.put, List.setIfInBounds_toArray, List.set_cons_zero, List.set_cons_succ]
      refine takeL 8 (.agg #[.slice p2 c.ps.length c2, .int .i64 c.wn]) rfl (by kernel_rfl) (by kernel_rfl) (by kernel_rfl) (fun _ _ _ h => h) (yieldsIf_load_mid rfl 102 _ rfl b1 (o1 + u * 2) rfl [.slice p2 c.ps.length c2, .int .i64 c.wn] _ (fun _ h => h.2) Try.underlying102 rfl (unhide HZ2)) hHeld ?_
      try simp only [Act.put, List.setIfInBounds_toArray, List.set_cons_zero, List.set_cons_succ]
      refine oneL 4 rfl (by kernel_rfl) rfl (fun K hK => ?_)
      go_simp
      refine (unhide HC1 _ Q1).mono ?_
      rintro e w2 ⟨rfl, b2⟩
      go_wp2_with fail
      refine hK.out _ _ ⟨rangeAt_below hHeld.1 b2 (by simpa using l1), rangeAt_below hHeld.2 b2 (by simpa using l1)⟩ (fun hHeld => ?_)
      clear hK K
      try simp only [Act.put, List.setIfInBounds_toArray, List.set_cons_zero, List.set_cons_succ]
      refine oneL 9 rfl (by kernel_rfl) rfl (fun K hK => ?_)
      go_simp
      refine (unhide HC2 _ (Q2.below b2)).mono ?_
      rintro e w3 ⟨rfl, b3⟩
      go_wp2_with fail
      refine hK.out _ _ ⟨rangeAt_below hHeld.1 b3 (Nat.lt_of_lt_of_le (by simpa using l1) b2.size), rangeAt_below hHeld.2 b3 (Nat.lt_of_lt_of_le (by simpa using l1) b2.size)⟩ (fun hHeld => ?_)
      clear hK K
      try simp only [Act.put, List.setIfInBounds_toArray, List.set_cons_zero, List.set_cons_succ]
      refine takeL 10 (.bool (decide (mostN b.ps < mostN c.ps))) rfl (by kernel_rfl) (by kernel_rfl) (by kernel_rfl) (fun _ _ _ h => h) (Or.inl ⟨rfl, fun w9 hSw => by go_simp⟩) hHeld ?_
      try simp only [Act.put, List.setIfInBounds_toArray, List.set_cons_zero, List.set_cons_succ]
      refine wpAnyH_done (by kernel_rfl) ?_ _
      refine NoPanic.normal ?_
      have B3 := (bw.drew.trans (b2.mono bw.drew.size)).trans (b3.mono (bw.drew.trans (b2.mono bw.drew.size)).size)
      clear hHeld b2 b3 bw x1 x2 Q1 Q2
      by_cases hm : mostN b.ps < mostN c.ps
      · have hd : decide (mostN b.ps < mostN c.ps) = true := by simpa using hm
        have HM := hide (by have := unhide HO; rw [if_pos hm] at this; exact this : oldN bs i = i)
        rw [hd]
        clear hm hd HO
        go_wp2
        go_roundw
        case rel => exact ⟨i, by omega, by first | rfl | go_num, by rw [unhide HM], B3⟩
        case measure => simp [intOf]; omega
      · have hd : decide (mostN b.ps < mostN c.ps) = false := by simpa using hm
        have HM := hide (by have := unhide HO; rw [if_neg hm] at this; exact this : oldN bs i = u)
        rw [hd]
        clear hm hd HO
        go_wp2
        go_roundw
        case rel => exact ⟨i, by omega, by first | rfl | go_num, by rw [unhide HM], B3⟩
        case measure => simp [intOf]; omega
end Go.Proofs.Ytcmklcfedeeahaa.SpecG

/-
  The specification's finding: the block on which the next record is to be written.
-/
namespace Go.Proofs.Ytcmklcfedeeahaa.SpecH
open Go.ChangeShapes Go.WideShapes Go.ChangeAt Go.RowKit OkA Big Fl ImplB ImplF ImplS Own ImplT ImplU SpecA SpecB SpecF SpecG
set_option linter.unusedVariables false
set_option linter.unusedSimpArgs false
attribute [local go_sem ↓] Go.wp_at_zero Go.wp_at_succ

/-- What is told of the blocks from the i-th on, if out is the best that was met so far (-1: none). -/
def openF (bs : List Bk) : List Bk → Nat → Int → Int × Bool
  | [], _, out => (if out < 0 then 0 else out, decide (0 ≤ out))
  | b :: r, i, out => if 0 < cleanN b.ps ∧ cleanN b.ps < 4 then ((i : Int), true) else openF bs r (i + 1) (if 0 < cleanN b.ps ∧ (out < 0 ∨ b.wn < (bs.getD out.toNat zBk).wn) then (i : Int) else out)
def openR (bs : List Bk) : Int × Bool := openF bs bs 0 (-1)
theorem cleanN_le (ps : List Pg) : cleanN ps ≤ ps.length := List.length_filter_le _ _
def OpPost (w : World) (R : Int × Bool) (e : Ending) (w' : World) : Prop := e = .returned (.tuple #[.int .i64 R.1, .bool R.2]) ∧ Below w.heap.size w w'

set_option maxHeartbeats 1000000 in
theorem open_any (b1 o1 cap : Nat) (bs : List Bk) (w : World) (hF : Fours bs) (h4 : bs.length = 4) (hf : ∀ i (hi : i < bs.length), BkAt w b1 (o1 + i * 2) bs[i]) :
    Calls Try.prog 119 #[.slice (some ⟨b1, o1, none⟩) 4 cap] w fun e w' => OpPost w (openR bs) e w' := by
  have H := hide hf
  have HF := hide hF
  clear hf hF
  have HR0 : Hid (openF bs bs 0 (-1) = openR bs) := rfl
  generalize openR bs = R at *
  go_enter Try.func119, Try.ntmps119
  go_wp2
  go_loopw [4, 5] (fun m i w' => ∃ (k : Nat) (out : Int), k ≤ 4 ∧ i = .int .i64 k ∧ m = .int .i64 out ∧ -1 ≤ out ∧ out < k ∧ Hid (openF bs (bs.drop k) k out = R) ∧ Below w.heap.size w w') (fun _ i _ => 4 - (intOf i).toNat)
  case atStart => exact ⟨0, -1, by omega, rfl, rfl, by omega, by omega, HR0, Below.refl _ _⟩
  case round =>
    obtain ⟨k, out, hk, rfl, rfl, ho1, ho2, HR, bw⟩ := hrel
    by_cases h0 : k = 4
    · subst h0
      have HE : Hid (R = (if out < 0 then 0 else out, decide (0 ≤ out))) := by
        show _ = _
        have := unhide HR
        rw [List.drop_eq_nil_of_le (by omega)] at this
        exact this.symm
      clear HR
      by_cases hneg : out < 0
      · obtain rfl : out = -1 := by omega
        go_wp2
        go_ret2
        exact ⟨by rw [unhide HE]; rfl, bw⟩
      · have HE2 : Hid (R = (out, true)) := by show _ = _; rw [unhide HE, if_neg hneg]; simp; omega
        have hnn : 0 ≤ out := by omega
        clear HE
        go_wp2
        go_ret2
        exact ⟨by rw [unhide HE2]; rfl, bw⟩
    · have hlt : (k : Int) < 4 := by omega
      have hkb : k < bs.length := by omega
      have hlo : (0 : Int) ≤ (k : Int) := by omega
      have hb4 := (unhide HF).at k hkb
      obtain ⟨p1, c1, d0, d1, q1⟩ := unhide H k hkb
      have hlw := cell_lt d0
      have hcl := cleanN_le bs[k].ps
      rw [hb4] at d0 hcl
      have D0 := (bw.cell (p := ⟨b1, o1 + k * 2, none⟩) hlw).trans d0
      have D1 := (bw.cell (p := ⟨b1, o1 + k * 2 + 1, none⟩) hlw).trans d1
      obtain ⟨pb, po, rfl, hr⟩ : ∃ pb po, p1 = some ⟨pb, po, none⟩ ∧ w.rangeAt pb po (psC bs[k].ps) := by
        rcases q1 with h | h
        · rw [h] at hb4; simp at hb4
        · exact h
      have hr1 := rangeAt_below hr bw (cell_lt (PsAt.cells hr 0 (by omega)).1)
      have HC := hide (l2Clean_any pb po c1 bs[k].ps bs[k].wn wr hb4 hr1)
      rw [List.drop_eq_getElem_cons hkb] at HR
      have HGO : Hid (∀ u : Nat, out = (u : Int) → u < bs.length → (bs.getD out.toNat zBk).wn = (bs.getD u zBk).wn) := fun u hu _ => by rw [hu]; rfl
      clear q1 hr hr1 d0 d1
      generalize bs[k] = b at *
      have hcn : Hid (openF bs (b :: bs.drop (k + 1)) k out = if 0 < cleanN b.ps ∧ cleanN b.ps < 4 then ((k : Int), true) else openF bs (bs.drop (k + 1)) (k + 1) (if 0 < cleanN b.ps ∧ (out < 0 ∨ b.wn < (bs.getD out.toNat zBk).wn) then (k : Int) else out)) := rfl
      rw [unhide hcn] at HR
      clear hcn
      generalize cleanN b.ps = cl at *
      go_wp2_with fail
      refine (unhide HC).mono ?_
      rintro e w2 ⟨rfl, b2⟩
      have B2 := bw.trans (b2.mono bw.size)
      have hlw2 := Nat.lt_of_lt_of_le hlw bw.size
      have E0 := (b2.cell (p := ⟨b1, o1 + k * 2, none⟩) hlw2).trans D0
      have E1 := (b2.cell (p := ⟨b1, o1 + k * 2 + 1, none⟩) hlw2).trans D1
      clear b2 bw D0 D1 HC
      by_cases hbeg : 0 < cl ∧ cl < 4
      · have HE : Hid (R = ((k : Int), true)) := by show _ = _; have := unhide HR; rw [if_pos hbeg] at this; exact this.symm
        obtain ⟨hg1, hg2⟩ := hbeg
        have hg1' : (0 : Int) < (cl : Int) := by omega
        have hg2' : (cl : Int) < 4 := by omega
        clear HR hg1 hg2
        go_wp2
        go_ret2
        exact ⟨by rw [unhide HE]; rfl, B2⟩
      · have HRN := hide (by have := unhide HR; rw [if_neg hbeg] at this; exact this : openF bs (bs.drop (k + 1)) (k + 1) (if 0 < cl ∧ (out < 0 ∨ b.wn < (bs.getD out.toNat zBk).wn) then (k : Int) else out) = R)
        clear HR
        by_cases hz : cl = 0
        · subst hz
          rw [if_neg (by omega)] at HRN
          clear hbeg
          go_wp2_with fail
          refine wp_region_noPanic ?_
          refine wp_region_held_drew (S := fun w' => True) (by kernel_rfl) (trivial) (fun hHeld => ?_)
          refine takeL 0 (.int .i64 (0 : Nat)) rfl (by kernel_rfl) (by kernel_rfl) (by kernel_rfl) (fun _ _ _ h => h) (Or.inl ⟨rfl, fun _ _ => rfl⟩) hHeld ?_
          try simp only [Act.put, List.setIfInBounds_toArray, List.set_cons_zero, List.set_cons_succ]
          refine takeL 1 (.bool false) rfl (by kernel_rfl) (by kernel_rfl) (by kernel_rfl) (fun _ _ _ h => h) (Or.inl ⟨rfl, fun w9 hSw => by go_simp⟩) hHeld ?_
          try simp only [Act.put, List.setIfInBounds_toArray, List.set_cons_zero, List.set_cons_succ]
          refine takeL 2 (.bool false) rfl (by kernel_rfl) (by kernel_rfl) (by kernel_rfl) (fun _ _ _ h => h) (Or.inl ⟨rfl, fun _ _ => rfl⟩) hHeld ?_
          try simp only [Act.put, List.setIfInBounds_toArray, List.set_cons_zero, List.set_cons_succ]
          refine takeL 3 (undef) rfl (by kernel_rfl) (by kernel_rfl) (by kernel_rfl) (fun _ _ _ h => h) (Or.inr ⟨rfl, rfl⟩) hHeld ?_
          try simp only [Act.put, List.setIfInBounds_toArray, List.set_cons_zero, List.set_cons_succ]
          refine takeL 4 (undef) rfl (by kernel_rfl) (by kernel_rfl) (by kernel_rfl) (fun _ _ _ h => h) (Or.inr ⟨rfl, rfl⟩) hHeld ?_
          try simp only [Act.put, List.setIfInBounds_toArray, List.set_cons_zero, List.set_cons_succ]
          refine takeL 5 (undef) rfl (by kernel_rfl) (by kernel_rfl) (by kernel_rfl) (fun _ _ _ h => h) (Or.inr ⟨rfl, rfl⟩) hHeld ?_
          try simp only [Act.put, List.setIfInBounds_toArray, List.set_cons_zero, List.set_cons_succ]
          refine takeL 6 (undef) rfl (by kernel_rfl) (by kernel_rfl) (by kernel_rfl) (fun _ _ _ h => h) (Or.inr ⟨rfl, rfl⟩) hHeld ?_
          try simp only [Act.put, List.setIfInBounds_toArray, List.set_cons_zero, List.set_cons_succ]
          refine takeL 7 (undef) rfl (by kernel_rfl) (by kernel_rfl) (by kernel_rfl) (fun _ _ _ h => h) (Or.inr ⟨rfl, rfl⟩) hHeld ?_
          try simp only [Act.put, List.setIfInBounds_toArray, List.set_cons_zero, List.set_cons_succ]
          refine takeL 8 (undef) rfl (by kernel_rfl) (by kernel_rfl) (by kernel_rfl) (fun _ _ _ h => h) (Or.inr ⟨rfl, rfl⟩) hHeld ?_
          try simp only [Act.put, List.setIfInBounds_toArray, List.set_cons_zero, List.set_cons_succ]
          refine takeL 9 (undef) rfl (by kernel_rfl) (by kernel_rfl) (by kernel_rfl) (fun _ _ _ h => h) (Or.inr ⟨rfl, rfl⟩) hHeld ?_
          try simp only [Act.put, List.setIfInBounds_toArray, List.set_cons_zero, List.set_cons_succ]
          refine takeL 10 (undef) rfl (by kernel_rfl) (by kernel_rfl) (by kernel_rfl) (fun _ _ _ h => h) (Or.inr ⟨rfl, rfl⟩) hHeld ?_
          try simp only [Act.put, List.setIfInBounds_toArray, List.set_cons_zero, List.set_cons_succ]
          refine takeL 11 (undef) rfl (by kernel_rfl) (by kernel_rfl) (by kernel_rfl) (fun _ _ _ h => h) (Or.inr ⟨rfl, rfl⟩) hHeld ?_
          try simp only [Act.put, List.setIfInBounds_toArray, List.set_cons_zero, List.set_cons_succ]
          refine takeL 12 (undef) rfl (by kernel_rfl) (by kernel_rfl) (by kernel_rfl) (fun _ _ _ h => h) (Or.inr ⟨rfl, rfl⟩) hHeld ?_
          try simp only [Act.put, List.setIfInBounds_toArray, List.set_cons_zero, List.set_cons_succ]
          refine takeL 13 (undef) rfl (by kernel_rfl) (by kernel_rfl) (by kernel_rfl) (fun _ _ _ h => h) (Or.inr ⟨rfl, rfl⟩) hHeld ?_
          try simp only [Act.put, List.setIfInBounds_toArray, List.set_cons_zero, List.set_cons_succ]
          refine takeL 14 (undef) rfl (by kernel_rfl) (by kernel_rfl) (by kernel_rfl) (fun _ _ _ h => h) (Or.inr ⟨rfl, rfl⟩) hHeld ?_
          try simp only [Act.put, List.setIfInBounds_toArray, List.set_cons_zero, List.set_cons_succ]
          refine takeL 15 (undef) rfl (by kernel_rfl) (by kernel_rfl) (by kernel_rfl) (fun _ _ _ h => h) (Or.inr ⟨rfl, rfl⟩) hHeld ?_
          try simp only [Act.put, List.setIfInBounds_toArray, List.set_cons_zero, List.set_cons_succ]
          refine takeL 16 (undef) rfl (by kernel_rfl) (by kernel_rfl) (by kernel_rfl) (fun _ _ _ h => h) (Or.inr ⟨rfl, rfl⟩) hHeld ?_
          try simp only [Act.put, List.setIfInBounds_toArray, List.set_cons_zero, List.set_cons_succ]
          refine takeL 17 (undef) rfl (by kernel_rfl) (by kernel_rfl) (by kernel_rfl) (fun _ _ _ h => h) (Or.inr ⟨rfl, rfl⟩) hHeld ?_
          try simp only [Act.put, List.setIfInBounds_toArray, List.set_cons_zero, List.set_cons_succ]
          refine takeL 18 (.bool false) rfl (by kernel_rfl) (by kernel_rfl) (by kernel_rfl) (fun _ _ _ h => h) (Or.inl ⟨rfl, fun w9 hSw => by go_simp⟩) hHeld ?_
          try simp only [Act.put, List.setIfInBounds_toArray, List.set_cons_zero, List.set_cons_succ]
          refine wpAnyH_done (by kernel_rfl) ?_ _
          refine NoPanic.normal ?_
          go_wp2
          go_roundw
          case rel => exact ⟨k + 1, out, by omega, by first | rfl | go_num, rfl, ho1, by omega, HRN, B2.drew⟩
          case measure => simp [intOf]; omega
        · obtain rfl : cl = 4 := by omega
          clear hbeg hz
          by_cases hneg : out < 0
          · obtain rfl : out = -1 := by omega
            rw [if_pos ⟨by omega, .inl (by omega)⟩] at HRN
            go_wp2_with fail
            refine wp_region_noPanic ?_
            refine wp_region_held_drew (S := fun w' => True) (by kernel_rfl) (trivial) (fun hHeld => ?_)
            refine takeL 0 (.int .i64 (4 : Nat)) rfl (by kernel_rfl) (by kernel_rfl) (by kernel_rfl) (fun _ _ _ h => h) (Or.inl ⟨rfl, fun _ _ => rfl⟩) hHeld ?_
            try simp only [Act.put, List.setIfInBounds_toArray, List.set_cons_zero, List.set_cons_succ]
            refine takeL 1 (.bool true) rfl (by kernel_rfl) (by kernel_rfl) (by kernel_rfl) (fun _ _ _ h => h) (Or.inl ⟨rfl, fun w9 hSw => by go_simp⟩) hHeld ?_
            try simp only [Act.put, List.setIfInBounds_toArray, List.set_cons_zero, List.set_cons_succ]
            refine takeL 2 (.bool true) rfl (by kernel_rfl) (by kernel_rfl) (by kernel_rfl) (fun _ _ _ h => h) (Or.inl ⟨rfl, fun _ _ => rfl⟩) hHeld ?_
            try simp only [Act.put, List.setIfInBounds_toArray, List.set_cons_zero, List.set_cons_succ]
            refine takeL 3 (.int .i64 (-1)) rfl (by kernel_rfl) (by kernel_rfl) (by kernel_rfl) (fun _ _ _ h => h) (Or.inl ⟨rfl, fun _ _ => rfl⟩) hHeld ?_
            try simp only [Act.put, List.setIfInBounds_toArray, List.set_cons_zero, List.set_cons_succ]
            refine takeL 4 (.bool true) rfl (by kernel_rfl) (by kernel_rfl) (by kernel_rfl) (fun _ _ _ h => h) (Or.inl ⟨rfl, fun w9 hSw => by go_simp⟩) hHeld ?_
            try simp only [Act.put, List.setIfInBounds_toArray, List.set_cons_zero, List.set_cons_succ]
            refine takeL 5 (.bool true) rfl (by kernel_rfl) (by kernel_rfl) (by kernel_rfl) (fun _ _ _ h => h) (Or.inl ⟨rfl, fun _ _ => rfl⟩) hHeld ?_
            try simp only [Act.put, List.setIfInBounds_toArray, List.set_cons_zero, List.set_cons_succ]
            refine takeL 6 (undef) rfl (by kernel_rfl) (by kernel_rfl) (by kernel_rfl) (fun _ _ _ h => h) (Or.inr ⟨rfl, rfl⟩) hHeld ?_
            try simp only [Act.put, List.setIfInBounds_toArray, List.set_cons_zero, List.set_cons_succ]
            refine takeL 7 (undef) rfl (by kernel_rfl) (by kernel_rfl) (by kernel_rfl) (fun _ _ _ h => h) (Or.inr ⟨rfl, rfl⟩) hHeld ?_
            try simp only [Act.put, List.setIfInBounds_toArray, List.set_cons_zero, List.set_cons_succ]
            refine takeL 8 (undef) rfl (by kernel_rfl) (by kernel_rfl) (by kernel_rfl) (fun _ _ _ h => h) (Or.inr ⟨rfl, rfl⟩) hHeld ?_
            try simp only [Act.put, List.setIfInBounds_toArray, List.set_cons_zero, List.set_cons_succ]
            refine takeL 9 (undef) rfl (by kernel_rfl) (by kernel_rfl) (by kernel_rfl) (fun _ _ _ h => h) (Or.inr ⟨rfl, rfl⟩) hHeld ?_
            try simp only [Act.put, List.setIfInBounds_toArray, List.set_cons_zero, List.set_cons_succ]
            refine takeL 10 (undef) rfl (by kernel_rfl) (by kernel_rfl) (by kernel_rfl) (fun _ _ _ h => h) (Or.inr ⟨rfl, rfl⟩) hHeld ?_
            try simp only [Act.put, List.setIfInBounds_toArray, List.set_cons_zero, List.set_cons_succ]
            refine takeL 11 (undef) rfl (by kernel_rfl) (by kernel_rfl) (by kernel_rfl) (fun _ _ _ h => h) (Or.inr ⟨rfl, rfl⟩) hHeld ?_
            try simp only [Act.put, List.setIfInBounds_toArray, List.set_cons_zero, List.set_cons_succ]
            refine takeL 12 (undef) rfl (by kernel_rfl) (by kernel_rfl) (by kernel_rfl) (fun _ _ _ h => h) (Or.inr ⟨rfl, rfl⟩) hHeld ?_
            try simp only [Act.put, List.setIfInBounds_toArray, List.set_cons_zero, List.set_cons_succ]
            refine takeL 13 (undef) rfl (by kernel_rfl) (by kernel_rfl) (by kernel_rfl) (fun _ _ _ h => h) (Or.inr ⟨rfl, rfl⟩) hHeld ?_
            try simp only [Act.put, List.setIfInBounds_toArray, List.set_cons_zero, List.set_cons_succ]
            refine takeL 14 (undef) rfl (by kernel_rfl) (by kernel_rfl) (by kernel_rfl) (fun _ _ _ h => h) (Or.inr ⟨rfl, rfl⟩) hHeld ?_
            try simp only [Act.put, List.setIfInBounds_toArray, List.set_cons_zero, List.set_cons_succ]
            refine takeL 15 (undef) rfl (by kernel_rfl) (by kernel_rfl) (by kernel_rfl) (fun _ _ _ h => h) (Or.inr ⟨rfl, rfl⟩) hHeld ?_
            try simp only [Act.put, List.setIfInBounds_toArray, List.set_cons_zero, List.set_cons_succ]
            refine takeL 16 (undef) rfl (by kernel_rfl) (by kernel_rfl) (by kernel_rfl) (fun _ _ _ h => h) (Or.inr ⟨rfl, rfl⟩) hHeld ?_
            try simp only [Act.put, List.setIfInBounds_toArray, List.set_cons_zero, List.set_cons_succ]
            refine takeL 17 (.bool true) rfl (by kernel_rfl) (by kernel_rfl) (by kernel_rfl) (fun _ _ _ h => h) (Or.inl ⟨rfl, fun w9 hSw => by go_simp⟩) hHeld ?_
            try simp only [Act.put, List.setIfInBounds_toArray, List.set_cons_zero, List.set_cons_succ]
            refine takeL 18 (.bool true) rfl (by kernel_rfl) (by kernel_rfl) (by kernel_rfl) (fun _ _ _ h => h) (Or.inl ⟨rfl, fun w9 hSw => by go_simp⟩) hHeld ?_
            try simp only [Act.put, List.setIfInBounds_toArray, List.set_cons_zero, List.set_cons_succ]
            refine wpAnyH_done (by kernel_rfl) ?_ _
            refine NoPanic.normal ?_
            go_wp2
            go_roundw
            case rel => exact ⟨k + 1, k, by omega, by first | rfl | go_num, rfl, by omega, by omega, HRN, B2.drew⟩
            case measure => simp [intOf]; omega
          · obtain ⟨u, rfl⟩ : ∃ u : Nat, out = (u : Int) := ⟨out.toNat, by omega⟩
            have hub : u < bs.length := by omega
            obtain ⟨p2, c2, f0, f1, _⟩ := unhide H u hub
            have hlu : (u : Int) < 4 := by omega
            have huo : (0 : Int) ≤ (u : Int) := by omega
            have F1 : w2.cell? ⟨b1, o1 + u * 2 + 1, none⟩ = some (.int .i64 bs[u].wn) := (B2.cell (p := ⟨b1, o1 + u * 2 + 1, none⟩) hlw).trans f1
            rw [Int.toNat_natCast, getD_at bs u hub] at HRN
            clear f0 f1 HGO
            generalize bs[u].wn = wu at *
            go_wp2_with fail
            refine wp_region_noPanic ?_
            refine wp_region_held_drew (S := fun w' => w'.cell? ⟨b1, o1 + k * 2 + 1, none⟩ = some (.int .i64 b.wn) ∧ w'.cell? ⟨b1, o1 + u * 2 + 1, none⟩ = some (.int .i64 wu)) (by kernel_rfl) (⟨by simpa using E1, by simpa using F1⟩) (fun hHeld => ?_)
            refine takeL 0 (.int .i64 (4 : Nat)) rfl (by kernel_rfl) (by kernel_rfl) (by kernel_rfl) (fun _ _ _ h => h) (Or.inl ⟨rfl, fun _ _ => rfl⟩) hHeld ?_
            try simp only [Act.put, List.setIfInBounds_toArray, List.set_cons_zero, List.set_cons_succ]
            refine takeL 1 (.bool true) rfl (by kernel_rfl) (by kernel_rfl) (by kernel_rfl) (fun _ _ _ h => h) (Or.inl ⟨rfl, fun w9 hSw => by go_simp⟩) hHeld ?_
            try simp only [Act.put, List.setIfInBounds_toArray, List.set_cons_zero, List.set_cons_succ]
            refine takeL 2 (.bool true) rfl (by kernel_rfl) (by kernel_rfl) (by kernel_rfl) (fun _ _ _ h => h) (Or.inl ⟨rfl, fun _ _ => rfl⟩) hHeld ?_
            try simp only [Act.put, List.setIfInBounds_toArray, List.set_cons_zero, List.set_cons_succ]
            refine takeL 3 (.int .i64 (u : Int)) rfl (by kernel_rfl) (by kernel_rfl) (by kernel_rfl) (fun _ _ _ h => h) (Or.inl ⟨rfl, fun _ _ => rfl⟩) hHeld ?_
            try simp only [Act.put, List.setIfInBounds_toArray, List.set_cons_zero, List.set_cons_succ]
            refine takeL 4 (.bool false) rfl (by kernel_rfl) (by kernel_rfl) (by kernel_rfl) (fun _ _ _ h => h) (Or.inl ⟨rfl, fun w9 hSw => by go_simp⟩) hHeld ?_
            try simp only [Act.put, List.setIfInBounds_toArray, List.set_cons_zero, List.set_cons_succ]
            refine takeL 5 (.bool false) rfl (by kernel_rfl) (by kernel_rfl) (by kernel_rfl) (fun _ _ _ h => h) (Or.inl ⟨rfl, fun _ _ => rfl⟩) hHeld ?_
            try simp only [Act.put, List.setIfInBounds_toArray, List.set_cons_zero, List.set_cons_succ]
            refine takeL 6 (.slice (some ⟨b1, o1, none⟩) 4 cap) rfl (by kernel_rfl) (by kernel_rfl) (by kernel_rfl) (fun _ _ _ h => h) (Or.inl ⟨rfl, fun _ _ => rfl⟩) hHeld ?_
            try simp only [Act.put, List.setIfInBounds_toArray, List.set_cons_zero, List.set_cons_succ]
            refine takeL 7 (.int .i64 k) rfl (by kernel_rfl) (by kernel_rfl) (by kernel_rfl) (fun _ _ _ h => h) (Or.inl ⟨rfl, fun _ _ => rfl⟩) hHeld ?_
            try simp only [Act.put, List.setIfInBounds_toArray, List.set_cons_zero, List.set_cons_succ]
            refine takeL 8 (.pointer (some ⟨b1, o1 + k * 2, none⟩)) rfl (by kernel_rfl) (by kernel_rfl) (by kernel_rfl) (fun _ _ _ h => h) (Or.inl ⟨rfl, fun w9 hSw => by go_simp⟩) hHeld ?_
            try simp only [Act.put, List.setIfInBounds_toArray, List.set_cons_zero, List.set_cons_succ]
            refine takeL 9 (.pointer (some ⟨b1, o1 + k * 2 + 1, none⟩)) rfl (by kernel_rfl) (by kernel_rfl) (by kernel_rfl) (fun _ _ _ h => h) (Or.inl ⟨rfl, fun w9 hSw => by go_simp⟩) hHeld ?_
            try simp only [Act.put, List.setIfInBounds_toArray, List.set_cons_zero, List.set_cons_succ]
            refine takeL 10 (.int .i64 b.wn) rfl (by kernel_rfl) (by kernel_rfl) (by kernel_rfl) (fun _ _ _ h => h) (Or.inl ⟨rfl, fun w9 hSw => by have hc := hSw.1; go_simp⟩) hHeld ?_
            try simp only [Act.put, List.setIfInBounds_toArray, List.set_cons_zero, List.set_cons_succ]
            refine takeL 11 (.slice (some ⟨b1, o1, none⟩) 4 cap) rfl (by kernel_rfl) (by kernel_rfl) (by kernel_rfl) (fun _ _ _ h => h) (Or.inl ⟨rfl, fun _ _ => rfl⟩) hHeld ?_
            try simp only [Act.put, List.setIfInBounds_toArray, List.set_cons_zero, List.set_cons_succ]
            refine takeL 12 (.int .i64 u) rfl (by kernel_rfl) (by kernel_rfl) (by kernel_rfl) (fun _ _ _ h => h) (Or.inl ⟨rfl, fun _ _ => rfl⟩) hHeld ?_
            try simp only [Act.put, List.setIfInBounds_toArray, List.set_cons_zero, List.set_cons_succ]
            refine takeL 13 (.pointer (some ⟨b1, o1 + u * 2, none⟩)) rfl (by kernel_rfl) (by kernel_rfl) (by kernel_rfl) (fun _ _ _ h => h) (Or.inl ⟨rfl, fun w9 hSw => by go_simp⟩) hHeld ?_
            try simp only [Act.put, List.setIfInBounds_toArray, List.set_cons_zero, List.set_cons_succ]
            refine takeL 14 (.pointer (some ⟨b1, o1 + u * 2 + 1, none⟩)) rfl (by kernel_rfl) (by kernel_rfl) (by kernel_rfl) (fun _ _ _ h => h) (Or.inl ⟨rfl, fun w9 hSw => by go_simp⟩) hHeld ?_
            try simp only [Act.put, List.setIfInBounds_toArray, List.set_cons_zero, List.set_cons_succ]
            refine takeL 15 (.int .i64 wu) rfl (by kernel_rfl) (by kernel_rfl) (by kernel_rfl) (fun _ _ _ h => h) (Or.inl ⟨rfl, fun w9 hSw => by have hc := hSw.2; go_simp⟩) hHeld ?_
            try simp only [Act.put, List.setIfInBounds_toArray, List.set_cons_zero, List.set_cons_succ]
            refine takeL 16 (.bool (decide (b.wn < wu))) rfl (by kernel_rfl) (by kernel_rfl) (by kernel_rfl) (fun _ _ _ h => h) (Or.inl ⟨rfl, fun w9 hSw => by go_simp⟩) hHeld ?_
            try simp only [Act.put, List.setIfInBounds_toArray, List.set_cons_zero, List.set_cons_succ]
            refine takeL 17 (.bool (decide (b.wn < wu))) rfl (by kernel_rfl) (by kernel_rfl) (by kernel_rfl) (fun _ _ _ h => h) (Or.inl ⟨rfl, fun w9 hSw => by go_simp⟩) hHeld ?_
            try simp only [Act.put, List.setIfInBounds_toArray, List.set_cons_zero, List.set_cons_succ]
            refine takeL 18 (.bool (decide (b.wn < wu))) rfl (by kernel_rfl) (by kernel_rfl) (by kernel_rfl) (fun _ _ _ h => h) (Or.inl ⟨rfl, fun w9 hSw => by go_simp⟩) hHeld ?_
            try simp only [Act.put, List.setIfInBounds_toArray, List.set_cons_zero, List.set_cons_succ]
            refine wpAnyH_done (by kernel_rfl) ?_ _
            refine NoPanic.normal ?_
            clear hHeld
            by_cases hm : b.wn < wu
            · have hd : decide (b.wn < wu) = true := by simpa using hm
              rw [if_pos ⟨by omega, .inr hm⟩] at HRN
              rw [hd]
              clear hm hd
              go_wp2
              go_roundw
              case rel => exact ⟨k + 1, k, by omega, by first | rfl | go_num, rfl, by omega, by omega, HRN, B2.drew⟩
              case measure => simp [intOf]; omega
            · have hd : decide (b.wn < wu) = false := by simpa using hm
              rw [if_neg (fun h => h.2.elim (fun h => by omega) hm)] at HRN
              rw [hd]
              clear hm hd
              go_wp2
              go_roundw
              case rel => exact ⟨k + 1, u, by omega, by first | rfl | go_num, rfl, by omega, by omega, HRN, B2.drew⟩
              case measure => simp [intOf]; omega
end Go.Proofs.Ytcmklcfedeeahaa.SpecH

/-
  Plain lists: the last record of an address, what lives, steps, what they do, what happens. Nothing here walks the program.
-/
namespace Go.Proofs.Ytcmklcfedeeahaa.Pl
open Go.ChangeShapes Go.WideShapes Go.ChangeAt Go.RowKit OkA Big Fl ImplB ImplF ImplS Own ImplT ImplU SpecA SpecB SpecC SpecD SpecW SpecF SpecG SpecH Ok2
set_option linter.unusedVariables false
set_option linter.unusedSimpArgs false

/-- A record. -/
structure Rc where
  k : Int
  s : Int
  a : Int
  v : Int
def zRc : Rc := ⟨0, 0, 0, 0⟩
def rcC (r : Rc) : List Value := [.int .i64 r.k, .int .i64 r.s, .int .i64 r.a, .int .i64 r.v]
def pgRc (p : Pg) : Rc := ⟨p.k, p.s, p.a, p.v⟩
def eqRc (r q : Rc) : Bool := r.k == q.k && r.s == q.s && r.a == q.a && r.v == q.v
theorem eqRc_iff (r q : Rc) : eqRc r q = true ↔ r = q := by
  cases r; cases q; simp [eqRc, and_assoc]
/-- The page is a later record of the address. -/
def laterB (addr : Int) (o : Rc) (p : Pg) : Bool := p.st == 1 && p.a == addr && decide (o.s < p.s)
def lastS (addr : Int) (o : Rc) (p : Pg) : Rc := if laterB addr o p then pgRc p else o
def lastP (addr : Int) (o : Rc) (ps : List Pg) : Rc := ps.foldl (lastS addr) o
def lastF (addr : Int) (o : Rc) (bs : List Bk) : Rc := bs.foldl (fun o b => lastP addr o b.ps) o
def lastR (bs : List Bk) (addr : Int) : Rc := lastF addr zRc bs
def lastO (bs : List Bk) (addr : Int) : Bool := decide (0 < (lastR bs addr).s)
theorem lastP_take (addr : Int) (o : Rc) (ps : List Pg) (j : Nat) (hj : j < ps.length) : lastP addr o (ps.take (j + 1)) = lastS addr (lastP addr o (ps.take j)) ps[j] := by
  unfold lastP
  rw [List.take_succ_eq_append_getElem hj, List.foldl_append]; rfl
theorem lastF_take (addr : Int) (o : Rc) (bs : List Bk) (j : Nat) (hj : j < bs.length) : lastF addr o (bs.take (j + 1)) = lastP addr (lastF addr o (bs.take j)) bs[j].ps := by
  unfold lastF
  rw [List.take_succ_eq_append_getElem hj, List.foldl_append]; rfl
/-- The page has the last record of its address. -/
def liveB (bs : List Bk) (p : Pg) : Bool := p.st == 1 && eqRc (lastR bs p.a) (pgRc p)

/-- A step. -/
structure Stp where
  kind : Int
  addr : Int
  val : Int
  blk : Int
  r : Rc
def stC (x : Stp) : List Value := [.int .i64 x.kind, .int .i64 x.addr, .int .i64 x.val, .int .i64 x.blk, .int .i64 x.r.k, .int .i64 x.r.s, .int .i64 x.r.a, .int .i64 x.r.v]
def stsC (l : List Stp) : List Value := l.flatMap stC
theorem len_stsC (l : List Stp) : (stsC l).length = l.length * 8 := by
  unfold stsC; induction l with
  | nil => rfl
  | cons x r ih => simp only [List.flatMap_cons, List.length_append, ih, List.length_cons, stC, List.length_nil]; omega
def zSt : Stp := ⟨0, 0, 0, 0, zRc⟩
def diskS (addr val : Int) : Stp := ⟨1, addr, val, 0, zRc⟩
def wipeS (b : Int) : Stp := ⟨2, 0, 0, b, zRc⟩
def writeS (b : Int) (r : Rc) : Stp := ⟨3, 0, 0, b, r⟩
/-- The slow disk is told what is dirty and lives on these pages. -/
def tellP (bs : List Bk) (ps : List Pg) : List Stp := ps.filterMap fun p => if liveB bs p && p.k == 1 then some (diskS p.a p.v) else none
def oldB (bs : List Bk) : Nat := oldN bs 3
def roomL (bs : List Bk) : List Stp := if (openR bs).2 then [] else tellP bs (bs.getD (oldB bs) zBk).ps ++ [wipeS (oldB bs)]
def roomB (bs : List Bk) : Int := if (openR bs).2 then (openR bs).1 else oldB bs
def roomO (bs : List Bk) : Bool := (openR bs).2 || decide ((bs.getD (oldB bs) zBk).wn < 200)
def writeP (bs : List Bk) (kind addr val : Int) : List Stp :=
  if roomO bs && recB kind (mostB bs + 1) addr val then roomL bs ++ [writeS (roomB bs) ⟨kind, mostB bs + 1, addr, val⟩] else []
def dirtyB (bs : List Bk) (addr : Int) : Bool := lastO bs addr && (lastR bs addr).k == 1
def readI (bs : List Bk) (dk : List Int) (addr : Int) : Int := if lastO bs addr then (lastR bs addr).v else dk.getD (addr - 1).toNat 0
def flushP (bs : List Bk) (dk : List Int) (addr : Int) : List Stp :=
  if inB addr 1 6 && dirtyB bs addr then (if (writeP bs 2 addr (readI bs dk addr)).isEmpty then [] else diskS addr (readI bs dk addr) :: writeP bs 2 addr (readI bs dk addr)) else []
def fillP (bs : List Bk) (dk : List Int) (addr : Int) : List Stp :=
  if inB addr 1 6 && !lastO bs addr then writeP bs 2 addr (dk.getD (addr - 1).toNat 0) else []

/-- A step that can be done without harm. -/
def stpB (x : Stp) : Bool := if x.kind = 1 then inB x.addr 1 6 else if x.kind = 2 then inB x.blk 0 3 else if x.kind = 3 then inB x.blk 0 3 && recB x.r.k x.r.s x.r.a x.r.v else true
def wrF (bs : List Bk) (k : Nat) (r : Rc) (torn : Bool) : List Bk := if wrN bs k r.s then bs else wrL bs k (pgW torn r.k r.s r.a r.v)
def wiF (bs : List Bk) (k : Nat) (torn : Bool) : List Bk := if wiN bs k then bs else wiL bs k torn
def doF (bs : List Bk) (x : Stp) (torn : Bool) : List Bk := if x.kind = 2 then wiF bs x.blk.toNat torn else if x.kind = 3 then wrF bs x.blk.toNat x.r torn else bs
def doD (dk : List Int) (x : Stp) (torn : Bool) : List Int := if x.kind = 1 then (if torn then dk else dk.set (x.addr - 1).toNat x.val) else dk
theorem okB_wrF (bs : List Bk) (k : Nat) (hk : k < 4) (hok : okB bs = true) (torn : Bool) (r : Rc) (hr : recB r.k r.s r.a r.v = true) : okB (wrF bs k r torn) = true := by
  unfold wrF
  cases h : wrN bs k r.s
  · exact okB_wr bs k hk hok torn _ _ _ _ hr h
  · exact hok
theorem okB_wiF (bs : List Bk) (k : Nat) (hk : k < 4) (hok : okB bs = true) (torn : Bool) : okB (wiF bs k torn) = true := by
  unfold wiF
  cases h : wiN bs k
  · exact okB_wi bs k hk hok torn h
  · exact hok
theorem okB_doF (bs : List Bk) (x : Stp) (torn : Bool) (hok : okB bs = true) (hx : stpB x = true) : okB (doF bs x torn) = true := by
  unfold doF; unfold stpB at hx
  by_cases h2 : x.kind = 2
  · rw [if_pos h2]
    rw [if_neg (by omega), if_pos h2] at hx
    simp [inB] at hx
    exact okB_wiF bs _ (by omega) hok torn
  · rw [if_neg h2]
    by_cases h3 : x.kind = 3
    · rw [if_pos h3]
      rw [if_neg (by omega), if_neg h2, if_pos h3] at hx
      simp [inB] at hx
      exact okB_wrF bs _ (by omega) hok torn _ hx.2
    · rw [if_neg h3]; exact hok
theorem len_doD (dk : List Int) (x : Stp) (torn : Bool) : (doD dk x torn).length = dk.length := by
  unfold doD; split
  · split <;> simp
  · rfl
def toF (bs : List Bk) : List Stp → List Bk | [] => bs | x :: r => toF (doF bs x false) r
def toD (dk : List Int) : List Stp → List Int | [] => dk | x :: r => toD (doD dk x false) r
end Go.Proofs.Ytcmklcfedeeahaa.Pl

/-
  Plain lists: the written pages one behind the other, and what is reckoned of them: the last record of an address, the least and the greatest number of each block. Nothing here walks the program.
-/
namespace Go.Proofs.Ytcmklcfedeeahaa.FindP
open Go.ChangeShapes Go.WideShapes Go.ChangeAt Go.RowKit OkA Big Fl ImplB ImplF ImplS Own ImplT ImplU SpecA SpecB SpecC SpecD SpecW SpecF SpecG SpecH Ok2 Pl
set_option linter.unusedVariables false
set_option linter.unusedSimpArgs false

/-- A page that is written, and on which block. -/
abbrev Wr := Fin 4 × Rc
def wrO (i : Fin 4) (p : Pg) : List Wr := if p.st = 1 then [(i, pgRc p)] else []
def wrP (i : Fin 4) (ps : List Pg) : List Wr := ps.flatMap (wrO i)
def blks (bs : List Bk) : List (Fin 4 × Bk) := (List.finRange 4).zip bs
def wrA (l : List (Fin 4 × Bk)) : List Wr := l.flatMap fun x => wrP x.1 x.2.ps
theorem wrP_take (i : Fin 4) (ps : List Pg) (j : Nat) (hj : j < ps.length) : wrP i (ps.take (j + 1)) = wrP i (ps.take j) ++ wrO i ps[j] := by
  unfold wrP
  rw [List.take_succ_eq_append_getElem hj, List.flatMap_append]; simp
theorem wrA_take (l : List (Fin 4 × Bk)) (k : Nat) (hk : k < l.length) : wrA (l.take (k + 1)) = wrA (l.take k) ++ wrP l[k].1 l[k].2.ps := by
  unfold wrA
  rw [List.take_succ_eq_append_getElem hk, List.flatMap_append]; simp
theorem blks_len (bs : List Bk) (h : bs.length = 4) : (blks bs).length = 4 := by simp [blks, h]
theorem blks_at (bs : List Bk) (h : bs.length = 4) (k : Nat) (hk : k < 4) : (blks bs)[k]'(by rw [blks_len bs h]; exact hk) = (⟨k, hk⟩, bs[k]'(by omega)) := by
  simp [blks]
theorem wrO_len (i : Fin 4) (p : Pg) : (wrO i p).length ≤ 1 := by unfold wrO; split <;> simp
theorem wrP_len (i : Fin 4) (ps : List Pg) : (wrP i ps).length ≤ ps.length := by
  induction ps with
  | nil => simp [wrP]
  | cons p r ih =>
    have := wrO_len i p
    simp only [wrP, List.flatMap_cons, List.length_append, List.length_cons] at ih ⊢
    omega
theorem wrA_len (l : List (Fin 4 × Bk)) (n : Nat) (h : ∀ x ∈ l, x.2.ps.length ≤ n) : (wrA l).length ≤ l.length * n := by
  induction l with
  | nil => simp [wrA]
  | cons x r ih =>
    have h1 := wrP_len x.1 x.2.ps
    have h2 := h x (by simp)
    have h3 := ih fun y hy => h y (by simp [hy])
    simp only [wrA, List.flatMap_cons, List.length_append, List.length_cons, Nat.add_mul] at h3 ⊢
    omega

/-! The last record of an address. -/
def lstS (addr : Int) (o r : Rc) : Rc := if r.a = addr ∧ o.s < r.s then r else o
def lstW (addr : Int) (o : Rc) (l : List Wr) : Rc := l.foldl (fun o x => lstS addr o x.2) o
theorem lstW_app (addr : Int) (o : Rc) (l m : List Wr) : lstW addr o (l ++ m) = lstW addr (lstW addr o l) m := by simp [lstW]
theorem lstW_one (addr : Int) (o : Rc) (l : List Wr) (x : Wr) : lstW addr o (l ++ [x]) = lstS addr (lstW addr o l) x.2 := by simp [lstW]
theorem lstW_P (addr : Int) (i : Fin 4) (ps : List Pg) : ∀ o, lstW addr o (wrP i ps) = lastP addr o ps := by
  induction ps with
  | nil => intro o; rfl
  | cons p r ih =>
    intro o
    have e : wrP i (p :: r) = wrO i p ++ wrP i r := rfl
    rw [e, lstW_app, ih]
    show lastP addr (lstW addr o (wrO i p)) r = lastP addr (lastS addr o p) r
    congr 1
    unfold wrO lastS laterB
    by_cases h1 : p.st = 1
    · rw [if_pos h1]
      simp only [lstW, List.foldl_cons, List.foldl_nil, lstS]
      by_cases h2 : (pgRc p).a = addr ∧ o.s < (pgRc p).s
      · rw [if_pos h2, if_pos (by simp [h1]; exact h2)]
      · rw [if_neg h2, if_neg (by simp [h1]; intro h; have := fun h' => h2 ⟨h, h'⟩; simpa [pgRc] using this)]
    · rw [if_neg h1, if_neg (by simp [h1])]; rfl
theorem lstW_A (addr : Int) (l : List (Fin 4 × Bk)) : ∀ o, lstW addr o (wrA l) = lastF addr o (l.map (·.2)) := by
  induction l with
  | nil => intro o; rfl
  | cons x r ih =>
    intro o
    have e : wrA (x :: r) = wrP x.1 x.2.ps ++ wrA r := rfl
    rw [e, lstW_app, ih, lstW_P]; rfl
theorem blks_map (bs : List Bk) (h : bs.length = 4) : (blks bs).map (·.2) = bs := by
  unfold blks
  rw [List.map_snd_zip]
  simp [h]
theorem lstW_all (addr : Int) (bs : List Bk) (h : bs.length = 4) : lstW addr zRc (wrA (blks bs)) = lastR bs addr := by
  rw [lstW_A, blks_map bs h]; rfl

/-! The least and the greatest number of each block. -/
abbrev Sp := Int × Int
def spC (x : Sp) : List Value := [.int .i64 x.1, .int .i64 x.2]
def spsC (l : List Sp) : List Value := l.flatMap spC
theorem len_spsC (l : List Sp) : (spsC l).length = l.length * 2 := by
  unfold spsC; induction l with
  | nil => rfl
  | cons x r ih => simp only [List.flatMap_cons, List.length_append, ih, List.length_cons, spC, List.length_nil]; omega
def withS (x : Sp) (s : Int) : Sp := if x.2 = 0 then (s, s) else (if s < x.1 then s else x.1, if x.2 < s then s else x.2)
def spS (l : List Sp) (x : Wr) : List Sp := l.set x.1 (withS (l.getD x.1 (0, 0)) x.2.s)
def spW (l : List Sp) (xs : List Wr) : List Sp := xs.foldl spS l
def zSp : List Sp := [(0, 0), (0, 0), (0, 0), (0, 0)]
theorem spW_one (l : List Sp) (xs : List Wr) (x : Wr) : spW l (xs ++ [x]) = spS (spW l xs) x := by simp [spW]
theorem spW_app (l : List Sp) (xs ys : List Wr) : spW l (xs ++ ys) = spW (spW l xs) ys := by simp [spW]
theorem spS_len (l : List Sp) (x : Wr) : (spS l x).length = l.length := by simp [spS]
theorem spW_len (l : List Sp) (xs : List Wr) : (spW l xs).length = l.length := by
  unfold spW
  induction xs generalizing l with
  | nil => rfl
  | cons x r ih => rw [List.foldl_cons, ih, spS_len]
/-- What one block's numbers are, from which to which. -/
def spP (x : Sp) (ps : List Pg) : Sp := (seqsP ps).foldl withS x
def spB (b : Bk) : Sp := spP (0, 0) b.ps
theorem spW_P (i : Fin 4) (ps : List Pg) : ∀ l : List Sp, l.length = 4 → spW l (wrP i ps) = l.set i (spP (l.getD i (0, 0)) ps) := by
  induction ps with
  | nil =>
    intro l h
    have hi : (i : Nat) < l.length := by omega
    show l = l.set i ((seqsP []).foldl withS (l.getD i (0, 0)))
    simp [seqsP, hi]
  | cons p r ih =>
    intro l h
    have hi : (i : Nat) < l.length := by omega
    have e : wrP i (p :: r) = wrO i p ++ wrP i r := rfl
    rw [e, spW_app]
    unfold wrO
    by_cases h1 : p.st = 1
    · rw [if_pos h1]
      have e2 : spW l [(i, pgRc p)] = l.set i (withS (l.getD i (0, 0)) p.s) := rfl
      rw [e2, ih _ (by simpa using h)]
      simp [spP, seqsP, List.filterMap_cons, seqP_w h1, hi]
    · rw [if_neg h1]
      have e2 : spW l [] = l := rfl
      rw [e2, ih _ h]
      simp [spP, seqsP, List.filterMap_cons, seqP_n h1]
theorem spW_all (bs : List Bk) (h : bs.length = 4) : spW zSp (wrA (blks bs)) = bs.map spB := by
  obtain ⟨a, b, c, d, rfl⟩ := list_four h
  have e : wrA (blks [a, b, c, d]) = wrP 0 a.ps ++ (wrP 1 b.ps ++ (wrP 2 c.ps ++ (wrP 3 d.ps ++ []))) := rfl
  rw [e, List.append_nil, spW_app, spW_P 0 a.ps zSp rfl, spW_app, spW_P 1 b.ps _ (by simp [zSp]), spW_app, spW_P 2 c.ps _ (by simp [zSp]), spW_P 3 d.ps _ (by simp [zSp])]
  rfl

/-! The same, as the specification reckons it. -/
def lsS (n s : Int) : Int := if 0 < s ∧ (n = 0 ∨ s < n) then s else n
def leastN (ps : List Pg) : Int := ps.foldl (fun n p => lsS n p.s) 0
theorem leastN_take (ps : List Pg) (j : Nat) (hj : j < ps.length) : leastN (ps.take (j + 1)) = lsS (leastN (ps.take j)) ps[j].s := by
  unfold leastN
  rw [List.take_succ_eq_append_getElem hj, List.foldl_append]; rfl
/-- A page of an ok block has a number just if it is written. -/
theorem pg_seq {p : Pg} (h : pgB p = true) : (p.st = 1 ∧ 1 ≤ p.s ∧ p.s ≤ 600) ∨ (p.st ≠ 1 ∧ p.s = 0) := by
  unfold pgB at h
  by_cases h1 : p.st = 1
  · rw [if_pos h1] at h
    simp [recB, numB, inB] at h
    exact .inl ⟨h1, by omega, by omega⟩
  · rw [if_neg h1] at h
    have hn : noB p = true := by
      by_cases h0 : p.st = 0
      · rwa [if_pos h0] at h
      · rw [if_neg h0] at h
        by_cases h2 : p.st = 2
        · rwa [if_pos h2] at h
        · rw [if_neg h2] at h; cases h
    simp [noB] at hn
    exact .inr ⟨h1, by omega⟩
theorem sp_fold (ps : List Pg) (h : ∀ p ∈ ps, pgB p = true) : ∀ (n m : Int), 0 ≤ n → n ≤ m → (n = 0 ↔ m = 0) →
    spP (n, m) ps = (ps.foldl (fun n p => lsS n p.s) n, ps.foldl (fun m p => mx m p.s) m) ∧ 0 ≤ (spP (n, m) ps).1 ∧ (spP (n, m) ps).1 ≤ (spP (n, m) ps).2 ∧ ((spP (n, m) ps).1 = 0 ↔ (spP (n, m) ps).2 = 0) := by
  induction ps with
  | nil => intro n m h0 h1 h2; exact ⟨rfl, h0, h1, h2⟩
  | cons p r ih =>
    intro n m h0 h1 h2
    have ih' := ih fun q hq => h q (by simp [hq])
    rcases pg_seq (h p (by simp)) with ⟨hp, hs, _⟩ | ⟨hp, hs⟩
    · have e : spP (n, m) (p :: r) = spP (withS (n, m) p.s) r := by simp [spP, seqsP, List.filterMap_cons, seqP_w hp]
      have e1 : withS (n, m) p.s = (lsS n p.s, mx m p.s) := by
        unfold withS lsS mx
        by_cases hm : m = 0
        · have hn : n = 0 := h2.2 hm
          subst hm hn
          simp only [if_true]
          rw [if_pos (by refine ⟨by omega, ?_⟩; simp), if_pos (by omega)]
        · have hn : n ≠ 0 := fun q => hm (h2.1 q)
          simp only [hm, if_false]
          congr 1
          by_cases hl : p.s < n
          · rw [if_pos hl, if_pos ⟨by omega, .inr hl⟩]
          · rw [if_neg hl, if_neg (by omega)]
      rw [e, e1]
      simp only [List.foldl_cons]
      refine ih' _ _ ?_ ?_ ?_
      · unfold lsS; split <;> omega
      · unfold lsS mx; split <;> split <;> omega
      · unfold lsS mx; split <;> split <;> omega
    · have e : spP (n, m) (p :: r) = spP (n, m) r := by simp [spP, seqsP, List.filterMap_cons, seqP_n hp]
      have e1 : lsS n p.s = n := by unfold lsS; rw [if_neg (by omega)]
      have e2 : mx m p.s = m := by unfold mx; rw [if_neg (by omega)]
      rw [e]
      simp only [List.foldl_cons, e1, e2]
      exact ih' n m h0 h1 h2
theorem spB_eq {b : Bk} (h : ∀ p ∈ b.ps, pgB p = true) : spB b = (leastN b.ps, mostN b.ps) ∧ 0 ≤ leastN b.ps ∧ leastN b.ps ≤ mostN b.ps ∧ (leastN b.ps = 0 ↔ mostN b.ps = 0) := by
  have := sp_fold b.ps h 0 0 (by omega) (by omega) (by simp)
  have e : spB b = (leastN b.ps, mostN b.ps) := this.1
  have e2 : spP (0, 0) b.ps = (leastN b.ps, mostN b.ps) := this.1
  rw [e2] at this
  exact ⟨e, this.2⟩
theorem ok_pages {bs : List Bk} (h : okB bs = true) : ∀ b ∈ bs, ∀ p ∈ b.ps, pgB p = true := fun b hb => ((bkB_iff b).1 (((okB_iff bs).1 h).2.1 b hb)).2.2.1
end Go.Proofs.Ytcmklcfedeeahaa.FindP

/-
  Regions that draw their order and hold guards: an operation whose guard is a truth value that is not known, taken all the same. Nothing here speaks of the program.
-/
namespace Go.Proofs.Ytcmklcfedeeahaa.Gd
open Go.ChangeShapes Go.WideShapes Go.ChangeAt Go.RowKit Big
set_option linter.unusedVariables false
variable {P : Program} {ops : Array Oper} {o : Oper} {a : Act} {w : World} {Q : Exit → Act → World → Prop}

def onlyIf (b : Bool) (v : Value) : Value := if b then v else undef
theorem onlyIf_t (v : Value) : onlyIf true v = v := rfl
theorem onlyIf_f (v : Value) : onlyIf false v = undef := rfl
/-- An operation that only yields, under a guard b. -/
theorem takeG {l : List Oper} {md : Region.Mode} {S : World → Prop} (i : Nat) {oi : Oper} (b : Bool) (v : Value) {fuel : Nat} {listed : Array Bool} (hi : nth l i = some oi)
    (hs : Region.noSelect l.toArray = true) (hf : Region.free md l.toArray listed i = true) (hr : (Region.ready md l.toArray listed).contains i = true)
    (hQ : ∀ c a w, Q (.panic c) (a.put oi.dst (onlyIf b v)) w → Q (.panic c) a w) (hw : Region.wanted oi (yielded l.toArray a.tmps) = b)
    (hy : b = true → ∀ w, S w → (execOp a.eval oi).run P w = .ok (.value v) w) (hS : S w)
    (h : wpAnyH P md l.toArray Q S fuel (listed.setIfInBounds i true) (a.put oi.dst (onlyIf b v)) w) : wpAnyH P md l.toArray Q S (fuel + 1) listed a w := by
  refine takeL i (onlyIf b v) hi hs hf hr hQ ?_ hS h
  cases b
  · exact .inr ⟨hw, rfl⟩
  · exact .inl ⟨hw, hy rfl⟩
/-- A call under a guard b: where it is not made the world stands. -/
theorem callG {l : List Oper} {md : Region.Mode} {S : World → Prop} (i : Nat) {o : Oper} (b : Bool) (v : Value) {fuel : Nat} {listed : Array Bool} (hi : nth l i = some o) (hr : Region.ready md l.toArray listed = [i])
    (hw : Region.wanted o (yielded l.toArray a.tmps) = b) (hS : S w)
    (hy : b = true → ∀ K' : Act → World → Prop, Shut (∀ w', S w' → K' (a.put o.dst v) w') → Oper.wp P o a w K' Q)
    (h : ∀ w', S w' → wpAnyH P md l.toArray Q S fuel (listed.setIfInBounds i true) (a.put o.dst (onlyIf b v)) w') : wpAnyH P md l.toArray Q S (fuel + 1) listed a w := by
  refine wpAnyH_ready hr (by simp) (AllReadyH.cons (nth_spec l i o hi) (fun K hK => ?_) AllReadyH.nil)
  cases b
  · rw [if_neg (by rw [hw]; simp)]
    exact hK.out _ _ hS (fun _ => h w hS)
  · rw [if_pos hw]
    exact hy rfl K (fun w' hS' => hK.out _ _ hS' (fun _ => h w' hS'))
end Go.Proofs.Ytcmklcfedeeahaa.Gd

/-
  The program's finding of the block on which the next record is to be written.
-/
namespace Go.Proofs.Ytcmklcfedeeahaa.ImplO
open Go.ChangeShapes Go.WideShapes Go.ChangeAt Go.RowKit OkA Big Fl ImplB ImplF ImplS Own ImplT ImplU SpecA SpecB SpecC SpecD SpecW SpecF SpecG SpecH Ok2
set_option linter.unusedVariables false
set_option linter.unusedSimpArgs false
attribute [local go_sem ↓] Go.wp_at_zero Go.wp_at_succ

def begB (b : Bk) : Bool := inB (usedN b.ps) 1 3
set_option maxHeartbeats 400000 in
theorem begun_any (b : Bk) (h4 : b.ps.length = 4) (w : World) :
    Calls Try.prog 147 #[.agg (bkC b).toArray] w fun e w' => e = .returned (.bool (begB b)) ∧ Below w.heap.size w w' := by
  have r0 := rangeAt_new w (bkC b) 80
  have b0 : Below w.heap.size w (w.alloc (.cells (bkC b).toArray 80)) := (Below.refl _ _).alloc (Nat.le_refl _) _
  have HB : Hid (begB b = inB (usedN b.ps) 1 3) := rfl
  have HS := hide (size_bkl h4)
  have HI := hide (fun (w' : World) => within_any (usedN b.ps) 1 3 w')
  go_enter Try.func147, Try.ntmps147
  go_wp2_with (first | (refine wpList_box_big rfl _ _ rfl (bkC b).toArray rfl ?_) | (refine wpList_load_mid rfl 80 _ rfl w.heap.size 0 rfl (bkC b) _ r0 Try.underlying80 rfl (unhide HS) ?_))
  refine (used_any b h4 _).mono ?_
  rintro e w1 ⟨rfl, b1⟩
  have B1 := b0.trans (b1.mono b0.size)
  clear b0 b1 r0
  generalize inB (usedN b.ps) 1 3 = x at *
  go_wp2_with (go_at_call 84; refine (unhide HI _).mono ?_; rintro e w' ⟨rfl, hw'⟩; obtain rfl := hw'.symm)
  go_ret
  exact ⟨by rw [unhide HB]; rfl, B1⟩

/-- What the program tells of the blocks from the i-th on, if o is the best that was met so far (f: whether there is one). -/
def openG (bs : List Bk) : List Bk → Nat → Nat → Bool → Int × Bool
  | [], _, o, f => (o, f)
  | b :: r, i, o, f => if begB b then ((i : Int), true) else if usedN b.ps = 0 ∧ (f = false ∨ b.wn < (bs.getD o zBk).wn) then openG bs r (i + 1) i true else openG bs r (i + 1) o f
def openI (bs : List Bk) : Int × Bool := openG bs bs 0 0 false

set_option maxRecDepth 100000 in
set_option maxHeartbeats 1000000 in
theorem openK_any (bs : List Bk) (h4 : bs.length = 4) (hF : Fours bs) (w : World) :
    Calls Try.prog 120 #[.agg (fsC bs).toArray] w fun e w' => OpPost w (openI bs) e w' := by
  have r0 := rangeAt_new w (fsC bs) 82
  have b0 : Below w.heap.size w (w.alloc (.cells (fsC bs).toArray 82)) := (Below.refl _ _).alloc (Nat.le_refl _) _
  have HR0 : Hid (openG bs bs 0 0 false = openI bs) := rfl
  generalize openI bs = R at *
  go_enter Try.func120, Try.ntmps120
  go_wp2_with (first | (refine wpList_box_big rfl _ _ rfl (fsC bs).toArray rfl ?_) | (refine wpList_load_mid rfl 82 _ rfl w.heap.size 0 rfl (fsC bs) _ r0 Try.underlying82 rfl (size_fsl hF h4) ?_))
  generalize hw1 : w.alloc (.cells (fsC bs).toArray 82) = w1 at *
  have s1 : w.heap.size < w1.heap.size := by rw [← hw1]; simp
  have HRG := hide r0
  clear hw1 r0
  go_loopw [4, 5, 9] (fun p q i w' => ∃ (k o : Nat) (f : Bool), k ≤ 4 ∧ i = .int .i64 k ∧ p = .int .i64 (o : Nat) ∧ q = .bool f ∧ o < 4 ∧ Hid (openG bs (bs.drop k) k o f = R) ∧ Below w1.heap.size w1 w') (fun _ _ i _ => 4 - (intOf i).toNat)
  case atStart => exact ⟨0, 0, false, by omega, rfl, rfl, rfl, by omega, HR0, Below.refl _ _⟩
  case round =>
    obtain ⟨k, o, f, hk, rfl, rfl, rfl, ho, HR, bw⟩ := hrel
    have hsz := bw.size
    by_cases h0 : k = 4
    · subst h0
      have HE : Hid (R = ((o : Int), f)) := by
        show _ = _
        have := unhide HR
        rw [List.drop_eq_nil_of_le (by omega)] at this
        exact this.symm
      clear HR
      go_wp2
      go_ret2
      exact ⟨by rw [unhide HE]; rfl, b0.trans (bw.mono (by omega))⟩
    · have hlt : (k : Int) < 4 := by omega
      have hkb : k < bs.length := by omega
      have hob : o < bs.length := by omega
      have hlo : (0 : Int) ≤ (k : Int) := by omega
      have hoo : (0 : Int) ≤ (o : Int) := by omega
      have hol : (o : Int) < 4 := by omega
      have HE := hide (ext_fs hF k hkb)
      have hb4 : bs[k].ps.length = 4 := hF.at k hkb
      have HRK : Hid (openG bs (bs.drop k) k o f = if begB bs[k] then ((k : Int), true) else if usedN bs[k].ps = 0 ∧ (f = false ∨ bs[k].wn < bs[o].wn) then openG bs (bs.drop (k + 1)) (k + 1) k true else openG bs (bs.drop (k + 1)) (k + 1) o f) := by
        show _ = _
        rw [List.drop_eq_getElem_cons hkb]
        simp only [openG]
        rw [getD_at bs o hob]
      have rw1 := rangeAt_below (unhide HRG) bw s1
      have co := worn_bk (hF.at o hob) (sub_fs hF rw1 o hob)
      rw [unhide HRK] at HR
      clear HRK rw1
      generalize bs[k] = b at *
      generalize bs[o].wn = wo at *
      have rb := rangeAt_new wr (bkC b) 80
      have cb := worn_bk hb4 rb
      rw [Nat.zero_add] at cb
      have bw2 := bw.alloc hsz (.cells (bkC b).toArray 80)
      have co2 : (wr.alloc (.cells (bkC b).toArray 80)).cell? ⟨w.heap.size, o * 21 + 20, none⟩ = some (.int .i64 wo) := by
        rw [World.cell?_alloc_lt _ _ _ (by show w.heap.size < _; omega)]; exact co
      have sl : wr.heap.size < (wr.alloc (.cells (bkC b).toArray 80)).heap.size := by simp
      have HSB := hide (size_bkl hb4)
      have HCB := hide (fun (w' : World) => begun_any b hb4 w')
      have HCU := hide (fun (w' : World) => used_any b hb4 w')
      have hul := usedN_le b.ps
      have hu4 : usedN b.ps ≤ 4 := by omega
      clear hul co
      cases hbg : begB b
      rotate_left
      · rw [hbg] at HCB HR
        rw [if_pos rfl] at HR
        go_wp2_with (first | (refine wpList_index_big rfl 82 _ _ rfl (fsC bs).toArray _ (k : Int) rfl rfl 80 4 21 _ Try.underlying82 Try.underlying80 rfl (by kernel_rfl) hlo hlt (unhide HE) ?_) | (refine wpList_alloc_big rfl 80 rfl (bkC zBk).toArray zero_bk ?_) | (refine wpList_store_new rfl 80 _ _ rfl wr (bkC zBk).toArray (bkC b).toArray rfl rfl rfl (size_bk hb4) (same_bk hb4) (one_bk b) ?_) | (refine wpList_load_mid rfl 80 _ rfl wr.heap.size 0 rfl (bkC b) _ rb Try.underlying80 rfl (unhide HSB) ?_) | (go_at_call 147; refine (unhide HCB _).mono ?_; rintro e w3 ⟨rfl, b3⟩; clear rb cb co2))
        go_ret2
        exact ⟨by rw [← unhide HR]; rfl, b0.trans ((bw2.trans (b3.mono bw2.size)).mono (by omega))⟩
      rw [hbg] at HCB HR
      rw [if_neg (by simp)] at HR
      go_wp2_with (first | (refine wpList_index_big rfl 82 _ _ rfl (fsC bs).toArray _ (k : Int) rfl rfl 80 4 21 _ Try.underlying82 Try.underlying80 rfl (by kernel_rfl) hlo hlt (unhide HE) ?_) | (refine wpList_alloc_big rfl 80 rfl (bkC zBk).toArray zero_bk ?_) | (refine wpList_store_new rfl 80 _ _ rfl wr (bkC zBk).toArray (bkC b).toArray rfl rfl rfl (size_bk hb4) (same_bk hb4) (one_bk b) ?_) | (refine wpList_load_mid rfl 80 _ rfl wr.heap.size 0 rfl (bkC b) _ rb Try.underlying80 rfl (unhide HSB) ?_) | (go_at_call 147; refine (unhide HCB _).mono ?_; rintro e w3 ⟨rfl, b3⟩))
      have R3 := rangeAt_below rb b3 sl
      have C3 : w3.cell? ⟨w.heap.size, o * 21 + 20, none⟩ = some (.int .i64 wo) := (b3.cell (p := ⟨w.heap.size, o * 21 + 20, none⟩) (by show w.heap.size < _; omega)).trans co2
      have B3 := bw2.trans (b3.mono bw2.size)
      have s3 := b3.size
      clear rb cb co2 b3 bw2 HCB HE bw
      have sl3 : wr.heap.size < w3.heap.size := by omega
      have sw3 : w.heap.size < w3.heap.size := by omega
      clear sl s3
      generalize wr.heap.size = bb at *
      by_cases hu0 : usedN b.ps = 0
      · have g0 : ((usedN b.ps : Int) == 0) = true := by simp; omega
        cases f
        · rw [if_pos ⟨hu0, .inl rfl⟩] at HR
          have HU := hide hu0
          clear hu0
          refine wp_region_noPanic ?_
          refine wp_region_held_drew (S := fun w' => w'.rangeAt bb 0 (bkC b) ∧ w'.cell? ⟨w.heap.size, o * 21 + 20, none⟩ = some (.int .i64 wo)) (by kernel_rfl) (⟨by simpa using R3, by simpa using C3⟩) (fun hHeld => ?_)
          refine takeL 0 (_) rfl (by kernel_rfl) (by kernel_rfl) (by kernel_rfl) (fun _ _ _ h => h) (yieldsIf_load_mid rfl 80 _ rfl bb 0 rfl (bkC b) _ (fun _ h => h.1) Try.underlying80 rfl (unhide HSB)) hHeld ?_
          try simp only [Act.put, List.setIfInBounds_toArray, List.set_cons_zero, List.set_cons_succ]
          refine oneL 1 rfl (by kernel_rfl) rfl (fun K hK => ?_)
          go_simp
          refine (unhide HCU _).mono ?_
          rintro e w4 ⟨rfl, b4⟩
          go_wp2_with fail
          refine hK.out _ _ ⟨rangeAt_below hHeld.1 b4 (by simpa using sl3), by rw [b4.cell (p := ⟨w.heap.size, o * 21 + 20, none⟩) (by simpa using sw3)]; exact hHeld.2⟩ (fun hHeld => ?_)
          clear hK K
          try simp only [Act.put, List.setIfInBounds_toArray, List.set_cons_zero, List.set_cons_succ]
          refine takeL 2 (.bool true) rfl (by kernel_rfl) (by kernel_rfl) (by kernel_rfl) (fun _ _ _ h => h) (Or.inl ⟨rfl, fun w9 hSw => by go_simp⟩) hHeld ?_
          try simp only [Act.put, List.setIfInBounds_toArray, List.set_cons_zero, List.set_cons_succ]
          refine takeL 3 (.bool true) rfl (by kernel_rfl) (by kernel_rfl) (by kernel_rfl) (fun _ _ _ h => h) (Or.inl ⟨rfl, fun _ _ => rfl⟩) hHeld ?_
          try simp only [Act.put, List.setIfInBounds_toArray, List.set_cons_zero, List.set_cons_succ]
          refine takeL 4 (.bool false) rfl (by kernel_rfl) (by kernel_rfl) (by kernel_rfl) (fun _ _ _ h => h) (Or.inl ⟨rfl, fun _ _ => rfl⟩) hHeld ?_
          try simp only [Act.put, List.setIfInBounds_toArray, List.set_cons_zero, List.set_cons_succ]
          refine takeL 5 (.bool true) rfl (by kernel_rfl) (by kernel_rfl) (by kernel_rfl) (fun _ _ _ h => h) (Or.inl ⟨rfl, fun w9 hSw => by go_simp⟩) hHeld ?_
          try simp only [Act.put, List.setIfInBounds_toArray, List.set_cons_zero, List.set_cons_succ]
          refine takeL 6 (.bool true) rfl (by kernel_rfl) (by kernel_rfl) (by kernel_rfl) (fun _ _ _ h => h) (Or.inl ⟨rfl, fun _ _ => rfl⟩) hHeld ?_
          try simp only [Act.put, List.setIfInBounds_toArray, List.set_cons_zero, List.set_cons_succ]
          refine takeL 7 (undef) rfl (by kernel_rfl) (by kernel_rfl) (by kernel_rfl) (fun _ _ _ h => h) (Or.inr ⟨rfl, rfl⟩) hHeld ?_
          try simp only [Act.put, List.setIfInBounds_toArray, List.set_cons_zero, List.set_cons_succ]
          refine takeL 8 (undef) rfl (by kernel_rfl) (by kernel_rfl) (by kernel_rfl) (fun _ _ _ h => h) (Or.inr ⟨rfl, rfl⟩) hHeld ?_
          try simp only [Act.put, List.setIfInBounds_toArray, List.set_cons_zero, List.set_cons_succ]
          refine takeL 9 (undef) rfl (by kernel_rfl) (by kernel_rfl) (by kernel_rfl) (fun _ _ _ h => h) (Or.inr ⟨rfl, rfl⟩) hHeld ?_
          try simp only [Act.put, List.setIfInBounds_toArray, List.set_cons_zero, List.set_cons_succ]
          refine takeL 10 (undef) rfl (by kernel_rfl) (by kernel_rfl) (by kernel_rfl) (fun _ _ _ h => h) (Or.inr ⟨rfl, rfl⟩) hHeld ?_
          try simp only [Act.put, List.setIfInBounds_toArray, List.set_cons_zero, List.set_cons_succ]
          refine takeL 11 (undef) rfl (by kernel_rfl) (by kernel_rfl) (by kernel_rfl) (fun _ _ _ h => h) (Or.inr ⟨rfl, rfl⟩) hHeld ?_
          try simp only [Act.put, List.setIfInBounds_toArray, List.set_cons_zero, List.set_cons_succ]
          refine takeL 12 (undef) rfl (by kernel_rfl) (by kernel_rfl) (by kernel_rfl) (fun _ _ _ h => h) (Or.inr ⟨rfl, rfl⟩) hHeld ?_
          try simp only [Act.put, List.setIfInBounds_toArray, List.set_cons_zero, List.set_cons_succ]
          refine takeL 13 (undef) rfl (by kernel_rfl) (by kernel_rfl) (by kernel_rfl) (fun _ _ _ h => h) (Or.inr ⟨rfl, rfl⟩) hHeld ?_
          try simp only [Act.put, List.setIfInBounds_toArray, List.set_cons_zero, List.set_cons_succ]
          refine takeL 14 (.bool true) rfl (by kernel_rfl) (by kernel_rfl) (by kernel_rfl) (fun _ _ _ h => h) (Or.inl ⟨rfl, fun w9 hSw => by go_simp⟩) hHeld ?_
          try simp only [Act.put, List.setIfInBounds_toArray, List.set_cons_zero, List.set_cons_succ]
          refine takeL 15 (.bool true) rfl (by kernel_rfl) (by kernel_rfl) (by kernel_rfl) (fun _ _ _ h => h) (Or.inl ⟨rfl, fun w9 hSw => by go_simp⟩) hHeld ?_
          try simp only [Act.put, List.setIfInBounds_toArray, List.set_cons_zero, List.set_cons_succ]
          refine wpAnyH_done (by kernel_rfl) ?_ _
          refine NoPanic.normal ?_
          have B4 := B3.drew.trans (b4.mono B3.drew.size)
          clear hHeld b4 R3 C3 B3
          go_wp2
          go_roundw
          case rel => exact ⟨k + 1, k, true, by omega, by first | rfl | go_num, rfl, rfl, by omega, HR, B4⟩
          case measure => simp [intOf]; omega
        · by_cases hm : b.wn < wo
          · rw [if_pos ⟨hu0, .inr hm⟩] at HR
            have hd : decide (b.wn < wo) = true := by simpa using hm
            clear hu0 hm
            refine wp_region_noPanic ?_
            refine wp_region_held_drew (S := fun w' => w'.rangeAt bb 0 (bkC b) ∧ w'.cell? ⟨w.heap.size, o * 21 + 20, none⟩ = some (.int .i64 wo)) (by kernel_rfl) (⟨by simpa using R3, by simpa using C3⟩) (fun hHeld => ?_)
            refine takeL 0 (_) rfl (by kernel_rfl) (by kernel_rfl) (by kernel_rfl) (fun _ _ _ h => h) (yieldsIf_load_mid rfl 80 _ rfl bb 0 rfl (bkC b) _ (fun _ h => h.1) Try.underlying80 rfl (unhide HSB)) hHeld ?_
            try simp only [Act.put, List.setIfInBounds_toArray, List.set_cons_zero, List.set_cons_succ]
            refine oneL 1 rfl (by kernel_rfl) rfl (fun K hK => ?_)
            go_simp
            refine (unhide HCU _).mono ?_
            rintro e w4 ⟨rfl, b4⟩
            go_wp2_with fail
            refine hK.out _ _ ⟨rangeAt_below hHeld.1 b4 (by simpa using sl3), by rw [b4.cell (p := ⟨w.heap.size, o * 21 + 20, none⟩) (by simpa using sw3)]; exact hHeld.2⟩ (fun hHeld => ?_)
            clear hK K
            try simp only [Act.put, List.setIfInBounds_toArray, List.set_cons_zero, List.set_cons_succ]
            refine takeL 2 (.bool true) rfl (by kernel_rfl) (by kernel_rfl) (by kernel_rfl) (fun _ _ _ h => h) (Or.inl ⟨rfl, fun w9 hSw => by go_simp⟩) hHeld ?_
            try simp only [Act.put, List.setIfInBounds_toArray, List.set_cons_zero, List.set_cons_succ]
            refine takeL 3 (.bool true) rfl (by kernel_rfl) (by kernel_rfl) (by kernel_rfl) (fun _ _ _ h => h) (Or.inl ⟨rfl, fun _ _ => rfl⟩) hHeld ?_
            try simp only [Act.put, List.setIfInBounds_toArray, List.set_cons_zero, List.set_cons_succ]
            refine takeL 4 (.bool true) rfl (by kernel_rfl) (by kernel_rfl) (by kernel_rfl) (fun _ _ _ h => h) (Or.inl ⟨rfl, fun _ _ => rfl⟩) hHeld ?_
            try simp only [Act.put, List.setIfInBounds_toArray, List.set_cons_zero, List.set_cons_succ]
            refine takeL 5 (.bool false) rfl (by kernel_rfl) (by kernel_rfl) (by kernel_rfl) (fun _ _ _ h => h) (Or.inl ⟨rfl, fun w9 hSw => by go_simp⟩) hHeld ?_
            try simp only [Act.put, List.setIfInBounds_toArray, List.set_cons_zero, List.set_cons_succ]
            refine takeL 6 (.bool false) rfl (by kernel_rfl) (by kernel_rfl) (by kernel_rfl) (fun _ _ _ h => h) (Or.inl ⟨rfl, fun _ _ => rfl⟩) hHeld ?_
            try simp only [Act.put, List.setIfInBounds_toArray, List.set_cons_zero, List.set_cons_succ]
            refine takeL 7 (.pointer (some ⟨bb, 20, none⟩)) rfl (by kernel_rfl) (by kernel_rfl) (by kernel_rfl) (fun _ _ _ h => h) (Or.inl ⟨rfl, fun w9 hSw => by go_simp⟩) hHeld ?_
            try simp only [Act.put, List.setIfInBounds_toArray, List.set_cons_zero, List.set_cons_succ]
            refine takeL 8 (.int .i64 b.wn) rfl (by kernel_rfl) (by kernel_rfl) (by kernel_rfl) (fun _ _ _ h => h) (Or.inl ⟨rfl, fun w9 hSw => by have hc := worn_bk hb4 hSw.1; rw [Nat.zero_add] at hc; go_simp⟩) hHeld ?_
            try simp only [Act.put, List.setIfInBounds_toArray, List.set_cons_zero, List.set_cons_succ]
            refine takeL 9 (.int .i64 (o : Nat)) rfl (by kernel_rfl) (by kernel_rfl) (by kernel_rfl) (fun _ _ _ h => h) (Or.inl ⟨rfl, fun _ _ => rfl⟩) hHeld ?_
            try simp only [Act.put, List.setIfInBounds_toArray, List.set_cons_zero, List.set_cons_succ]
            refine takeL 10 (.pointer (some ⟨w.heap.size, o * 21, none⟩)) rfl (by kernel_rfl) (by kernel_rfl) (by kernel_rfl) (fun _ _ _ h => h) (Or.inl ⟨rfl, fun w9 hSw => by go_simp⟩) hHeld ?_
            try simp only [Act.put, List.setIfInBounds_toArray, List.set_cons_zero, List.set_cons_succ]
            refine takeL 11 (.pointer (some ⟨w.heap.size, o * 21 + 20, none⟩)) rfl (by kernel_rfl) (by kernel_rfl) (by kernel_rfl) (fun _ _ _ h => h) (Or.inl ⟨rfl, fun w9 hSw => by go_simp⟩) hHeld ?_
            try simp only [Act.put, List.setIfInBounds_toArray, List.set_cons_zero, List.set_cons_succ]
            refine takeL 12 (.int .i64 wo) rfl (by kernel_rfl) (by kernel_rfl) (by kernel_rfl) (fun _ _ _ h => h) (Or.inl ⟨rfl, fun w9 hSw => by have hc := hSw.2; go_simp⟩) hHeld ?_
            try simp only [Act.put, List.setIfInBounds_toArray, List.set_cons_zero, List.set_cons_succ]
            refine takeL 13 (.bool (decide (b.wn < wo))) rfl (by kernel_rfl) (by kernel_rfl) (by kernel_rfl) (fun _ _ _ h => h) (Or.inl ⟨rfl, fun w9 hSw => by go_simp⟩) hHeld ?_
            try simp only [Act.put, List.setIfInBounds_toArray, List.set_cons_zero, List.set_cons_succ]
            refine takeL 14 (.bool (decide (b.wn < wo))) rfl (by kernel_rfl) (by kernel_rfl) (by kernel_rfl) (fun _ _ _ h => h) (Or.inl ⟨rfl, fun w9 hSw => by go_simp⟩) hHeld ?_
            try simp only [Act.put, List.setIfInBounds_toArray, List.set_cons_zero, List.set_cons_succ]
            refine takeL 15 (.bool (decide (b.wn < wo))) rfl (by kernel_rfl) (by kernel_rfl) (by kernel_rfl) (fun _ _ _ h => h) (Or.inl ⟨rfl, fun w9 hSw => by go_simp⟩) hHeld ?_
            try simp only [Act.put, List.setIfInBounds_toArray, List.set_cons_zero, List.set_cons_succ]
            refine wpAnyH_done (by kernel_rfl) ?_ _
            refine NoPanic.normal ?_
            have B4 := B3.drew.trans (b4.mono B3.drew.size)
            clear hHeld b4 R3 C3 B3
            rw [hd]
            go_wp2
            go_roundw
            case rel => exact ⟨k + 1, k, true, by omega, by first | rfl | go_num, rfl, rfl, by omega, HR, B4⟩
            case measure => simp [intOf]; omega
          · rw [if_neg (fun h => h.2.elim (fun h => by cases h) hm)] at HR
            have hd : decide (b.wn < wo) = false := by simpa using hm
            clear hu0 hm
            refine wp_region_noPanic ?_
            refine wp_region_held_drew (S := fun w' => w'.rangeAt bb 0 (bkC b) ∧ w'.cell? ⟨w.heap.size, o * 21 + 20, none⟩ = some (.int .i64 wo)) (by kernel_rfl) (⟨by simpa using R3, by simpa using C3⟩) (fun hHeld => ?_)
            refine takeL 0 (_) rfl (by kernel_rfl) (by kernel_rfl) (by kernel_rfl) (fun _ _ _ h => h) (yieldsIf_load_mid rfl 80 _ rfl bb 0 rfl (bkC b) _ (fun _ h => h.1) Try.underlying80 rfl (unhide HSB)) hHeld ?_
            try simp only [Act.put, List.setIfInBounds_toArray, List.set_cons_zero, List.set_cons_succ]
            refine oneL 1 rfl (by kernel_rfl) rfl (fun K hK => ?_)
            go_simp
            refine (unhide HCU _).mono ?_
            rintro e w4 ⟨rfl, b4⟩
            go_wp2_with fail
            refine hK.out _ _ ⟨rangeAt_below hHeld.1 b4 (by simpa using sl3), by rw [b4.cell (p := ⟨w.heap.size, o * 21 + 20, none⟩) (by simpa using sw3)]; exact hHeld.2⟩ (fun hHeld => ?_)
            clear hK K
            try simp only [Act.put, List.setIfInBounds_toArray, List.set_cons_zero, List.set_cons_succ]
            refine takeL 2 (.bool true) rfl (by kernel_rfl) (by kernel_rfl) (by kernel_rfl) (fun _ _ _ h => h) (Or.inl ⟨rfl, fun w9 hSw => by go_simp⟩) hHeld ?_
            try simp only [Act.put, List.setIfInBounds_toArray, List.set_cons_zero, List.set_cons_succ]
            refine takeL 3 (.bool true) rfl (by kernel_rfl) (by kernel_rfl) (by kernel_rfl) (fun _ _ _ h => h) (Or.inl ⟨rfl, fun _ _ => rfl⟩) hHeld ?_
            try simp only [Act.put, List.setIfInBounds_toArray, List.set_cons_zero, List.set_cons_succ]
            refine takeL 4 (.bool true) rfl (by kernel_rfl) (by kernel_rfl) (by kernel_rfl) (fun _ _ _ h => h) (Or.inl ⟨rfl, fun _ _ => rfl⟩) hHeld ?_
            try simp only [Act.put, List.setIfInBounds_toArray, List.set_cons_zero, List.set_cons_succ]
            refine takeL 5 (.bool false) rfl (by kernel_rfl) (by kernel_rfl) (by kernel_rfl) (fun _ _ _ h => h) (Or.inl ⟨rfl, fun w9 hSw => by go_simp⟩) hHeld ?_
            try simp only [Act.put, List.setIfInBounds_toArray, List.set_cons_zero, List.set_cons_succ]
            refine takeL 6 (.bool false) rfl (by kernel_rfl) (by kernel_rfl) (by kernel_rfl) (fun _ _ _ h => h) (Or.inl ⟨rfl, fun _ _ => rfl⟩) hHeld ?_
            try simp only [Act.put, List.setIfInBounds_toArray, List.set_cons_zero, List.set_cons_succ]
            refine takeL 7 (.pointer (some ⟨bb, 20, none⟩)) rfl (by kernel_rfl) (by kernel_rfl) (by kernel_rfl) (fun _ _ _ h => h) (Or.inl ⟨rfl, fun w9 hSw => by go_simp⟩) hHeld ?_
            try simp only [Act.put, List.setIfInBounds_toArray, List.set_cons_zero, List.set_cons_succ]
            refine takeL 8 (.int .i64 b.wn) rfl (by kernel_rfl) (by kernel_rfl) (by kernel_rfl) (fun _ _ _ h => h) (Or.inl ⟨rfl, fun w9 hSw => by have hc := worn_bk hb4 hSw.1; rw [Nat.zero_add] at hc; go_simp⟩) hHeld ?_
            try simp only [Act.put, List.setIfInBounds_toArray, List.set_cons_zero, List.set_cons_succ]
            refine takeL 9 (.int .i64 (o : Nat)) rfl (by kernel_rfl) (by kernel_rfl) (by kernel_rfl) (fun _ _ _ h => h) (Or.inl ⟨rfl, fun _ _ => rfl⟩) hHeld ?_
            try simp only [Act.put, List.setIfInBounds_toArray, List.set_cons_zero, List.set_cons_succ]
            refine takeL 10 (.pointer (some ⟨w.heap.size, o * 21, none⟩)) rfl (by kernel_rfl) (by kernel_rfl) (by kernel_rfl) (fun _ _ _ h => h) (Or.inl ⟨rfl, fun w9 hSw => by go_simp⟩) hHeld ?_
            try simp only [Act.put, List.setIfInBounds_toArray, List.set_cons_zero, List.set_cons_succ]
            refine takeL 11 (.pointer (some ⟨w.heap.size, o * 21 + 20, none⟩)) rfl (by kernel_rfl) (by kernel_rfl) (by kernel_rfl) (fun _ _ _ h => h) (Or.inl ⟨rfl, fun w9 hSw => by go_simp⟩) hHeld ?_
            try simp only [Act.put, List.setIfInBounds_toArray, List.set_cons_zero, List.set_cons_succ]
            refine takeL 12 (.int .i64 wo) rfl (by kernel_rfl) (by kernel_rfl) (by kernel_rfl) (fun _ _ _ h => h) (Or.inl ⟨rfl, fun w9 hSw => by have hc := hSw.2; go_simp⟩) hHeld ?_
            try simp only [Act.put, List.setIfInBounds_toArray, List.set_cons_zero, List.set_cons_succ]
            refine takeL 13 (.bool (decide (b.wn < wo))) rfl (by kernel_rfl) (by kernel_rfl) (by kernel_rfl) (fun _ _ _ h => h) (Or.inl ⟨rfl, fun w9 hSw => by go_simp⟩) hHeld ?_
            try simp only [Act.put, List.setIfInBounds_toArray, List.set_cons_zero, List.set_cons_succ]
            refine takeL 14 (.bool (decide (b.wn < wo))) rfl (by kernel_rfl) (by kernel_rfl) (by kernel_rfl) (fun _ _ _ h => h) (Or.inl ⟨rfl, fun w9 hSw => by go_simp⟩) hHeld ?_
            try simp only [Act.put, List.setIfInBounds_toArray, List.set_cons_zero, List.set_cons_succ]
            refine takeL 15 (.bool (decide (b.wn < wo))) rfl (by kernel_rfl) (by kernel_rfl) (by kernel_rfl) (fun _ _ _ h => h) (Or.inl ⟨rfl, fun w9 hSw => by go_simp⟩) hHeld ?_
            try simp only [Act.put, List.setIfInBounds_toArray, List.set_cons_zero, List.set_cons_succ]
            refine wpAnyH_done (by kernel_rfl) ?_ _
            refine NoPanic.normal ?_
            have B4 := B3.drew.trans (b4.mono B3.drew.size)
            clear hHeld b4 R3 C3 B3
            rw [hd]
            go_wp2
            go_roundw
            case rel => exact ⟨k + 1, o, true, by omega, by first | rfl | go_num, rfl, rfl, by omega, HR, B4⟩
            case measure => simp [intOf]; omega
      · have g0 : ((usedN b.ps : Int) == 0) = false := by simp; omega
        rw [if_neg (fun h => hu0 h.1)] at HR
        clear hu0
        refine wp_region_noPanic ?_
        refine wp_region_held_drew (S := fun w' => w'.rangeAt bb 0 (bkC b) ∧ w'.cell? ⟨w.heap.size, o * 21 + 20, none⟩ = some (.int .i64 wo)) (by kernel_rfl) (⟨by simpa using R3, by simpa using C3⟩) (fun hHeld => ?_)
        refine takeL 0 (_) rfl (by kernel_rfl) (by kernel_rfl) (by kernel_rfl) (fun _ _ _ h => h) (yieldsIf_load_mid rfl 80 _ rfl bb 0 rfl (bkC b) _ (fun _ h => h.1) Try.underlying80 rfl (unhide HSB)) hHeld ?_
        try simp only [Act.put, List.setIfInBounds_toArray, List.set_cons_zero, List.set_cons_succ]
        refine oneL 1 rfl (by kernel_rfl) rfl (fun K hK => ?_)
        go_simp
        refine (unhide HCU _).mono ?_
        rintro e w4 ⟨rfl, b4⟩
        go_wp2_with fail
        refine hK.out _ _ ⟨rangeAt_below hHeld.1 b4 (by simpa using sl3), by rw [b4.cell (p := ⟨w.heap.size, o * 21 + 20, none⟩) (by simpa using sw3)]; exact hHeld.2⟩ (fun hHeld => ?_)
        clear hK K
        try simp only [Act.put, List.setIfInBounds_toArray, List.set_cons_zero, List.set_cons_succ]
        refine takeL 2 (.bool false) rfl (by kernel_rfl) (by kernel_rfl) (by kernel_rfl) (fun _ _ _ h => h) (Or.inl ⟨rfl, fun w9 hSw => by go_simp⟩) hHeld ?_
        try simp only [Act.put, List.setIfInBounds_toArray, List.set_cons_zero, List.set_cons_succ]
        refine takeL 3 (.bool false) rfl (by kernel_rfl) (by kernel_rfl) (by kernel_rfl) (fun _ _ _ h => h) (Or.inl ⟨rfl, fun _ _ => rfl⟩) hHeld ?_
        try simp only [Act.put, List.setIfInBounds_toArray, List.set_cons_zero, List.set_cons_succ]
        refine takeL 4 (undef) rfl (by kernel_rfl) (by kernel_rfl) (by kernel_rfl) (fun _ _ _ h => h) (Or.inr ⟨rfl, rfl⟩) hHeld ?_
        try simp only [Act.put, List.setIfInBounds_toArray, List.set_cons_zero, List.set_cons_succ]
        refine takeL 5 (undef) rfl (by kernel_rfl) (by kernel_rfl) (by kernel_rfl) (fun _ _ _ h => h) (Or.inr ⟨rfl, rfl⟩) hHeld ?_
        try simp only [Act.put, List.setIfInBounds_toArray, List.set_cons_zero, List.set_cons_succ]
        refine takeL 6 (undef) rfl (by kernel_rfl) (by kernel_rfl) (by kernel_rfl) (fun _ _ _ h => h) (Or.inr ⟨rfl, rfl⟩) hHeld ?_
        try simp only [Act.put, List.setIfInBounds_toArray, List.set_cons_zero, List.set_cons_succ]
        refine takeL 7 (undef) rfl (by kernel_rfl) (by kernel_rfl) (by kernel_rfl) (fun _ _ _ h => h) (Or.inr ⟨rfl, rfl⟩) hHeld ?_
        try simp only [Act.put, List.setIfInBounds_toArray, List.set_cons_zero, List.set_cons_succ]
        refine takeL 8 (undef) rfl (by kernel_rfl) (by kernel_rfl) (by kernel_rfl) (fun _ _ _ h => h) (Or.inr ⟨rfl, rfl⟩) hHeld ?_
        try simp only [Act.put, List.setIfInBounds_toArray, List.set_cons_zero, List.set_cons_succ]
        refine takeL 9 (undef) rfl (by kernel_rfl) (by kernel_rfl) (by kernel_rfl) (fun _ _ _ h => h) (Or.inr ⟨rfl, rfl⟩) hHeld ?_
        try simp only [Act.put, List.setIfInBounds_toArray, List.set_cons_zero, List.set_cons_succ]
        refine takeL 10 (undef) rfl (by kernel_rfl) (by kernel_rfl) (by kernel_rfl) (fun _ _ _ h => h) (Or.inr ⟨rfl, rfl⟩) hHeld ?_
        try simp only [Act.put, List.setIfInBounds_toArray, List.set_cons_zero, List.set_cons_succ]
        refine takeL 11 (undef) rfl (by kernel_rfl) (by kernel_rfl) (by kernel_rfl) (fun _ _ _ h => h) (Or.inr ⟨rfl, rfl⟩) hHeld ?_
        try simp only [Act.put, List.setIfInBounds_toArray, List.set_cons_zero, List.set_cons_succ]
        refine takeL 12 (undef) rfl (by kernel_rfl) (by kernel_rfl) (by kernel_rfl) (fun _ _ _ h => h) (Or.inr ⟨rfl, rfl⟩) hHeld ?_
        try simp only [Act.put, List.setIfInBounds_toArray, List.set_cons_zero, List.set_cons_succ]
        refine takeL 13 (undef) rfl (by kernel_rfl) (by kernel_rfl) (by kernel_rfl) (fun _ _ _ h => h) (Or.inr ⟨rfl, rfl⟩) hHeld ?_
        try simp only [Act.put, List.setIfInBounds_toArray, List.set_cons_zero, List.set_cons_succ]
        refine takeL 14 (undef) rfl (by kernel_rfl) (by kernel_rfl) (by kernel_rfl) (fun _ _ _ h => h) (Or.inr ⟨rfl, rfl⟩) hHeld ?_
        try simp only [Act.put, List.setIfInBounds_toArray, List.set_cons_zero, List.set_cons_succ]
        refine takeL 15 (.bool false) rfl (by kernel_rfl) (by kernel_rfl) (by kernel_rfl) (fun _ _ _ h => h) (Or.inl ⟨rfl, fun w9 hSw => by go_simp⟩) hHeld ?_
        try simp only [Act.put, List.setIfInBounds_toArray, List.set_cons_zero, List.set_cons_succ]
        refine wpAnyH_done (by kernel_rfl) ?_ _
        refine NoPanic.normal ?_
        have B4 := B3.drew.trans (b4.mono B3.drew.size)
        clear hHeld b4 R3 C3 B3
        go_wp2
        go_roundw
        case rel => exact ⟨k + 1, o, f, by omega, by first | rfl | go_num, rfl, rfl, by omega, HR, B4⟩
        case measure => simp [intOf]; omega
end Go.Proofs.Ytcmklcfedeeahaa.ImplO

/-
  The specification's FlashWipe, for every list of blocks.
-/
namespace Go.Proofs.Ytcmklcfedeeahaa.SpecX
open Go.ChangeShapes Go.WideShapes Go.ChangeAt Go.RowKit OkA Big Fl ImplB ImplF ImplS Own ImplT ImplU SpecA SpecB SpecC SpecD SpecW
set_option linter.unusedVariables false
set_option linter.unusedSimpArgs false

/-- What FlashWipe answers. -/
def wiR (bs : List Bk) (blk : Int) (torn : Bool) : List Bk :=
  if okB bs && inB blk 0 3 then (if wiN bs blk.toNat then bs else wiL bs blk.toNat torn) else []
def wiO (bs : List Bk) (blk : Int) : Bool := okB bs && inB blk 0 3 && !wiN bs blk.toNat
theorem wiL_len {bs : List Bk} {k : Nat} {t : Bool} : (wiL bs k t).length = bs.length := by simp [wiL]
theorem wiL_fours {bs : List Bk} (h : Fours bs) {k : Nat} {t : Bool} : Fours (wiL bs k t) := fun b hb => by
  rcases List.mem_or_eq_of_mem_set hb with h' | rfl
  · exact h b h'
  · simp [wiB]
theorem fs_at {w : World} {a : Option Addr} {bs : List Bk} (hf : FsAt w a bs) (h : bs.length = 4) : ∃ b o, a = some ⟨b, o, none⟩ ∧ ∀ i (hi : i < bs.length), BkAt w b (o + i * 2) bs[i] := by
  rcases hf with rfl | h'
  · simp at h
  · exact h'
theorem copy4 (fb fo cap : Nat) (bs : List Bk) (w : World) (hF : Fours bs) (h4 : bs.length = 4) (hf : ∀ i (hi : i < bs.length), BkAt w fb (fo + i * 2) bs[i]) :
    Calls Try.prog 109 #[.slice (some ⟨fb, fo, none⟩) 4 cap] w fun e w' => ∃ g G c, e = .returned (.slice (some ⟨g, 0, none⟩) 4 c) ∧ Own w' w.heap.size g G bs 4 ∧ Below w.heap.size w w' := by
  have := copy_any fb fo cap bs w hF (by omega) hf (by omega)
  rwa [h4] at this

set_option maxHeartbeats 1000000 in
theorem specWipe_any (a : Option Addr) (cap : Nat) (blk : Int) (torn : Bool) (bs : List Bk) (w : World) (hf : FsAt w a bs) (hm : bs.length ≤ 1048576) :
    Calls Try.prog 63 #[.slice a bs.length cap, .int .i64 blk, .bool torn] w fun e w' => OutPost w (wiR bs blk torn) (wiO bs blk) e w' := by
  have HC := hide (specFlashOk_any a cap bs w hf hm)
  cases hs : okB bs
  · have HR : Hid (wiR bs blk torn = []) := by show _ = _; unfold wiR; rw [hs]; rfl
    have HO : Hid (wiO bs blk = false) := by show _ = _; unfold wiO; rw [hs]; rfl
    rw [hs] at HC
    clear hs hf
    go_enter Try.func63, Try.ntmps63
    go_wp2_with fail
    refine (unhide HC).mono ?_
    rintro e w1 ⟨rfl, b1⟩
    go_wp2
    go_ret2
    rw [unhide HR, unhide HO]
    exact ⟨_, rfl, .inl ⟨rfl, _, _, rfl⟩, b1.alloc b1.size _⟩
  · cases hb : inB blk 0 3
    · have HR : Hid (wiR bs blk torn = []) := by show _ = _; unfold wiR; rw [hs, hb]; rfl
      have HO : Hid (wiO bs blk = false) := by show _ = _; unfold wiO; rw [hs, hb]; rfl
      have HI := hide (l6In_any blk 0 3)
      rw [hs] at HC
      rw [hb] at HI
      clear hs hf hb
      go_enter Try.func63, Try.ntmps63
      go_wp2_with fail
      refine (unhide HC).mono ?_
      rintro e w1 ⟨rfl, b1⟩
      go_wp2_with (go_at_call 80; refine (unhide HI _).mono ?_; rintro e w' ⟨rfl, hw'⟩; obtain rfl := hw'.symm)
      go_ret2
      rw [unhide HR, unhide HO]
      exact ⟨_, rfl, .inl ⟨rfl, _, _, rfl⟩, b1.alloc b1.size _⟩
    · obtain ⟨k, rfl, hk⟩ := in_range hb
      have h4 := ok_len hs
      have HF := hide (ok_fours hs)
      obtain ⟨fb, fo, rfl, hf'⟩ := fs_at hf h4
      have HR : Hid (wiR bs (k : Int) torn = if wiN bs k then bs else wiL bs k torn) := by show _ = _; unfold wiR; rw [hs, hb]; rfl
      have HO : Hid (wiO bs (k : Int) = !wiN bs k) := by show _ = _; unfold wiO; rw [hs, hb]; rfl
      have HL : Hid ((if wiN bs k then bs else wiL bs k torn).length = 4) := by
        show _ = _
        split
        · exact h4
        · rw [wiL_len]; exact h4
      have HFF := hide hf
      have HI := hide (l6In_any (k : Int) 0 3)
      have HS := hide hs
      rw [hs] at HC
      rw [hb] at HI
      rw [h4] at HC ⊢
      clear hs hf hb hf'
      go_enter Try.func63, Try.ntmps63
      go_wp2_with fail
      refine (unhide HC).mono ?_
      rintro e w1 ⟨rfl, b1⟩
      have F1 := hide ((unhide HFF).below b1)
      go_wp2_with (go_at_call 80; refine (unhide HI _).mono ?_; rintro e w' ⟨rfl, hw'⟩; obtain rfl := hw'.symm)
      refine (copy4 fb fo cap bs _ (unhide HF) h4 (by
        obtain ⟨b', o', he, h'⟩ := fs_at (unhide F1) h4
        simp at he
        obtain ⟨rfl, rfl⟩ := he
        exact h')).mono ?_
      rintro e w2 ⟨g, G, c, rfl, o2, b2⟩
      go_wp2_with fail
      refine (wipe_any _ _ _ _ _ k torn _ o2 (unhide HS) hk).mono ?_
      rintro e w3 ⟨rfl, o3, k3⟩
      have b3 := k3.below (fun x hx => o2.lo x hx) b2.size
      have B2 := b1.trans (b2.mono b1.size)
      have B3 := B2.trans (b3.mono b1.size)
      have o4 := o3.mono b1.size
      clear b1 b2 b3 k3 o2 o3 B2 F1
      rw [← unhide HR] at o4 HL
      rw [← unhide HO]
      have HOL := hide (show Own w3 w.heap.size g G (wiR bs (k : Int) torn) (wiR bs (k : Int) torn).length by rw [unhide HL]; exact o4)
      generalize hO : wiO bs (k : Int) = ok at *
      have HOE := hide hO
      clear hO o4 HO HR
      go_wp2
      go_ret2
      exact ⟨_, by rw [unhide HOE]; rfl, .inr ⟨g, G, c, by rw [unhide HL]; rfl, unhide HOL⟩, B3⟩
end Go.Proofs.Ytcmklcfedeeahaa.SpecX
