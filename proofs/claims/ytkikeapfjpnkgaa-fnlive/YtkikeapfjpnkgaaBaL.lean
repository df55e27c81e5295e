/-
  Texts that belong together, one behind the other: SpecG, SpecH, Pl.
-/
import Derived.Test.YtkikeapfjpnkgaaBaK

/-
  The specification's finding: the eldest block.
-/
namespace Go.Proofs.Ytkikeapfjpnkgaa.SpecG
open Go.ChangeShapes Go.WideShapes Go.ChangeAt Go.RowKit OkA Big Fl ImplB ImplF ImplS _root_.Go.Proofs.Ytkikeapfjpnkgaa.Own ImplT ImplU SpecA SpecB SpecF
set_option linter.unusedVariables false
set_option linter.unusedSimpArgs false
attribute [local go_sem ↓] Go.wp_at_zero Go.wp_at_succ

/-- The first of the first k + 1 blocks whose greatest number is least. -/
def oldN (bs : List Bk) : Nat → Nat
  | 0 => 0
  | k + 1 => if mostN (bs.getD (k + 1) zBk).ps < mostN (bs.getD (oldN bs k) zBk).ps then k + 1 else oldN bs k
theorem oldN_le (bs : List Bk) (k : Nat) : oldN bs k ≤ k := by
  induction k with
  | zero => exact Nat.le_refl _
  | succ k ih => unfold oldN; split <;> omega
theorem getD_at (bs : List Bk) (k : Nat) (h : k < bs.length) : bs.getD k zBk = bs[k] := by rw [List.getD_eq_getElem?_getD, List.getElem?_eq_getElem h]; rfl
theorem blk_two {w : World} {b o : Nat} {x y : Value} (h0 : w.cell? ⟨b, o, none⟩ = some x) (h1 : w.cell? ⟨b, o + 1, none⟩ = some y) : w.rangeAt b o [x, y] := fun j v hv => by
  match j, hv with
  | 0, hv => (obtain rfl : v = x := by simpa using hv.symm); exact h0
  | 1, hv => (obtain rfl : v = y := by simpa using hv.symm); exact h1
  | n + 2, hv => simp at hv

set_option maxHeartbeats 1000000 in
theorem old_any (a : Option Addr) (cap : Nat) (bs : List Bk) (w : World) (hf : FsAt w a bs) (hl : bs.length ≤ 1048576) (hp : ∀ b ∈ bs, b.ps.length ≤ 1048576) (hz : 0 < bs.length) :
    Calls Try.prog 62 #[.slice a bs.length cap] w fun e w' => e = .returned (.int .i64 (oldN bs (bs.length - 1))) ∧ Below w.heap.size w w' := by
  have H := hide hf
  have HP := hide hp
  clear hf hp
  generalize hn : bs.length = n at *
  have HL := hide hn
  clear hn
  have hli : (n : Int) ≤ 1048576 := by omega
  go_enter Try.func62, Try.ntmps62
  go_wp2
  go_loopw [3, 4] (fun m i w' => ∃ k : Nat, k < n ∧ i = .int .i64 (k + 1 : Nat) ∧ m = .int .i64 (oldN bs k : Nat) ∧ Below w.heap.size w w') (fun _ i _ => n - (intOf i).toNat)
  case atStart => exact ⟨0, by omega, rfl, rfl, Below.refl _ _⟩
  case round =>
    obtain ⟨k, hk, rfl, rfl, bw⟩ := hrel
    have hle := oldN_le bs k
    have HO : Hid (oldN bs (k + 1) = if mostN (bs.getD (k + 1) zBk).ps < mostN (bs.getD (oldN bs k) zBk).ps then k + 1 else oldN bs k) := rfl
    generalize hu : oldN bs k = u at *
    by_cases h0 : k + 1 = n
    · obtain rfl := h0
      have HU := hide hu
      go_wp2
      go_ret
      exact ⟨by rw [Nat.add_sub_cancel, unhide HU]; rfl, bw⟩
    · generalize hi : k + 1 = i at *
      have hlt : (i : Int) < (n : Int) := by omega
      have hkb : i < bs.length := by have := unhide HL; omega
      have hub : u < bs.length := by have := unhide HL; omega
      have hult : (u : Int) < (n : Int) := by omega
      have hlo : (0 : Int) ≤ (i : Int) := by omega
      have hulo : (0 : Int) ≤ (u : Int) := by omega
      rw [getD_at bs i hkb, getD_at bs u hub] at HO
      obtain ⟨b1, o1, rfl, g1⟩ : ∃ b o, a = some ⟨b, o, none⟩ ∧ ∀ i (hi : i < bs.length), BkAt wr b (o + i * 2) bs[i] := by
        rcases (unhide H).below bw with rfl | h
        · simp at hkb
        · exact h
      obtain ⟨p1, c1, d0, d1, q1⟩ := g1 i hkb
      obtain ⟨p2, c2, e0, e1, q2⟩ := g1 u hub
      have l1 := cell_lt d0
      have x1 := blk_two d0 d1
      have x2 := blk_two e0 e1
      have Q2 := q2.below ((Below.refl wr.heap.size wr).drew)
      have Q1 := q1.below ((Below.refl wr.heap.size wr).drew)
      have HC1 := hide (fun w' (h : PsAt w' p1 bs[i].ps) => most_any p1 c1 bs[i].ps bs[i].wn w' h (unhide HP _ (List.getElem_mem hkb)))
      have HC2 := hide (fun w' (h : PsAt w' p2 bs[u].ps) => most_any p2 c2 bs[u].ps bs[u].wn w' h (unhide HP _ (List.getElem_mem hub)))
      have HZ1 : Hid ((Try.prog.info? 36).map (·.size) = some [Value.slice p1 bs[i].ps.length c1, Value.int .i64 bs[i].wn].length) := by show _ = some 2; kernel_rfl
      have HZ2 : Hid ((Try.prog.info? 36).map (·.size) = some [Value.slice p2 bs[u].ps.length c2, Value.int .i64 bs[u].wn].length) := by show _ = some 2; kernel_rfl
      clear g1 d0 d1 e0 e1 q1 q2
      generalize bs[i] = b at *
      generalize bs[u] = c at *
      have hls : w.heap.size ≤ wr.heap.size := bw.size
      go_wp2_with fail
      refine wp_region_noPanic ?_
      refine wp_region_held_drew (S := fun w' => w'.rangeAt b1 (o1 + i * 2) [.slice p1 b.ps.length c1, .int .i64 b.wn] ∧ w'.rangeAt b1 (o1 + u * 2) [.slice p2 c.ps.length c2, .int .i64 c.wn]) (by kernel_rfl) (⟨by simpa using x1, by simpa using x2⟩) (fun hHeld => ?_)
      refine takeL 0 (.slice (some ⟨b1, o1, none⟩) n cap) rfl (by kernel_rfl) (by kernel_rfl) (by kernel_rfl) (fun _ _ _ h => h) (Or.inl ⟨rfl, fun _ _ => rfl⟩) hHeld ?_
      try simp only [Act.put, List.setIfInBounds_toArray, List.set_cons_zero, List.set_cons_succ]
      refine takeL 1 (.int .i64 i) rfl (by kernel_rfl) (by kernel_rfl) (by kernel_rfl) (fun _ _ _ h => h) (Or.inl ⟨rfl, fun _ _ => rfl⟩) hHeld ?_
      try simp only [Act.put, List.setIfInBounds_toArray, List.set_cons_zero, List.set_cons_succ]
      refine takeL 2 (.pointer (some ⟨b1, o1 + i * 2, none⟩)) rfl (by kernel_rfl) (by kernel_rfl) (by kernel_rfl) (fun _ _ _ h => h) (Or.inl ⟨rfl, fun w9 hSw => by go_simp⟩) hHeld ?_
      try simp only [Act.put, List.setIfInBounds_toArray, List.set_cons_zero, List.set_cons_succ]
      refine takeL 3 (.agg #[.slice p1 b.ps.length c1, .int .i64 b.wn]) rfl (by kernel_rfl) (by kernel_rfl) (by kernel_rfl) (fun _ _ _ h => h) (yieldsIf_load_mid rfl 36 _ rfl b1 (o1 + i * 2) rfl [.slice p1 b.ps.length c1, .int .i64 b.wn] _ (fun _ h => h.1) Try.underlying36 rfl (unhide HZ1)) hHeld ?_
      try simp only [Act.put, List.setIfInBounds_toArray, List.set_cons_zero, List.set_cons_succ]
      refine takeL 5 (.slice (some ⟨b1, o1, none⟩) n cap) rfl (by kernel_rfl) (by kernel_rfl) (by kernel_rfl) (fun _ _ _ h => h) (Or.inl ⟨rfl, fun _ _ => rfl⟩) hHeld ?_
      try simp only [Act.put, List.setIfInBounds_toArray, List.set_cons_zero, List.set_cons_succ]
      refine takeL 6 (.int .i64 u) rfl (by kernel_rfl) (by kernel_rfl) (by kernel_rfl) (fun _ _ _ h => h) (Or.inl ⟨rfl, fun _ _ => rfl⟩) hHeld ?_
      try simp only [Act.put, List.setIfInBounds_toArray, List.set_cons_zero, List.set_cons_succ]
      refine takeL 7 (.pointer (some ⟨b1, o1 + u * 2, none⟩)) rfl (by kernel_rfl) (by kernel_rfl) (by kernel_rfl) (fun _ _ _ h => h) (Or.inl ⟨rfl, fun w9 hSw => by go_simp⟩) hHeld ?_
      try simp only [Act.put, List.setIfInBounds_toArray, List.set_cons_zero, List.set_cons_succ]
      refine takeL 8 (.agg #[.slice p2 c.ps.length c2, .int .i64 c.wn]) rfl (by kernel_rfl) (by kernel_rfl) (by kernel_rfl) (fun _ _ _ h => h) (yieldsIf_load_mid rfl 36 _ rfl b1 (o1 + u * 2) rfl [.slice p2 c.ps.length c2, .int .i64 c.wn] _ (fun _ h => h.2) Try.underlying36 rfl (unhide HZ2)) hHeld ?_
      try simp only [Act.put, List.setIfInBounds_toArray, List.set_cons_zero, List.set_cons_succ]
      refine oneL 4 rfl (by kernel_rfl) rfl (fun K hK => ?_)
      go_simp
      refine (unhide HC1 _ Q1).mono ?_
      rintro e w2 ⟨rfl, b2⟩
      go_wp2_with fail
      refine hK.out _ _ ⟨rangeAt_below hHeld.1 b2 (by simpa using l1), rangeAt_below hHeld.2 b2 (by simpa using l1)⟩ (fun hHeld => ?_)
      clear hK K
      try simp only [Act.put, List.setIfInBounds_toArray, List.set_cons_zero, List.set_cons_succ]
      refine oneL 9 rfl (by kernel_rfl) rfl (fun K hK => ?_)
      go_simp
      refine (unhide HC2 _ (Q2.below b2)).mono ?_
      rintro e w3 ⟨rfl, b3⟩
      go_wp2_with fail
      refine hK.out _ _ ⟨rangeAt_below hHeld.1 b3 (Nat.lt_of_lt_of_le (by simpa using l1) b2.size), rangeAt_below hHeld.2 b3 (Nat.lt_of_lt_of_le (by simpa using l1) b2.size)⟩ (fun hHeld => ?_)
      clear hK K
      try simp only [Act.put, List.setIfInBounds_toArray, List.set_cons_zero, List.set_cons_succ]
      refine takeL 10 (.bool (decide (mostN b.ps < mostN c.ps))) rfl (by kernel_rfl) (by kernel_rfl) (by kernel_rfl) (fun _ _ _ h => h) (Or.inl ⟨rfl, fun w9 hSw => by go_simp⟩) hHeld ?_
      try simp only [Act.put, List.setIfInBounds_toArray, List.set_cons_zero, List.set_cons_succ]
      refine wpAnyH_done (by kernel_rfl) ?_ _
      refine NoPanic.normal ?_
      have B3 := (bw.drew.trans (b2.mono bw.drew.size)).trans (b3.mono (bw.drew.trans (b2.mono bw.drew.size)).size)
      clear hHeld b2 b3 bw x1 x2 Q1 Q2
      by_cases hm : mostN b.ps < mostN c.ps
      · have hd : decide (mostN b.ps < mostN c.ps) = true := by simpa using hm
        have HM := hide (by have := unhide HO; rw [if_pos hm] at this; exact this : oldN bs i = i)
        rw [hd]
        clear hm hd HO
        go_wp2
        go_roundw
        case rel => exact ⟨i, by omega, by first | rfl | go_num, by rw [unhide HM], B3⟩
        case measure => simp [intOf]; omega
      · have hd : decide (mostN b.ps < mostN c.ps) = false := by simpa using hm
        have HM := hide (by have := unhide HO; rw [if_neg hm] at this; exact this : oldN bs i = u)
        rw [hd]
        clear hm hd HO
        go_wp2
        go_roundw
        case rel => exact ⟨i, by omega, by first | rfl | go_num, by rw [unhide HM], B3⟩
        case measure => simp [intOf]; omega
end Go.Proofs.Ytkikeapfjpnkgaa.SpecG

/-
  The specification's finding: the block on which the next record is to be written.
-/
namespace Go.Proofs.Ytkikeapfjpnkgaa.SpecH
open Go.ChangeShapes Go.WideShapes Go.ChangeAt Go.RowKit OkA Big Fl ImplB ImplF ImplS _root_.Go.Proofs.Ytkikeapfjpnkgaa.Own ImplT ImplU SpecA SpecB SpecF SpecG
set_option linter.unusedVariables false
set_option linter.unusedSimpArgs false
attribute [local go_sem ↓] Go.wp_at_zero Go.wp_at_succ

/-- What is told of the blocks from the i-th on, if out is the best that was met so far (-1: none). -/
def openF (bs : List Bk) : List Bk → Nat → Int → Int × Bool
  | [], _, out => (if out < 0 then 0 else out, decide (0 ≤ out))
  | b :: r, i, out => if 0 < cleanN b.ps ∧ cleanN b.ps < 4 then ((i : Int), true) else openF bs r (i + 1) (if 0 < cleanN b.ps ∧ (out < 0 ∨ b.wn < (bs.getD out.toNat zBk).wn) then (i : Int) else out)
def openR (bs : List Bk) : Int × Bool := openF bs bs 0 (-1)
theorem cleanN_le (ps : List Pg) : cleanN ps ≤ ps.length := List.length_filter_le _ _
def OpPost (w : World) (R : Int × Bool) (e : Ending) (w' : World) : Prop := e = .returned (.tuple #[.int .i64 R.1, .bool R.2]) ∧ Below w.heap.size w w'

set_option maxHeartbeats 1000000 in
theorem open_any (b1 o1 cap : Nat) (bs : List Bk) (w : World) (hF : Fours bs) (h4 : bs.length = 4) (hf : ∀ i (hi : i < bs.length), BkAt w b1 (o1 + i * 2) bs[i]) :
    Calls Try.prog 92 #[.slice (some ⟨b1, o1, none⟩) 4 cap] w fun e w' => OpPost w (openR bs) e w' := by
  have H := hide hf
  have HF := hide hF
  clear hf hF
  have HR0 : Hid (openF bs bs 0 (-1) = openR bs) := rfl
  generalize openR bs = R at *
  go_enter Try.func92, Try.ntmps92
  go_wp2
  go_loopw [4, 5] (fun m i w' => ∃ (k : Nat) (out : Int), k ≤ 4 ∧ i = .int .i64 k ∧ m = .int .i64 out ∧ -1 ≤ out ∧ out < k ∧ Hid (openF bs (bs.drop k) k out = R) ∧ Below w.heap.size w w') (fun _ i _ => 4 - (intOf i).toNat)
  case atStart => exact ⟨0, -1, by omega, rfl, rfl, by omega, by omega, HR0, Below.refl _ _⟩
  case round =>
    obtain ⟨k, out, hk, rfl, rfl, ho1, ho2, HR, bw⟩ := hrel
    by_cases h0 : k = 4
    · subst h0
      have HE : Hid (R = (if out < 0 then 0 else out, decide (0 ≤ out))) := by
        show _ = _
        have := unhide HR
        rw [List.drop_eq_nil_of_le (by omega)] at this
        exact this.symm
      clear HR
      by_cases hneg : out < 0
      · obtain rfl : out = -1 := by omega
        go_wp2
        go_ret2
        exact ⟨by rw [unhide HE]; rfl, bw⟩
      · have HE2 : Hid (R = (out, true)) := by show _ = _; rw [unhide HE, if_neg hneg]; simp; omega
        have hnn : 0 ≤ out := by omega
        clear HE
        go_wp2
        go_ret2
        exact ⟨by rw [unhide HE2]; rfl, bw⟩
    · have hlt : (k : Int) < 4 := by omega
      have hkb : k < bs.length := by omega
      have hlo : (0 : Int) ≤ (k : Int) := by omega
      have hb4 := (unhide HF).at k hkb
      obtain ⟨p1, c1, d0, d1, q1⟩ := unhide H k hkb
      have hlw := cell_lt d0
      have hcl := cleanN_le bs[k].ps
      rw [hb4] at d0 hcl
      have D0 := (bw.cell (p := ⟨b1, o1 + k * 2, none⟩) hlw).trans d0
      have D1 := (bw.cell (p := ⟨b1, o1 + k * 2 + 1, none⟩) hlw).trans d1
      obtain ⟨pb, po, rfl, hr⟩ : ∃ pb po, p1 = some ⟨pb, po, none⟩ ∧ w.rangeAt pb po (psC bs[k].ps) := by
        rcases q1 with h | h
        · rw [h] at hb4; simp at hb4
        · exact h
      have hr1 := rangeAt_below hr bw (cell_lt (PsAt.cells hr 0 (by omega)).1)
      have HC := hide (l2Clean_any pb po c1 bs[k].ps bs[k].wn wr hb4 hr1)
      rw [List.drop_eq_getElem_cons hkb] at HR
      have HGO : Hid (∀ u : Nat, out = (u : Int) → u < bs.length → (bs.getD out.toNat zBk).wn = (bs.getD u zBk).wn) := fun u hu _ => by rw [hu]; rfl
      clear q1 hr hr1 d0 d1
      generalize bs[k] = b at *
      have hcn : Hid (openF bs (b :: bs.drop (k + 1)) k out = if 0 < cleanN b.ps ∧ cleanN b.ps < 4 then ((k : Int), true) else openF bs (bs.drop (k + 1)) (k + 1) (if 0 < cleanN b.ps ∧ (out < 0 ∨ b.wn < (bs.getD out.toNat zBk).wn) then (k : Int) else out)) := rfl
      rw [unhide hcn] at HR
      clear hcn
      generalize cleanN b.ps = cl at *
      go_wp2_with fail
      refine (unhide HC).mono ?_
      rintro e w2 ⟨rfl, b2⟩
      have B2 := bw.trans (b2.mono bw.size)
      have hlw2 := Nat.lt_of_lt_of_le hlw bw.size
      have E0 := (b2.cell (p := ⟨b1, o1 + k * 2, none⟩) hlw2).trans D0
      have E1 := (b2.cell (p := ⟨b1, o1 + k * 2 + 1, none⟩) hlw2).trans D1
      clear b2 bw D0 D1 HC
      by_cases hbeg : 0 < cl ∧ cl < 4
      · have HE : Hid (R = ((k : Int), true)) := by show _ = _; have := unhide HR; rw [if_pos hbeg] at this; exact this.symm
        obtain ⟨hg1, hg2⟩ := hbeg
        have hg1' : (0 : Int) < (cl : Int) := by omega
        have hg2' : (cl : Int) < 4 := by omega
        clear HR hg1 hg2
        go_wp2
        go_ret2
        exact ⟨by rw [unhide HE]; rfl, B2⟩
      · have HRN := hide (by have := unhide HR; rw [if_neg hbeg] at this; exact this : openF bs (bs.drop (k + 1)) (k + 1) (if 0 < cl ∧ (out < 0 ∨ b.wn < (bs.getD out.toNat zBk).wn) then (k : Int) else out) = R)
        clear HR
        by_cases hz : cl = 0
        · subst hz
          rw [if_neg (by omega)] at HRN
          clear hbeg
          go_wp2_with fail
          refine wp_region_noPanic ?_
          refine wp_region_held_drew (S := fun w' => True) (by kernel_rfl) (trivial) (fun hHeld => ?_)
          refine takeL 0 (.int .i64 (0 : Nat)) rfl (by kernel_rfl) (by kernel_rfl) (by kernel_rfl) (fun _ _ _ h => h) (Or.inl ⟨rfl, fun _ _ => rfl⟩) hHeld ?_
          try simp only [Act.put, List.setIfInBounds_toArray, List.set_cons_zero, List.set_cons_succ]
          refine takeL 1 (.bool false) rfl (by kernel_rfl) (by kernel_rfl) (by kernel_rfl) (fun _ _ _ h => h) (Or.inl ⟨rfl, fun w9 hSw => by go_simp⟩) hHeld ?_
          try simp only [Act.put, List.setIfInBounds_toArray, List.set_cons_zero, List.set_cons_succ]
          refine takeL 2 (.bool false) rfl (by kernel_rfl) (by kernel_rfl) (by kernel_rfl) (fun _ _ _ h => h) (Or.inl ⟨rfl, fun _ _ => rfl⟩) hHeld ?_
          try simp only [Act.put, List.setIfInBounds_toArray, List.set_cons_zero, List.set_cons_succ]
          refine takeL 3 (undef) rfl (by kernel_rfl) (by kernel_rfl) (by kernel_rfl) (fun _ _ _ h => h) (Or.inr ⟨rfl, rfl⟩) hHeld ?_
          try simp only [Act.put, List.setIfInBounds_toArray, List.set_cons_zero, List.set_cons_succ]
          refine takeL 4 (undef) rfl (by kernel_rfl) (by kernel_rfl) (by kernel_rfl) (fun _ _ _ h => h) (Or.inr ⟨rfl, rfl⟩) hHeld ?_
          try simp only [Act.put, List.setIfInBounds_toArray, List.set_cons_zero, List.set_cons_succ]
          refine takeL 5 (undef) rfl (by kernel_rfl) (by kernel_rfl) (by kernel_rfl) (fun _ _ _ h => h) (Or.inr ⟨rfl, rfl⟩) hHeld ?_
          try simp only [Act.put, List.setIfInBounds_toArray, List.set_cons_zero, List.set_cons_succ]
          refine takeL 6 (undef) rfl (by kernel_rfl) (by kernel_rfl) (by kernel_rfl) (fun _ _ _ h => h) (Or.inr ⟨rfl, rfl⟩) hHeld ?_
          try simp only [Act.put, List.setIfInBounds_toArray, List.set_cons_zero, List.set_cons_succ]
          refine takeL 7 (undef) rfl (by kernel_rfl) (by kernel_rfl) (by kernel_rfl) (fun _ _ _ h => h) (Or.inr ⟨rfl, rfl⟩) hHeld ?_
          try simp only [Act.put, List.setIfInBounds_toArray, List.set_cons_zero, List.set_cons_succ]
          refine takeL 8 (undef) rfl (by kernel_rfl) (by kernel_rfl) (by kernel_rfl) (fun _ _ _ h => h) (Or.inr ⟨rfl, rfl⟩) hHeld ?_
          try simp only [Act.put, List.setIfInBounds_toArray, List.set_cons_zero, List.set_cons_succ]
          refine takeL 9 (undef) rfl (by kernel_rfl) (by kernel_rfl) (by kernel_rfl) (fun _ _ _ h => h) (Or.inr ⟨rfl, rfl⟩) hHeld ?_
          try simp only [Act.put, List.setIfInBounds_toArray, List.set_cons_zero, List.set_cons_succ]
          refine takeL 10 (undef) rfl (by kernel_rfl) (by kernel_rfl) (by kernel_rfl) (fun _ _ _ h => h) (Or.inr ⟨rfl, rfl⟩) hHeld ?_
          try simp only [Act.put, List.setIfInBounds_toArray, List.set_cons_zero, List.set_cons_succ]
          refine takeL 11 (undef) rfl (by kernel_rfl) (by kernel_rfl) (by kernel_rfl) (fun _ _ _ h => h) (Or.inr ⟨rfl, rfl⟩) hHeld ?_
          try simp only [Act.put, List.setIfInBounds_toArray, List.set_cons_zero, List.set_cons_succ]
          refine takeL 12 (undef) rfl (by kernel_rfl) (by kernel_rfl) (by kernel_rfl) (fun _ _ _ h => h) (Or.inr ⟨rfl, rfl⟩) hHeld ?_
          try simp only [Act.put, List.setIfInBounds_toArray, List.set_cons_zero, List.set_cons_succ]
          refine takeL 13 (undef) rfl (by kernel_rfl) (by kernel_rfl) (by kernel_rfl) (fun _ _ _ h => h) (Or.inr ⟨rfl, rfl⟩) hHeld ?_
          try simp only [Act.put, List.setIfInBounds_toArray, List.set_cons_zero, List.set_cons_succ]
          refine takeL 14 (undef) rfl (by kernel_rfl) (by kernel_rfl) (by kernel_rfl) (fun _ _ _ h => h) (Or.inr ⟨rfl, rfl⟩) hHeld ?_
          try simp only [Act.put, List.setIfInBounds_toArray, List.set_cons_zero, List.set_cons_succ]
          refine takeL 15 (undef) rfl (by kernel_rfl) (by kernel_rfl) (by kernel_rfl) (fun _ _ _ h => h) (Or.inr ⟨rfl, rfl⟩) hHeld ?_
          try simp only [Act.put, List.setIfInBounds_toArray, List.set_cons_zero, List.set_cons_succ]
          refine takeL 16 (undef) rfl (by kernel_rfl) (by kernel_rfl) (by kernel_rfl) (fun _ _ _ h => h) (Or.inr ⟨rfl, rfl⟩) hHeld ?_
          try simp only [Act.put, List.setIfInBounds_toArray, List.set_cons_zero, List.set_cons_succ]
          refine takeL 17 (undef) rfl (by kernel_rfl) (by kernel_rfl) (by kernel_rfl) (fun _ _ _ h => h) (Or.inr ⟨rfl, rfl⟩) hHeld ?_
          try simp only [Act.put, List.setIfInBounds_toArray, List.set_cons_zero, List.set_cons_succ]
          refine takeL 18 (.bool false) rfl (by kernel_rfl) (by kernel_rfl) (by kernel_rfl) (fun _ _ _ h => h) (Or.inl ⟨rfl, fun w9 hSw => by go_simp⟩) hHeld ?_
          try simp only [Act.put, List.setIfInBounds_toArray, List.set_cons_zero, List.set_cons_succ]
          refine wpAnyH_done (by kernel_rfl) ?_ _
          refine NoPanic.normal ?_
          go_wp2
          go_roundw
          case rel => exact ⟨k + 1, out, by omega, by first | rfl | go_num, rfl, ho1, by omega, HRN, B2.drew⟩
          case measure => simp [intOf]; omega
        · obtain rfl : cl = 4 := by omega
          clear hbeg hz
          by_cases hneg : out < 0
          · obtain rfl : out = -1 := by omega
            rw [if_pos ⟨by omega, .inl (by omega)⟩] at HRN
            go_wp2_with fail
            refine wp_region_noPanic ?_
            refine wp_region_held_drew (S := fun w' => True) (by kernel_rfl) (trivial) (fun hHeld => ?_)
            refine takeL 0 (.int .i64 (4 : Nat)) rfl (by kernel_rfl) (by kernel_rfl) (by kernel_rfl) (fun _ _ _ h => h) (Or.inl ⟨rfl, fun _ _ => rfl⟩) hHeld ?_
            try simp only [Act.put, List.setIfInBounds_toArray, List.set_cons_zero, List.set_cons_succ]
            refine takeL 1 (.bool true) rfl (by kernel_rfl) (by kernel_rfl) (by kernel_rfl) (fun _ _ _ h => h) (Or.inl ⟨rfl, fun w9 hSw => by go_simp⟩) hHeld ?_
            try simp only [Act.put, List.setIfInBounds_toArray, List.set_cons_zero, List.set_cons_succ]
            refine takeL 2 (.bool true) rfl (by kernel_rfl) (by kernel_rfl) (by kernel_rfl) (fun _ _ _ h => h) (Or.inl ⟨rfl, fun _ _ => rfl⟩) hHeld ?_
            try simp only [Act.put, List.setIfInBounds_toArray, List.set_cons_zero, List.set_cons_succ]
            refine takeL 3 (.int .i64 (-1)) rfl (by kernel_rfl) (by kernel_rfl) (by kernel_rfl) (fun _ _ _ h => h) (Or.inl ⟨rfl, fun _ _ => rfl⟩) hHeld ?_
            try simp only [Act.put, List.setIfInBounds_toArray, List.set_cons_zero, List.set_cons_succ]
            refine takeL 4 (.bool true) rfl (by kernel_rfl) (by kernel_rfl) (by kernel_rfl) (fun _ _ _ h => h) (Or.inl ⟨rfl, fun w9 hSw => by go_simp⟩) hHeld ?_
            try simp only [Act.put, List.setIfInBounds_toArray, List.set_cons_zero, List.set_cons_succ]
            refine takeL 5 (.bool true) rfl (by kernel_rfl) (by kernel_rfl) (by kernel_rfl) (fun _ _ _ h => h) (Or.inl ⟨rfl, fun _ _ => rfl⟩) hHeld ?_
            try simp only [Act.put, List.setIfInBounds_toArray, List.set_cons_zero, List.set_cons_succ]
            refine takeL 6 (undef) rfl (by kernel_rfl) (by kernel_rfl) (by kernel_rfl) (fun _ _ _ h => h) (Or.inr ⟨rfl, rfl⟩) hHeld ?_
            try simp only [Act.put, List.setIfInBounds_toArray, List.set_cons_zero, List.set_cons_succ]
            refine takeL 7 (undef) rfl (by kernel_rfl) (by kernel_rfl) (by kernel_rfl) (fun _ _ _ h => h) (Or.inr ⟨rfl, rfl⟩) hHeld ?_
            try simp only [Act.put, List.setIfInBounds_toArray, List.set_cons_zero, List.set_cons_succ]
            refine takeL 8 (undef) rfl (by kernel_rfl) (by kernel_rfl) (by kernel_rfl) (fun _ _ _ h => h) (Or.inr ⟨rfl, rfl⟩) hHeld ?_
            try simp only [Act.put, List.setIfInBounds_toArray, List.set_cons_zero, List.set_cons_succ]
            refine takeL 9 (undef) rfl (by kernel_rfl) (by kernel_rfl) (by kernel_rfl) (fun _ _ _ h => h) (Or.inr ⟨rfl, rfl⟩) hHeld ?_
            try simp only [Act.put, List.setIfInBounds_toArray, List.set_cons_zero, List.set_cons_succ]
            refine takeL 10 (undef) rfl (by kernel_rfl) (by kernel_rfl) (by kernel_rfl) (fun _ _ _ h => h) (Or.inr ⟨rfl, rfl⟩) hHeld ?_
            try simp only [Act.put, List.setIfInBounds_toArray, List.set_cons_zero, List.set_cons_succ]
            refine takeL 11 (undef) rfl (by kernel_rfl) (by kernel_rfl) (by kernel_rfl) (fun _ _ _ h => h) (Or.inr ⟨rfl, rfl⟩) hHeld ?_
            try simp only [Act.put, List.setIfInBounds_toArray, List.set_cons_zero, List.set_cons_succ]
            refine takeL 12 (undef) rfl (by kernel_rfl) (by kernel_rfl) (by kernel_rfl) (fun _ _ _ h => h) (Or.inr ⟨rfl, rfl⟩) hHeld ?_
            try simp only [Act.put, List.setIfInBounds_toArray, List.set_cons_zero, List.set_cons_succ]
            refine takeL 13 (undef) rfl (by kernel_rfl) (by kernel_rfl) (by kernel_rfl) (fun _ _ _ h => h) (Or.inr ⟨rfl, rfl⟩) hHeld ?_
            try simp only [Act.put, List.setIfInBounds_toArray, List.set_cons_zero, List.set_cons_succ]
            refine takeL 14 (undef) rfl (by kernel_rfl) (by kernel_rfl) (by kernel_rfl) (fun _ _ _ h => h) (Or.inr ⟨rfl, rfl⟩) hHeld ?_
            try simp only [Act.put, List.setIfInBounds_toArray, List.set_cons_zero, List.set_cons_succ]
            refine takeL 15 (undef) rfl (by kernel_rfl) (by kernel_rfl) (by kernel_rfl) (fun _ _ _ h => h) (Or.inr ⟨rfl, rfl⟩) hHeld ?_
            try simp only [Act.put, List.setIfInBounds_toArray, List.set_cons_zero, List.set_cons_succ]
            refine takeL 16 (undef) rfl (by kernel_rfl) (by kernel_rfl) (by kernel_rfl) (fun _ _ _ h => h) (Or.inr ⟨rfl, rfl⟩) hHeld ?_
            try simp only [Act.put, List.setIfInBounds_toArray, List.set_cons_zero, List.set_cons_succ]
            refine takeL 17 (.bool true) rfl (by kernel_rfl) (by kernel_rfl) (by kernel_rfl) (fun _ _ _ h => h) (Or.inl ⟨rfl, fun w9 hSw => by go_simp⟩) hHeld ?_
            try simp only [Act.put, List.setIfInBounds_toArray, List.set_cons_zero, List.set_cons_succ]
            refine takeL 18 (.bool true) rfl (by kernel_rfl) (by kernel_rfl) (by kernel_rfl) (fun _ _ _ h => h) (Or.inl ⟨rfl, fun w9 hSw => by go_simp⟩) hHeld ?_
            try simp only [Act.put, List.setIfInBounds_toArray, List.set_cons_zero, List.set_cons_succ]
            refine wpAnyH_done (by kernel_rfl) ?_ _
            refine NoPanic.normal ?_
            go_wp2
            go_roundw
            case rel => exact ⟨k + 1, k, by omega, by first | rfl | go_num, rfl, by omega, by omega, HRN, B2.drew⟩
            case measure => simp [intOf]; omega
          · obtain ⟨u, rfl⟩ : ∃ u : Nat, out = (u : Int) := ⟨out.toNat, by omega⟩
            have hub : u < bs.length := by omega
            obtain ⟨p2, c2, f0, f1, _⟩ := unhide H u hub
            have hlu : (u : Int) < 4 := by omega
            have huo : (0 : Int) ≤ (u : Int) := by omega
            have F1 : w2.cell? ⟨b1, o1 + u * 2 + 1, none⟩ = some (.int .i64 bs[u].wn) := (B2.cell (p := ⟨b1, o1 + u * 2 + 1, none⟩) hlw).trans f1
            rw [Int.toNat_natCast, getD_at bs u hub] at HRN
            clear f0 f1 HGO
            generalize bs[u].wn = wu at *
            go_wp2_with fail
            refine wp_region_noPanic ?_
            refine wp_region_held_drew (S := fun w' => w'.cell? ⟨b1, o1 + k * 2 + 1, none⟩ = some (.int .i64 b.wn) ∧ w'.cell? ⟨b1, o1 + u * 2 + 1, none⟩ = some (.int .i64 wu)) (by kernel_rfl) (⟨by simpa using E1, by simpa using F1⟩) (fun hHeld => ?_)
            refine takeL 0 (.int .i64 (4 : Nat)) rfl (by kernel_rfl) (by kernel_rfl) (by kernel_rfl) (fun _ _ _ h => h) (Or.inl ⟨rfl, fun _ _ => rfl⟩) hHeld ?_
            try simp only [Act.put, List.setIfInBounds_toArray, List.set_cons_zero, List.set_cons_succ]
            refine takeL 1 (.bool true) rfl (by kernel_rfl) (by kernel_rfl) (by kernel_rfl) (fun _ _ _ h => h) (Or.inl ⟨rfl, fun w9 hSw => by go_simp⟩) hHeld ?_
            try simp only [Act.put, List.setIfInBounds_toArray, List.set_cons_zero, List.set_cons_succ]
            refine takeL 2 (.bool true) rfl (by kernel_rfl) (by kernel_rfl) (by kernel_rfl) (fun _ _ _ h => h) (Or.inl ⟨rfl, fun _ _ => rfl⟩) hHeld ?_
            try simp only [Act.put, List.setIfInBounds_toArray, List.set_cons_zero, List.set_cons_succ]
            refine takeL 3 (.int .i64 (u : Int)) rfl (by kernel_rfl) (by kernel_rfl) (by kernel_rfl) (fun _ _ _ h => h) (Or.inl ⟨rfl, fun _ _ => rfl⟩) hHeld ?_
            try simp only [Act.put, List.setIfInBounds_toArray, List.set_cons_zero, List.set_cons_succ]
            refine takeL 4 (.bool false) rfl (by kernel_rfl) (by kernel_rfl) (by kernel_rfl) (fun _ _ _ h => h) (Or.inl ⟨rfl, fun w9 hSw => by go_simp⟩) hHeld ?_
            try simp only [Act.put, List.setIfInBounds_toArray, List.set_cons_zero, List.set_cons_succ]
            refine takeL 5 (.bool false) rfl (by kernel_rfl) (by kernel_rfl) (by kernel_rfl) (fun _ _ _ h => h) (Or.inl ⟨rfl, fun _ _ => rfl⟩) hHeld ?_
            try simp only [Act.put, List.setIfInBounds_toArray, List.set_cons_zero, List.set_cons_succ]
            refine takeL 6 (.slice (some ⟨b1, o1, none⟩) 4 cap) rfl (by kernel_rfl) (by kernel_rfl) (by kernel_rfl) (fun _ _ _ h => h) (Or.inl ⟨rfl, fun _ _ => rfl⟩) hHeld ?_
            try simp only [Act.put, List.setIfInBounds_toArray, List.set_cons_zero, List.set_cons_succ]
            refine takeL 7 (.int .i64 k) rfl (by kernel_rfl) (by kernel_rfl) (by kernel_rfl) (fun _ _ _ h => h) (Or.inl ⟨rfl, fun _ _ => rfl⟩) hHeld ?_
            try simp only [Act.put, List.setIfInBounds_toArray, List.set_cons_zero, List.set_cons_succ]
            refine takeL 8 (.pointer (some ⟨b1, o1 + k * 2, none⟩)) rfl (by kernel_rfl) (by kernel_rfl) (by kernel_rfl) (fun _ _ _ h => h) (Or.inl ⟨rfl, fun w9 hSw => by go_simp⟩) hHeld ?_
            try simp only [Act.put, List.setIfInBounds_toArray, List.set_cons_zero, List.set_cons_succ]
            refine takeL 9 (.pointer (some ⟨b1, o1 + k * 2 + 1, none⟩)) rfl (by kernel_rfl) (by kernel_rfl) (by kernel_rfl) (fun _ _ _ h => h) (Or.inl ⟨rfl, fun w9 hSw => by go_simp⟩) hHeld ?_
            try simp only [Act.put, List.setIfInBounds_toArray, List.set_cons_zero, List.set_cons_succ]
            refine takeL 10 (.int .i64 b.wn) rfl (by kernel_rfl) (by kernel_rfl) (by kernel_rfl) (fun _ _ _ h => h) (Or.inl ⟨rfl, fun w9 hSw => by have hc := hSw.1; go_simp⟩) hHeld ?_
            try simp only [Act.put, List.setIfInBounds_toArray, List.set_cons_zero, List.set_cons_succ]
            refine takeL 11 (.slice (some ⟨b1, o1, none⟩) 4 cap) rfl (by kernel_rfl) (by kernel_rfl) (by kernel_rfl) (fun _ _ _ h => h) (Or.inl ⟨rfl, fun _ _ => rfl⟩) hHeld ?_
            try simp only [Act.put, List.setIfInBounds_toArray, List.set_cons_zero, List.set_cons_succ]
            refine takeL 12 (.int .i64 u) rfl (by kernel_rfl) (by kernel_rfl) (by kernel_rfl) (fun _ _ _ h => h) (Or.inl ⟨rfl, fun _ _ => rfl⟩) hHeld ?_
            try simp only [Act.put, List.setIfInBounds_toArray, List.set_cons_zero, List.set_cons_succ]
            refine takeL 13 (.pointer (some ⟨b1, o1 + u * 2, none⟩)) rfl (by kernel_rfl) (by kernel_rfl) (by kernel_rfl) (fun _ _ _ h => h) (Or.inl ⟨rfl, fun w9 hSw => by go_simp⟩) hHeld ?_
            try simp only [Act.put, List.setIfInBounds_toArray, List.set_cons_zero, List.set_cons_succ]
            refine takeL 14 (.pointer (some ⟨b1, o1 + u * 2 + 1, none⟩)) rfl (by kernel_rfl) (by kernel_rfl) (by kernel_rfl) (fun _ _ _ h => h) (Or.inl ⟨rfl, fun w9 hSw => by go_simp⟩) hHeld ?_
            try simp only [Act.put, List.setIfInBounds_toArray, List.set_cons_zero, List.set_cons_succ]
            refine takeL 15 (.int .i64 wu) rfl (by kernel_rfl) (by kernel_rfl) (by kernel_rfl) (fun _ _ _ h => h) (Or.inl ⟨rfl, fun w9 hSw => by have hc := hSw.2; go_simp⟩) hHeld ?_
            try simp only [Act.put, List.setIfInBounds_toArray, List.set_cons_zero, List.set_cons_succ]
            refine takeL 16 (.bool (decide (b.wn < wu))) rfl (by kernel_rfl) (by kernel_rfl) (by kernel_rfl) (fun _ _ _ h => h) (Or.inl ⟨rfl, fun w9 hSw => by go_simp⟩) hHeld ?_
            try simp only [Act.put, List.setIfInBounds_toArray, List.set_cons_zero, List.set_cons_succ]
            refine takeL 17 (.bool (decide (b.wn < wu))) rfl (by kernel_rfl) (by kernel_rfl) (by kernel_rfl) (fun _ _ _ h => h) (Or.inl ⟨rfl, fun w9 hSw => by go_simp⟩) hHeld ?_
            try simp only [Act.put, List.setIfInBounds_toArray, List.set_cons_zero, List.set_cons_succ]
            refine takeL 18 (.bool (decide (b.wn < wu))) rfl (by kernel_rfl) (by kernel_rfl) (by kernel_rfl) (fun _ _ _ h => h) (Or.inl ⟨rfl, fun w9 hSw => by go_simp⟩) hHeld ?_
            try simp only [Act.put, List.setIfInBounds_toArray, List.set_cons_zero, List.set_cons_succ]
            refine wpAnyH_done (by kernel_rfl) ?_ _
            refine NoPanic.normal ?_
            clear hHeld
            by_cases hm : b.wn < wu
            · have hd : decide (b.wn < wu) = true := by simpa using hm
              rw [if_pos ⟨by omega, .inr hm⟩] at HRN
              rw [hd]
              clear hm hd
              go_wp2
              go_roundw
              case rel => exact ⟨k + 1, k, by omega, by first | rfl | go_num, rfl, by omega, by omega, HRN, B2.drew⟩
              case measure => simp [intOf]; omega
            · have hd : decide (b.wn < wu) = false := by simpa using hm
              rw [if_neg (fun h => h.2.elim (fun h => by omega) hm)] at HRN
              rw [hd]
              clear hm hd
              go_wp2
              go_roundw
              case rel => exact ⟨k + 1, u, by omega, by first | rfl | go_num, rfl, by omega, by omega, HRN, B2.drew⟩
              case measure => simp [intOf]; omega
end Go.Proofs.Ytkikeapfjpnkgaa.SpecH

/-
  Plain lists: the last record of an address, what lives, steps, what they do, what happens. Nothing here walks the program.
-/
namespace Go.Proofs.Ytkikeapfjpnkgaa.Pl
open Go.ChangeShapes Go.WideShapes Go.ChangeAt Go.RowKit OkA Big Fl ImplB ImplF ImplS _root_.Go.Proofs.Ytkikeapfjpnkgaa.Own ImplT ImplU SpecA SpecB SpecC SpecD SpecW SpecF SpecG SpecH Ok2
set_option linter.unusedVariables false
set_option linter.unusedSimpArgs false

/-- A record. -/
structure Rc where
  k : Int
  s : Int
  a : Int
  v : Int
def zRc : Rc := ⟨0, 0, 0, 0⟩
def rcC (r : Rc) : List Value := [.int .i64 r.k, .int .i64 r.s, .int .i64 r.a, .int .i64 r.v]
def pgRc (p : Pg) : Rc := ⟨p.k, p.s, p.a, p.v⟩
def eqRc (r q : Rc) : Bool := r.k == q.k && r.s == q.s && r.a == q.a && r.v == q.v
theorem eqRc_iff (r q : Rc) : eqRc r q = true ↔ r = q := by
  cases r; cases q; simp [eqRc, and_assoc]
/-- The page is a later record of the address. -/
def laterB (addr : Int) (o : Rc) (p : Pg) : Bool := p.st == 1 && p.a == addr && decide (o.s < p.s)
def lastS (addr : Int) (o : Rc) (p : Pg) : Rc := if laterB addr o p then pgRc p else o
def lastP (addr : Int) (o : Rc) (ps : List Pg) : Rc := ps.foldl (lastS addr) o
def lastF (addr : Int) (o : Rc) (bs : List Bk) : Rc := bs.foldl (fun o b => lastP addr o b.ps) o
def lastR (bs : List Bk) (addr : Int) : Rc := lastF addr zRc bs
def lastO (bs : List Bk) (addr : Int) : Bool := decide (0 < (lastR bs addr).s)
theorem lastP_take (addr : Int) (o : Rc) (ps : List Pg) (j : Nat) (hj : j < ps.length) : lastP addr o (ps.take (j + 1)) = lastS addr (lastP addr o (ps.take j)) ps[j] := by
  unfold lastP
  rw [List.take_succ_eq_append_getElem hj, List.foldl_append]; rfl
theorem lastF_take (addr : Int) (o : Rc) (bs : List Bk) (j : Nat) (hj : j < bs.length) : lastF addr o (bs.take (j + 1)) = lastP addr (lastF addr o (bs.take j)) bs[j].ps := by
  unfold lastF
  rw [List.take_succ_eq_append_getElem hj, List.foldl_append]; rfl
/-- The page has the last record of its address. -/
def liveB (bs : List Bk) (p : Pg) : Bool := p.st == 1 && eqRc (lastR bs p.a) (pgRc p)

/-- A step. -/
structure Stp where
  kind : Int
  addr : Int
  val : Int
  blk : Int
  r : Rc
def stC (x : Stp) : List Value := [.int .i64 x.kind, .int .i64 x.addr, .int .i64 x.val, .int .i64 x.blk, .int .i64 x.r.k, .int .i64 x.r.s, .int .i64 x.r.a, .int .i64 x.r.v]
def stsC (l : List Stp) : List Value := l.flatMap stC
theorem len_stsC (l : List Stp) : (stsC l).length = l.length * 8 := by
  unfold stsC; induction l with
  | nil => rfl
  | cons x r ih => simp only [List.flatMap_cons, List.length_append, ih, List.length_cons, stC, List.length_nil]; omega
def zSt : Stp := ⟨0, 0, 0, 0, zRc⟩
def diskS (addr val : Int) : Stp := ⟨1, addr, val, 0, zRc⟩
def wipeS (b : Int) : Stp := ⟨2, 0, 0, b, zRc⟩
def writeS (b : Int) (r : Rc) : Stp := ⟨3, 0, 0, b, r⟩
/-- The slow disk is told what is dirty and lives on these pages. -/
def tellP (bs : List Bk) (ps : List Pg) : List Stp := ps.filterMap fun p => if liveB bs p && p.k == 1 then some (diskS p.a p.v) else none
def oldB (bs : List Bk) : Nat := oldN bs 3
def roomL (bs : List Bk) : List Stp := if (openR bs).2 then [] else tellP bs (bs.getD (oldB bs) zBk).ps ++ [wipeS (oldB bs)]
def roomB (bs : List Bk) : Int := if (openR bs).2 then (openR bs).1 else oldB bs
def roomO (bs : List Bk) : Bool := (openR bs).2 || decide ((bs.getD (oldB bs) zBk).wn < 200)
def writeP (bs : List Bk) (kind addr val : Int) : List Stp :=
  if roomO bs && recB kind (mostB bs + 1) addr val then roomL bs ++ [writeS (roomB bs) ⟨kind, mostB bs + 1, addr, val⟩] else []
def dirtyB (bs : List Bk) (addr : Int) : Bool := lastO bs addr && (lastR bs addr).k == 1
def readI (bs : List Bk) (dk : List Int) (addr : Int) : Int := if lastO bs addr then (lastR bs addr).v else dk.getD (addr - 1).toNat 0
def flushP (bs : List Bk) (dk : List Int) (addr : Int) : List Stp :=
  if inB addr 1 6 && dirtyB bs addr then (if (writeP bs 2 addr (readI bs dk addr)).isEmpty then [] else diskS addr (readI bs dk addr) :: writeP bs 2 addr (readI bs dk addr)) else []
def fillP (bs : List Bk) (dk : List Int) (addr : Int) : List Stp :=
  if inB addr 1 6 && !lastO bs addr then writeP bs 2 addr (dk.getD (addr - 1).toNat 0) else []

/-- A step that can be done without harm. -/
def stpB (x : Stp) : Bool := if x.kind = 1 then inB x.addr 1 6 else if x.kind = 2 then inB x.blk 0 3 else if x.kind = 3 then inB x.blk 0 3 && recB x.r.k x.r.s x.r.a x.r.v else true
def wrF (bs : List Bk) (k : Nat) (r : Rc) (torn : Bool) : List Bk := if wrN bs k r.s then bs else wrL bs k (pgW torn r.k r.s r.a r.v)
def wiF (bs : List Bk) (k : Nat) (torn : Bool) : List Bk := if wiN bs k then bs else wiL bs k torn
def doF (bs : List Bk) (x : Stp) (torn : Bool) : List Bk := if x.kind = 2 then wiF bs x.blk.toNat torn else if x.kind = 3 then wrF bs x.blk.toNat x.r torn else bs
def doD (dk : List Int) (x : Stp) (torn : Bool) : List Int := if x.kind = 1 then (if torn then dk else dk.set (x.addr - 1).toNat x.val) else dk
theorem okB_wrF (bs : List Bk) (k : Nat) (hk : k < 4) (hok : okB bs = true) (torn : Bool) (r : Rc) (hr : recB r.k r.s r.a r.v = true) : okB (wrF bs k r torn) = true := by
  unfold wrF
  cases h : wrN bs k r.s
  · exact okB_wr bs k hk hok torn _ _ _ _ hr h
  · exact hok
theorem okB_wiF (bs : List Bk) (k : Nat) (hk : k < 4) (hok : okB bs = true) (torn : Bool) : okB (wiF bs k torn) = true := by
  unfold wiF
  cases h : wiN bs k
  · exact okB_wi bs k hk hok torn h
  · exact hok
theorem okB_doF (bs : List Bk) (x : Stp) (torn : Bool) (hok : okB bs = true) (hx : stpB x = true) : okB (doF bs x torn) = true := by
  unfold doF; unfold stpB at hx
  by_cases h2 : x.kind = 2
  · rw [if_pos h2]
    rw [if_neg (by omega), if_pos h2] at hx
    simp [inB] at hx
    exact okB_wiF bs _ (by omega) hok torn
  · rw [if_neg h2]
    by_cases h3 : x.kind = 3
    · rw [if_pos h3]
      rw [if_neg (by omega), if_neg h2, if_pos h3] at hx
      simp [inB] at hx
      exact okB_wrF bs _ (by omega) hok torn _ hx.2
    · rw [if_neg h3]; exact hok
theorem len_doD (dk : List Int) (x : Stp) (torn : Bool) : (doD dk x torn).length = dk.length := by
  unfold doD; split
  · split <;> simp
  · rfl
def toF (bs : List Bk) : List Stp → List Bk | [] => bs | x :: r => toF (doF bs x false) r
def toD (dk : List Int) : List Stp → List Int | [] => dk | x :: r => toD (doD dk x false) r
end Go.Proofs.Ytkikeapfjpnkgaa.Pl
