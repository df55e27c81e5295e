/-
  Texts that belong together, one behind the other: ImplO, FindO.
-/
import Derived.Test.YtkikeapfjpnkgaaBaL
import Derived.Test.YtkikeapfjpnkgaaBaK
import Derived.Test.YtkikeapfjpnkgaaBaI

/-
  The program's finding of the block on which the next record is to be written.
-/
namespace Go.Proofs.Ytkikeapfjpnkgaa.ImplO
open Go.ChangeShapes Go.WideShapes Go.ChangeAt Go.RowKit OkA Big Fl ImplB ImplF ImplS _root_.Go.Proofs.Ytkikeapfjpnkgaa.Own ImplT ImplU SpecA SpecB SpecC SpecD SpecW SpecF SpecG SpecH Ok2
set_option linter.unusedVariables false
set_option linter.unusedSimpArgs false
attribute [local go_sem ↓] Go.wp_at_zero Go.wp_at_succ

def begB (b : Bk) : Bool := inB (usedN b.ps) 1 3
set_option maxHeartbeats 400000 in
theorem begun_any (b : Bk) (h4 : b.ps.length = 4) (w : World) :
    Calls Try.prog 89 #[.agg (bkC b).toArray] w fun e w' => e = .returned (.bool (begB b)) ∧ Below w.heap.size w w' := by
  have r0 := rangeAt_new w (bkC b) 73
  have b0 : Below w.heap.size w (w.alloc (.cells (bkC b).toArray 73)) := (Below.refl _ _).alloc (Nat.le_refl _) _
  have HB : Hid (begB b = inB (usedN b.ps) 1 3) := rfl
  have HS := hide (size_bkl h4)
  have HI := hide (fun (w' : World) => within_any (usedN b.ps) 1 3 w')
  go_enter Try.func89, Try.ntmps89
  go_wp2_with (first | (refine wpList_box_big rfl _ _ rfl (bkC b).toArray rfl ?_) | (refine wpList_load_mid rfl 73 _ rfl w.heap.size 0 rfl (bkC b) _ r0 Try.underlying73 rfl (unhide HS) ?_))
  refine (used_any b h4 _).mono ?_
  rintro e w1 ⟨rfl, b1⟩
  have B1 := b0.trans (b1.mono b0.size)
  clear b0 b1 r0
  generalize inB (usedN b.ps) 1 3 = x at *
  go_wp2_with (go_at_call 57; refine (unhide HI _).mono ?_; rintro e w' ⟨rfl, hw'⟩; obtain rfl := hw'.symm)
  go_ret
  exact ⟨by rw [unhide HB]; rfl, B1⟩

/-- What the program tells of the blocks from the i-th on, if o is the best that was met so far (f: whether there is one). -/
def openG (bs : List Bk) : List Bk → Nat → Nat → Bool → Int × Bool
  | [], _, o, f => (o, f)
  | b :: r, i, o, f => if begB b then ((i : Int), true) else if usedN b.ps = 0 ∧ (f = false ∨ b.wn < (bs.getD o zBk).wn) then openG bs r (i + 1) i true else openG bs r (i + 1) o f
def openI (bs : List Bk) : Int × Bool := openG bs bs 0 0 false

set_option maxRecDepth 100000 in
set_option maxHeartbeats 1000000 in
theorem openK_any (bs : List Bk) (h4 : bs.length = 4) (hF : Fours bs) (w : World) :
    Calls Try.prog 67 #[.agg (fsC bs).toArray] w fun e w' => OpPost w (openI bs) e w' := by
  have r0 := rangeAt_new w (fsC bs) 75
  have b0 : Below w.heap.size w (w.alloc (.cells (fsC bs).toArray 75)) := (Below.refl _ _).alloc (Nat.le_refl _) _
  have HR0 : Hid (openG bs bs 0 0 false = openI bs) := rfl
  generalize openI bs = R at *
  go_enter Try.func67, Try.ntmps67
  go_wp2_with (first | (refine wpList_box_big rfl _ _ rfl (fsC bs).toArray rfl ?_) | (refine wpList_load_mid rfl 75 _ rfl w.heap.size 0 rfl (fsC bs) _ r0 Try.underlying75 rfl (size_fsl hF h4) ?_))
  generalize hw1 : w.alloc (.cells (fsC bs).toArray 75) = w1 at *
  have s1 : w.heap.size < w1.heap.size := by rw [← hw1]; simp
  have HRG := hide r0
  clear hw1 r0
  go_loopw [4, 5, 9] (fun p q i w' => ∃ (k o : Nat) (f : Bool), k ≤ 4 ∧ i = .int .i64 k ∧ p = .int .i64 (o : Nat) ∧ q = .bool f ∧ o < 4 ∧ Hid (openG bs (bs.drop k) k o f = R) ∧ Below w1.heap.size w1 w') (fun _ _ i _ => 4 - (intOf i).toNat)
  case atStart => exact ⟨0, 0, false, by omega, rfl, rfl, rfl, by omega, HR0, Below.refl _ _⟩
  case round =>
    obtain ⟨k, o, f, hk, rfl, rfl, rfl, ho, HR, bw⟩ := hrel
    have hsz := bw.size
    by_cases h0 : k = 4
    · subst h0
      have HE : Hid (R = ((o : Int), f)) := by
        show _ = _
        have := unhide HR
        rw [List.drop_eq_nil_of_le (by omega)] at this
        exact this.symm
      clear HR
      go_wp2
      go_ret2
      exact ⟨by rw [unhide HE]; rfl, b0.trans (bw.mono (by omega))⟩
    · have hlt : (k : Int) < 4 := by omega
      have hkb : k < bs.length := by omega
      have hob : o < bs.length := by omega
      have hlo : (0 : Int) ≤ (k : Int) := by omega
      have hoo : (0 : Int) ≤ (o : Int) := by omega
      have hol : (o : Int) < 4 := by omega
      have HE := hide (ext_fs hF k hkb)
      have hb4 : bs[k].ps.length = 4 := hF.at k hkb
      have HRK : Hid (openG bs (bs.drop k) k o f = if begB bs[k] then ((k : Int), true) else if usedN bs[k].ps = 0 ∧ (f = false ∨ bs[k].wn < bs[o].wn) then openG bs (bs.drop (k + 1)) (k + 1) k true else openG bs (bs.drop (k + 1)) (k + 1) o f) := by
        show _ = _
        rw [List.drop_eq_getElem_cons hkb]
        simp only [openG]
        rw [getD_at bs o hob]
      have rw1 := rangeAt_below (unhide HRG) bw s1
      have co := worn_bk (hF.at o hob) (sub_fs hF rw1 o hob)
      rw [unhide HRK] at HR
      clear HRK rw1
      generalize bs[k] = b at *
      generalize bs[o].wn = wo at *
      have rb := rangeAt_new wr (bkC b) 73
      have cb := worn_bk hb4 rb
      rw [Nat.zero_add] at cb
      have bw2 := bw.alloc hsz (.cells (bkC b).toArray 73)
      have co2 : (wr.alloc (.cells (bkC b).toArray 73)).cell? ⟨w.heap.size, o * 21 + 20, none⟩ = some (.int .i64 wo) := by
        rw [World.cell?_alloc_lt _ _ _ (by show w.heap.size < _; omega)]; exact co
      have sl : wr.heap.size < (wr.alloc (.cells (bkC b).toArray 73)).heap.size := by simp
      have HSB := hide (size_bkl hb4)
      have HCB := hide (fun (w' : World) => begun_any b hb4 w')
      have HCU := hide (fun (w' : World) => used_any b hb4 w')
      have hul := usedN_le b.ps
      have hu4 : usedN b.ps ≤ 4 := by omega
      clear hul co
      cases hbg : begB b
      rotate_left
      · rw [hbg] at HCB HR
        rw [if_pos rfl] at HR
        go_wp2_with (first | (refine wpList_index_big rfl 75 _ _ rfl (fsC bs).toArray _ (k : Int) rfl rfl 73 4 21 _ Try.underlying75 Try.underlying73 rfl (by kernel_rfl) hlo hlt (unhide HE) ?_) | (refine wpList_alloc_big rfl 73 rfl (bkC zBk).toArray zero_bk ?_) | (refine wpList_store_new rfl 73 _ _ rfl wr (bkC zBk).toArray (bkC b).toArray rfl rfl rfl (size_bk hb4) (same_bk hb4) (one_bk b) ?_) | (refine wpList_load_mid rfl 73 _ rfl wr.heap.size 0 rfl (bkC b) _ rb Try.underlying73 rfl (unhide HSB) ?_) | (go_at_call 89; refine (unhide HCB _).mono ?_; rintro e w3 ⟨rfl, b3⟩; clear rb cb co2))
        go_ret2
        exact ⟨by rw [← unhide HR]; rfl, b0.trans ((bw2.trans (b3.mono bw2.size)).mono (by omega))⟩
      rw [hbg] at HCB HR
      rw [if_neg (by simp)] at HR
      go_wp2_with (first | (refine wpList_index_big rfl 75 _ _ rfl (fsC bs).toArray _ (k : Int) rfl rfl 73 4 21 _ Try.underlying75 Try.underlying73 rfl (by kernel_rfl) hlo hlt (unhide HE) ?_) | (refine wpList_alloc_big rfl 73 rfl (bkC zBk).toArray zero_bk ?_) | (refine wpList_store_new rfl 73 _ _ rfl wr (bkC zBk).toArray (bkC b).toArray rfl rfl rfl (size_bk hb4) (same_bk hb4) (one_bk b) ?_) | (refine wpList_load_mid rfl 73 _ rfl wr.heap.size 0 rfl (bkC b) _ rb Try.underlying73 rfl (unhide HSB) ?_) | (go_at_call 89; refine (unhide HCB _).mono ?_; rintro e w3 ⟨rfl, b3⟩))
      have R3 := rangeAt_below rb b3 sl
      have C3 : w3.cell? ⟨w.heap.size, o * 21 + 20, none⟩ = some (.int .i64 wo) := (b3.cell (p := ⟨w.heap.size, o * 21 + 20, none⟩) (by show w.heap.size < _; omega)).trans co2
      have B3 := bw2.trans (b3.mono bw2.size)
      have s3 := b3.size
      clear rb cb co2 b3 bw2 HCB HE bw
      have sl3 : wr.heap.size < w3.heap.size := by omega
      have sw3 : w.heap.size < w3.heap.size := by omega
      clear sl s3
      generalize wr.heap.size = bb at *
      by_cases hu0 : usedN b.ps = 0
      · have g0 : ((usedN b.ps : Int) == 0) = true := by simp; omega
        cases f
        · rw [if_pos ⟨hu0, .inl rfl⟩] at HR
          have HU := hide hu0
          clear hu0
          refine wp_region_noPanic ?_
          refine wp_region_held_drew (S := fun w' => w'.rangeAt bb 0 (bkC b) ∧ w'.cell? ⟨w.heap.size, o * 21 + 20, none⟩ = some (.int .i64 wo)) (by kernel_rfl) (⟨by simpa using R3, by simpa using C3⟩) (fun hHeld => ?_)
          refine takeL 0 (_) rfl (by kernel_rfl) (by kernel_rfl) (by kernel_rfl) (fun _ _ _ h => h) (yieldsIf_load_mid rfl 73 _ rfl bb 0 rfl (bkC b) _ (fun _ h => h.1) Try.underlying73 rfl (unhide HSB)) hHeld ?_
          try simp only [Act.put, List.setIfInBounds_toArray, List.set_cons_zero, List.set_cons_succ]
          refine oneL 1 rfl (by kernel_rfl) rfl (fun K hK => ?_)
          go_simp
          refine (unhide HCU _).mono ?_
          rintro e w4 ⟨rfl, b4⟩
          go_wp2_with fail
          refine hK.out _ _ ⟨rangeAt_below hHeld.1 b4 (by simpa using sl3), by rw [b4.cell (p := ⟨w.heap.size, o * 21 + 20, none⟩) (by simpa using sw3)]; exact hHeld.2⟩ (fun hHeld => ?_)
          clear hK K
          try simp only [Act.put, List.setIfInBounds_toArray, List.set_cons_zero, List.set_cons_succ]
          refine takeL 2 (.bool true) rfl (by kernel_rfl) (by kernel_rfl) (by kernel_rfl) (fun _ _ _ h => h) (Or.inl ⟨rfl, fun w9 hSw => by go_simp⟩) hHeld ?_
          try simp only [Act.put, List.setIfInBounds_toArray, List.set_cons_zero, List.set_cons_succ]
          refine takeL 3 (.bool true) rfl (by kernel_rfl) (by kernel_rfl) (by kernel_rfl) (fun _ _ _ h => h) (Or.inl ⟨rfl, fun _ _ => rfl⟩) hHeld ?_
          try simp only [Act.put, List.setIfInBounds_toArray, List.set_cons_zero, List.set_cons_succ]
          refine takeL 4 (.bool false) rfl (by kernel_rfl) (by kernel_rfl) (by kernel_rfl) (fun _ _ _ h => h) (Or.inl ⟨rfl, fun _ _ => rfl⟩) hHeld ?_
          try simp only [Act.put, List.setIfInBounds_toArray, List.set_cons_zero, List.set_cons_succ]
          refine takeL 5 (.bool true) rfl (by kernel_rfl) (by kernel_rfl) (by kernel_rfl) (fun _ _ _ h => h) (Or.inl ⟨rfl, fun w9 hSw => by go_simp⟩) hHeld ?_
          try simp only [Act.put, List.setIfInBounds_toArray, List.set_cons_zero, List.set_cons_succ]
          refine takeL 6 (.bool true) rfl (by kernel_rfl) (by kernel_rfl) (by kernel_rfl) (fun _ _ _ h => h) (Or.inl ⟨rfl, fun _ _ => rfl⟩) hHeld ?_
          try simp only [Act.put, List.setIfInBounds_toArray, List.set_cons_zero, List.set_cons_succ]
          refine takeL 7 (undef) rfl (by kernel_rfl) (by kernel_rfl) (by kernel_rfl) (fun _ _ _ h => h) (Or.inr ⟨rfl, rfl⟩) hHeld ?_
          try simp only [Act.put, List.setIfInBounds_toArray, List.set_cons_zero, List.set_cons_succ]
          refine takeL 8 (undef) rfl (by kernel_rfl) (by kernel_rfl) (by kernel_rfl) (fun _ _ _ h => h) (Or.inr ⟨rfl, rfl⟩) hHeld ?_
          try simp only [Act.put, List.setIfInBounds_toArray, List.set_cons_zero, List.set_cons_succ]
          refine takeL 9 (undef) rfl (by kernel_rfl) (by kernel_rfl) (by kernel_rfl) (fun _ _ _ h => h) (Or.inr ⟨rfl, rfl⟩) hHeld ?_
          try simp only [Act.put, List.setIfInBounds_toArray, List.set_cons_zero, List.set_cons_succ]
          refine takeL 10 (undef) rfl (by kernel_rfl) (by kernel_rfl) (by kernel_rfl) (fun _ _ _ h => h) (Or.inr ⟨rfl, rfl⟩) hHeld ?_
          try simp only [Act.put, List.setIfInBounds_toArray, List.set_cons_zero, List.set_cons_succ]
          refine takeL 11 (undef) rfl (by kernel_rfl) (by kernel_rfl) (by kernel_rfl) (fun _ _ _ h => h) (Or.inr ⟨rfl, rfl⟩) hHeld ?_
          try simp only [Act.put, List.setIfInBounds_toArray, List.set_cons_zero, List.set_cons_succ]
          refine takeL 12 (undef) rfl (by kernel_rfl) (by kernel_rfl) (by kernel_rfl) (fun _ _ _ h => h) (Or.inr ⟨rfl, rfl⟩) hHeld ?_
          try simp only [Act.put, List.setIfInBounds_toArray, List.set_cons_zero, List.set_cons_succ]
          refine takeL 13 (undef) rfl (by kernel_rfl) (by kernel_rfl) (by kernel_rfl) (fun _ _ _ h => h) (Or.inr ⟨rfl, rfl⟩) hHeld ?_
          try simp only [Act.put, List.setIfInBounds_toArray, List.set_cons_zero, List.set_cons_succ]
          refine takeL 14 (.bool true) rfl (by kernel_rfl) (by kernel_rfl) (by kernel_rfl) (fun _ _ _ h => h) (Or.inl ⟨rfl, fun w9 hSw => by go_simp⟩) hHeld ?_
          try simp only [Act.put, List.setIfInBounds_toArray, List.set_cons_zero, List.set_cons_succ]
          refine takeL 15 (.bool true) rfl (by kernel_rfl) (by kernel_rfl) (by kernel_rfl) (fun _ _ _ h => h) (Or.inl ⟨rfl, fun w9 hSw => by go_simp⟩) hHeld ?_
          try simp only [Act.put, List.setIfInBounds_toArray, List.set_cons_zero, List.set_cons_succ]
          refine wpAnyH_done (by kernel_rfl) ?_ _
          refine NoPanic.normal ?_
          have B4 := B3.drew.trans (b4.mono B3.drew.size)
          clear hHeld b4 R3 C3 B3
          go_wp2
          go_roundw
          case rel => exact ⟨k + 1, k, true, by omega, by first | rfl | go_num, rfl, rfl, by omega, HR, B4⟩
          case measure => simp [intOf]; omega
        · by_cases hm : b.wn < wo
          · rw [if_pos ⟨hu0, .inr hm⟩] at HR
            have hd : decide (b.wn < wo) = true := by simpa using hm
            clear hu0 hm
            refine wp_region_noPanic ?_
            refine wp_region_held_drew (S := fun w' => w'.rangeAt bb 0 (bkC b) ∧ w'.cell? ⟨w.heap.size, o * 21 + 20, none⟩ = some (.int .i64 wo)) (by kernel_rfl) (⟨by simpa using R3, by simpa using C3⟩) (fun hHeld => ?_)
            refine takeL 0 (_) rfl (by kernel_rfl) (by kernel_rfl) (by kernel_rfl) (fun _ _ _ h => h) (yieldsIf_load_mid rfl 73 _ rfl bb 0 rfl (bkC b) _ (fun _ h => h.1) Try.underlying73 rfl (unhide HSB)) hHeld ?_
            try simp only [Act.put, List.setIfInBounds_toArray, List.set_cons_zero, List.set_cons_succ]
            refine oneL 1 rfl (by kernel_rfl) rfl (fun K hK => ?_)
            go_simp
            refine (unhide HCU _).mono ?_
            rintro e w4 ⟨rfl, b4⟩
            go_wp2_with fail
            refine hK.out _ _ ⟨rangeAt_below hHeld.1 b4 (by simpa using sl3), by rw [b4.cell (p := ⟨w.heap.size, o * 21 + 20, none⟩) (by simpa using sw3)]; exact hHeld.2⟩ (fun hHeld => ?_)
            clear hK K
            try simp only [Act.put, List.setIfInBounds_toArray, List.set_cons_zero, List.set_cons_succ]
            refine takeL 2 (.bool true) rfl (by kernel_rfl) (by kernel_rfl) (by kernel_rfl) (fun _ _ _ h => h) (Or.inl ⟨rfl, fun w9 hSw => by go_simp⟩) hHeld ?_
            try simp only [Act.put, List.setIfInBounds_toArray, List.set_cons_zero, List.set_cons_succ]
            refine takeL 3 (.bool true) rfl (by kernel_rfl) (by kernel_rfl) (by kernel_rfl) (fun _ _ _ h => h) (Or.inl ⟨rfl, fun _ _ => rfl⟩) hHeld ?_
            try simp only [Act.put, List.setIfInBounds_toArray, List.set_cons_zero, List.set_cons_succ]
            refine takeL 4 (.bool true) rfl (by kernel_rfl) (by kernel_rfl) (by kernel_rfl) (fun _ _ _ h => h) (Or.inl ⟨rfl, fun _ _ => rfl⟩) hHeld ?_
            try simp only [Act.put, List.setIfInBounds_toArray, List.set_cons_zero, List.set_cons_succ]
            refine takeL 5 (.bool false) rfl (by kernel_rfl) (by kernel_rfl) (by kernel_rfl) (fun _ _ _ h => h) (Or.inl ⟨rfl, fun w9 hSw => by go_simp⟩) hHeld ?_
            try simp only [Act.put, List.setIfInBounds_toArray, List.set_cons_zero, List.set_cons_succ]
            refine takeL 6 (.bool false) rfl (by kernel_rfl) (by kernel_rfl) (by kernel_rfl) (fun _ _ _ h => h) (Or.inl ⟨rfl, fun _ _ => rfl⟩) hHeld ?_
            try simp only [Act.put, List.setIfInBounds_toArray, List.set_cons_zero, List.set_cons_succ]
            refine takeL 7 (.pointer (some ⟨bb, 20, none⟩)) rfl (by kernel_rfl) (by kernel_rfl) (by kernel_rfl) (fun _ _ _ h => h) (Or.inl ⟨rfl, fun w9 hSw => by go_simp⟩) hHeld ?_
            try simp only [Act.put, List.setIfInBounds_toArray, List.set_cons_zero, List.set_cons_succ]
            refine takeL 8 (.int .i64 b.wn) rfl (by kernel_rfl) (by kernel_rfl) (by kernel_rfl) (fun _ _ _ h => h) (Or.inl ⟨rfl, fun w9 hSw => by have hc := worn_bk hb4 hSw.1; rw [Nat.zero_add] at hc; go_simp⟩) hHeld ?_
            try simp only [Act.put, List.setIfInBounds_toArray, List.set_cons_zero, List.set_cons_succ]
            refine takeL 9 (.int .i64 (o : Nat)) rfl (by kernel_rfl) (by kernel_rfl) (by kernel_rfl) (fun _ _ _ h => h) (Or.inl ⟨rfl, fun _ _ => rfl⟩) hHeld ?_
            try simp only [Act.put, List.setIfInBounds_toArray, List.set_cons_zero, List.set_cons_succ]
            refine takeL 10 (.pointer (some ⟨w.heap.size, o * 21, none⟩)) rfl (by kernel_rfl) (by kernel_rfl) (by kernel_rfl) (fun _ _ _ h => h) (Or.inl ⟨rfl, fun w9 hSw => by go_simp⟩) hHeld ?_
            try simp only [Act.put, List.setIfInBounds_toArray, List.set_cons_zero, List.set_cons_succ]
            refine takeL 11 (.pointer (some ⟨w.heap.size, o * 21 + 20, none⟩)) rfl (by kernel_rfl) (by kernel_rfl) (by kernel_rfl) (fun _ _ _ h => h) (Or.inl ⟨rfl, fun w9 hSw => by go_simp⟩) hHeld ?_
            try simp only [Act.put, List.setIfInBounds_toArray, List.set_cons_zero, List.set_cons_succ]
            refine takeL 12 (.int .i64 wo) rfl (by kernel_rfl) (by kernel_rfl) (by kernel_rfl) (fun _ _ _ h => h) (Or.inl ⟨rfl, fun w9 hSw => by have hc := hSw.2; go_simp⟩) hHeld ?_
            try simp only [Act.put, List.setIfInBounds_toArray, List.set_cons_zero, List.set_cons_succ]
            refine takeL 13 (.bool (decide (b.wn < wo))) rfl (by kernel_rfl) (by kernel_rfl) (by kernel_rfl) (fun _ _ _ h => h) (Or.inl ⟨rfl, fun w9 hSw => by go_simp⟩) hHeld ?_
            try simp only [Act.put, List.setIfInBounds_toArray, List.set_cons_zero, List.set_cons_succ]
            refine takeL 14 (.bool (decide (b.wn < wo))) rfl (by kernel_rfl) (by kernel_rfl) (by kernel_rfl) (fun _ _ _ h => h) (Or.inl ⟨rfl, fun w9 hSw => by go_simp⟩) hHeld ?_
            try simp only [Act.put, List.setIfInBounds_toArray, List.set_cons_zero, List.set_cons_succ]
            refine takeL 15 (.bool (decide (b.wn < wo))) rfl (by kernel_rfl) (by kernel_rfl) (by kernel_rfl) (fun _ _ _ h => h) (Or.inl ⟨rfl, fun w9 hSw => by go_simp⟩) hHeld ?_
            try simp only [Act.put, List.setIfInBounds_toArray, List.set_cons_zero, List.set_cons_succ]
            refine wpAnyH_done (by kernel_rfl) ?_ _
            refine NoPanic.normal ?_
            have B4 := B3.drew.trans (b4.mono B3.drew.size)
            clear hHeld b4 R3 C3 B3
            rw [hd]
            go_wp2
            go_roundw
            case rel => exact ⟨k + 1, k, true, by omega, by first | rfl | go_num, rfl, rfl, by omega, HR, B4⟩
            case measure => simp [intOf]; omega
          · rw [if_neg (fun h => h.2.elim (fun h => by cases h) hm)] at HR
            have hd : decide (b.wn < wo) = false := by simpa using hm
            clear hu0 hm
            refine wp_region_noPanic ?_
            refine wp_region_held_drew (S := fun w' => w'.rangeAt bb 0 (bkC b) ∧ w'.cell? ⟨w.heap.size, o * 21 + 20, none⟩ = some (.int .i64 wo)) (by kernel_rfl) (⟨by simpa using R3, by simpa using C3⟩) (fun hHeld => ?_)
            refine takeL 0 (_) rfl (by kernel_rfl) (by kernel_rfl) (by kernel_rfl) (fun _ _ _ h => h) (yieldsIf_load_mid rfl 73 _ rfl bb 0 rfl (bkC b) _ (fun _ h => h.1) Try.underlying73 rfl (unhide HSB)) hHeld ?_
            try simp only [Act.put, List.setIfInBounds_toArray, List.set_cons_zero, List.set_cons_succ]
            refine oneL 1 rfl (by kernel_rfl) rfl (fun K hK => ?_)
            go_simp
            refine (unhide HCU _).mono ?_
            rintro e w4 ⟨rfl, b4⟩
            go_wp2_with fail
            refine hK.out _ _ ⟨rangeAt_below hHeld.1 b4 (by simpa using sl3), by rw [b4.cell (p := ⟨w.heap.size, o * 21 + 20, none⟩) (by simpa using sw3)]; exact hHeld.2⟩ (fun hHeld => ?_)
            clear hK K
            try simp only [Act.put, List.setIfInBounds_toArray, List.set_cons_zero, List.set_cons_succ]
            refine takeL 2 (.bool true) rfl (by kernel_rfl) (by kernel_rfl) (by kernel_rfl) (fun _ _ _ h => h) (Or.inl ⟨rfl, fun w9 hSw => by go_simp⟩) hHeld ?_
            try simp only [Act.put, List.setIfInBounds_toArray, List.set_cons_zero, List.set_cons_succ]
            refine takeL 3 (.bool true) rfl (by kernel_rfl) (by kernel_rfl) (by kernel_rfl) (fun _ _ _ h => h) (Or.inl ⟨rfl, fun _ _ => rfl⟩) hHeld ?_
            try simp only [Act.put, List.setIfInBounds_toArray, List.set_cons_zero, List.set_cons_succ]
            refine takeL 4 (.bool true) rfl (by kernel_rfl) (by kernel_rfl) (by kernel_rfl) (fun _ _ _ h => h) (Or.inl ⟨rfl, fun _ _ => rfl⟩) hHeld ?_
            try simp only [Act.put, List.setIfInBounds_toArray, List.set_cons_zero, List.set_cons_succ]
            refine takeL 5 (.bool false) rfl (by kernel_rfl) (by kernel_rfl) (by kernel_rfl) (fun _ _ _ h => h) (Or.inl ⟨rfl, fun w9 hSw => by go_simp⟩) hHeld ?_
            try simp only [Act.put, List.setIfInBounds_toArray, List.set_cons_zero, List.set_cons_succ]
            refine takeL 6 (.bool false) rfl (by kernel_rfl) (by kernel_rfl) (by kernel_rfl) (fun _ _ _ h => h) (Or.inl ⟨rfl, fun _ _ => rfl⟩) hHeld ?_
            try simp only [Act.put, List.setIfInBounds_toArray, List.set_cons_zero, List.set_cons_succ]
            refine takeL 7 (.pointer (some ⟨bb, 20, none⟩)) rfl (by kernel_rfl) (by kernel_rfl) (by kernel_rfl) (fun _ _ _ h => h) (Or.inl ⟨rfl, fun w9 hSw => by go_simp⟩) hHeld ?_
            try simp only [Act.put, List.setIfInBounds_toArray, List.set_cons_zero, List.set_cons_succ]
            refine takeL 8 (.int .i64 b.wn) rfl (by kernel_rfl) (by kernel_rfl) (by kernel_rfl) (fun _ _ _ h => h) (Or.inl ⟨rfl, fun w9 hSw => by have hc := worn_bk hb4 hSw.1; rw [Nat.zero_add] at hc; go_simp⟩) hHeld ?_
            try simp only [Act.put, List.setIfInBounds_toArray, List.set_cons_zero, List.set_cons_succ]
            refine takeL 9 (.int .i64 (o : Nat)) rfl (by kernel_rfl) (by kernel_rfl) (by kernel_rfl) (fun _ _ _ h => h) (Or.inl ⟨rfl, fun _ _ => rfl⟩) hHeld ?_
            try simp only [Act.put, List.setIfInBounds_toArray, List.set_cons_zero, List.set_cons_succ]
            refine takeL 10 (.pointer (some ⟨w.heap.size, o * 21, none⟩)) rfl (by kernel_rfl) (by kernel_rfl) (by kernel_rfl) (fun _ _ _ h => h) (Or.inl ⟨rfl, fun w9 hSw => by go_simp⟩) hHeld ?_
            try simp only [Act.put, List.setIfInBounds_toArray, List.set_cons_zero, List.set_cons_succ]
            refine takeL 11 (.pointer (some ⟨w.heap.size, o * 21 + 20, none⟩)) rfl (by kernel_rfl) (by kernel_rfl) (by kernel_rfl) (fun _ _ _ h => h) (Or.inl ⟨rfl, fun w9 hSw => by go_simp⟩) hHeld ?_
            try simp only [Act.put, List.setIfInBounds_toArray, List.set_cons_zero, List.set_cons_succ]
            refine takeL 12 (.int .i64 wo) rfl (by kernel_rfl) (by kernel_rfl) (by kernel_rfl) (fun _ _ _ h => h) (Or.inl ⟨rfl, fun w9 hSw => by have hc := hSw.2; go_simp⟩) hHeld ?_
            try simp only [Act.put, List.setIfInBounds_toArray, List.set_cons_zero, List.set_cons_succ]
            refine takeL 13 (.bool (decide (b.wn < wo))) rfl (by kernel_rfl) (by kernel_rfl) (by kernel_rfl) (fun _ _ _ h => h) (Or.inl ⟨rfl, fun w9 hSw => by go_simp⟩) hHeld ?_
            try simp only [Act.put, List.setIfInBounds_toArray, List.set_cons_zero, List.set_cons_succ]
            refine takeL 14 (.bool (decide (b.wn < wo))) rfl (by kernel_rfl) (by kernel_rfl) (by kernel_rfl) (fun _ _ _ h => h) (Or.inl ⟨rfl, fun w9 hSw => by go_simp⟩) hHeld ?_
            try simp only [Act.put, List.setIfInBounds_toArray, List.set_cons_zero, List.set_cons_succ]
            refine takeL 15 (.bool (decide (b.wn < wo))) rfl (by kernel_rfl) (by kernel_rfl) (by kernel_rfl) (fun _ _ _ h => h) (Or.inl ⟨rfl, fun w9 hSw => by go_simp⟩) hHeld ?_
            try simp only [Act.put, List.setIfInBounds_toArray, List.set_cons_zero, List.set_cons_succ]
            refine wpAnyH_done (by kernel_rfl) ?_ _
            refine NoPanic.normal ?_
            have B4 := B3.drew.trans (b4.mono B3.drew.size)
            clear hHeld b4 R3 C3 B3
            rw [hd]
            go_wp2
            go_roundw
            case rel => exact ⟨k + 1, o, true, by omega, by first | rfl | go_num, rfl, rfl, by omega, HR, B4⟩
            case measure => simp [intOf]; omega
      · have g0 : ((usedN b.ps : Int) == 0) = false := by simp; omega
        rw [if_neg (fun h => hu0 h.1)] at HR
        clear hu0
        refine wp_region_noPanic ?_
        refine wp_region_held_drew (S := fun w' => w'.rangeAt bb 0 (bkC b) ∧ w'.cell? ⟨w.heap.size, o * 21 + 20, none⟩ = some (.int .i64 wo)) (by kernel_rfl) (⟨by simpa using R3, by simpa using C3⟩) (fun hHeld => ?_)
        refine takeL 0 (_) rfl (by kernel_rfl) (by kernel_rfl) (by kernel_rfl) (fun _ _ _ h => h) (yieldsIf_load_mid rfl 73 _ rfl bb 0 rfl (bkC b) _ (fun _ h => h.1) Try.underlying73 rfl (unhide HSB)) hHeld ?_
        try simp only [Act.put, List.setIfInBounds_toArray, List.set_cons_zero, List.set_cons_succ]
        refine oneL 1 rfl (by kernel_rfl) rfl (fun K hK => ?_)
        go_simp
        refine (unhide HCU _).mono ?_
        rintro e w4 ⟨rfl, b4⟩
        go_wp2_with fail
        refine hK.out _ _ ⟨rangeAt_below hHeld.1 b4 (by simpa using sl3), by rw [b4.cell (p := ⟨w.heap.size, o * 21 + 20, none⟩) (by simpa using sw3)]; exact hHeld.2⟩ (fun hHeld => ?_)
        clear hK K
        try simp only [Act.put, List.setIfInBounds_toArray, List.set_cons_zero, List.set_cons_succ]
        refine takeL 2 (.bool false) rfl (by kernel_rfl) (by kernel_rfl) (by kernel_rfl) (fun _ _ _ h => h) (Or.inl ⟨rfl, fun w9 hSw => by go_simp⟩) hHeld ?_
        try simp only [Act.put, List.setIfInBounds_toArray, List.set_cons_zero, List.set_cons_succ]
        refine takeL 3 (.bool false) rfl (by kernel_rfl) (by kernel_rfl) (by kernel_rfl) (fun _ _ _ h => h) (Or.inl ⟨rfl, fun _ _ => rfl⟩) hHeld ?_
        try simp only [Act.put, List.setIfInBounds_toArray, List.set_cons_zero, List.set_cons_succ]
        refine takeL 4 (undef) rfl (by kernel_rfl) (by kernel_rfl) (by kernel_rfl) (fun _ _ _ h => h) (Or.inr ⟨rfl, rfl⟩) hHeld ?_
        try simp only [Act.put, List.setIfInBounds_toArray, List.set_cons_zero, List.set_cons_succ]
        refine takeL 5 (undef) rfl (by kernel_rfl) (by kernel_rfl) (by kernel_rfl) (fun _ _ _ h => h) (Or.inr ⟨rfl, rfl⟩) hHeld ?_
        try simp only [Act.put, List.setIfInBounds_toArray, List.set_cons_zero, List.set_cons_succ]
        refine takeL 6 (undef) rfl (by kernel_rfl) (by kernel_rfl) (by kernel_rfl) (fun _ _ _ h => h) (Or.inr ⟨rfl, rfl⟩) hHeld ?_
        try simp only [Act.put, List.setIfInBounds_toArray, List.set_cons_zero, List.set_cons_succ]
        refine takeL 7 (undef) rfl (by kernel_rfl) (by kernel_rfl) (by kernel_rfl) (fun _ _ _ h => h) (Or.inr ⟨rfl, rfl⟩) hHeld ?_
        try simp only [Act.put, List.setIfInBounds_toArray, List.set_cons_zero, List.set_cons_succ]
        refine takeL 8 (undef) rfl (by kernel_rfl) (by kernel_rfl) (by kernel_rfl) (fun _ _ _ h => h) (Or.inr ⟨rfl, rfl⟩) hHeld ?_
        try simp only [Act.put, List.setIfInBounds_toArray, List.set_cons_zero, List.set_cons_succ]
        refine takeL 9 (undef) rfl (by kernel_rfl) (by kernel_rfl) (by kernel_rfl) (fun _ _ _ h => h) (Or.inr ⟨rfl, rfl⟩) hHeld ?_
        try simp only [Act.put, List.setIfInBounds_toArray, List.set_cons_zero, List.set_cons_succ]
        refine takeL 10 (undef) rfl (by kernel_rfl) (by kernel_rfl) (by kernel_rfl) (fun _ _ _ h => h) (Or.inr ⟨rfl, rfl⟩) hHeld ?_
        try simp only [Act.put, List.setIfInBounds_toArray, List.set_cons_zero, List.set_cons_succ]
        refine takeL 11 (undef) rfl (by kernel_rfl) (by kernel_rfl) (by kernel_rfl) (fun _ _ _ h => h) (Or.inr ⟨rfl, rfl⟩) hHeld ?_
        try simp only [Act.put, List.setIfInBounds_toArray, List.set_cons_zero, List.set_cons_succ]
        refine takeL 12 (undef) rfl (by kernel_rfl) (by kernel_rfl) (by kernel_rfl) (fun _ _ _ h => h) (Or.inr ⟨rfl, rfl⟩) hHeld ?_
        try simp only [Act.put, List.setIfInBounds_toArray, List.set_cons_zero, List.set_cons_succ]
        refine takeL 13 (undef) rfl (by kernel_rfl) (by kernel_rfl) (by kernel_rfl) (fun _ _ _ h => h) (Or.inr ⟨rfl, rfl⟩) hHeld ?_
        try simp only [Act.put, List.setIfInBounds_toArray, List.set_cons_zero, List.set_cons_succ]
        refine takeL 14 (undef) rfl (by kernel_rfl) (by kernel_rfl) (by kernel_rfl) (fun _ _ _ h => h) (Or.inr ⟨rfl, rfl⟩) hHeld ?_
        try simp only [Act.put, List.setIfInBounds_toArray, List.set_cons_zero, List.set_cons_succ]
        refine takeL 15 (.bool false) rfl (by kernel_rfl) (by kernel_rfl) (by kernel_rfl) (fun _ _ _ h => h) (Or.inl ⟨rfl, fun w9 hSw => by go_simp⟩) hHeld ?_
        try simp only [Act.put, List.setIfInBounds_toArray, List.set_cons_zero, List.set_cons_succ]
        refine wpAnyH_done (by kernel_rfl) ?_ _
        refine NoPanic.normal ?_
        have B4 := B3.drew.trans (b4.mono B3.drew.size)
        clear hHeld b4 R3 C3 B3
        go_wp2
        go_roundw
        case rel => exact ⟨k + 1, o, f, by omega, by first | rfl | go_num, rfl, rfl, by omega, HR, B4⟩
        case measure => simp [intOf]; omega
end Go.Proofs.Ytkikeapfjpnkgaa.ImplO

/-
  FindOpen, of the program and of the specification: both answer the same.
-/
namespace Go.Proofs.Ytkikeapfjpnkgaa.FindO
open Go.ChangeShapes Go.WideShapes Go.ChangeAt Go.RowKit OkA Big Fl ImplB ImplF ImplS _root_.Go.Proofs.Ytkikeapfjpnkgaa.Own ImplT ImplU SpecA SpecB SpecC SpecD SpecW SpecF SpecG SpecH Ok2 ImplO SpecX
set_option linter.unusedVariables false
set_option linter.unusedSimpArgs false

/-! Plain lists. -/
theorem openG_F (bs : List Bk) : ∀ (l : List Bk) (i o : Nat) (f : Bool), (∀ b ∈ l, b.ps.length = 4 ∧ tailB b.ps = true) → (f = false → o = 0) →
    openG bs l i o f = openF bs l i (if f then (o : Int) else -1)
  | [], i, o, f, _, h0 => by
    cases f
    · have := h0 rfl; subst this; rfl
    · simp only [openG, openF, if_true]
      have h1 : ¬ (o : Int) < 0 := by omega
      have h2 : (0 : Int) ≤ (o : Int) := by omega
      rw [if_neg h1]; simp [h2]
  | b :: r, i, o, f, hl, h0 => by
    obtain ⟨h4, ht⟩ := hl b (by simp)
    have hcu := clean_used b.ps ht
    rw [h4] at hcu
    have ih := fun i o f h => openG_F bs r i o f (fun x hx => hl x (by simp [hx])) h
    simp only [openG, openF]
    by_cases hb : 0 < cleanN b.ps ∧ cleanN b.ps < 4
    · rw [if_pos hb, if_pos (by simp [begB, inB]; omega)]
    · rw [if_neg hb, if_neg (by simp [begB, inB]; omega)]
      by_cases hz : usedN b.ps = 0
      · cases f
        · rw [if_pos ⟨hz, .inl rfl⟩, ih (i + 1) i true (fun h => by cases h)]
          have e : (0 < cleanN b.ps ∧ ((-1 : Int) < 0 ∨ b.wn < (bs.getD (-1 : Int).toNat zBk).wn)) := ⟨by omega, .inl (by omega)⟩
          simp only [Bool.false_eq_true, if_true, if_false]
          rw [if_pos e]
        · by_cases hw : b.wn < (bs.getD o zBk).wn
          · rw [if_pos ⟨hz, .inr hw⟩, ih (i + 1) i true (fun h => by cases h)]
            have e : (0 < cleanN b.ps ∧ ((o : Int) < 0 ∨ b.wn < (bs.getD (o : Int).toNat zBk).wn)) := ⟨by omega, .inr (by simpa using hw)⟩
            simp only [if_true]
            rw [if_pos e]
          · have e : ¬ (0 < cleanN b.ps ∧ ((o : Int) < 0 ∨ b.wn < (bs.getD (o : Int).toNat zBk).wn)) := fun h => h.2.elim (fun h => by omega) (fun h => hw (by simpa using h))
            have e2 : ¬ (usedN b.ps = 0 ∧ (true = false ∨ b.wn < (bs.getD o zBk).wn)) := fun h => h.2.elim (fun h => by cases h) hw
            rw [if_neg e2, ih (i + 1) o true (fun h => by cases h)]
            simp only [if_true]
            rw [if_neg e]
      · have e : ∀ x : Int, ¬ (0 < cleanN b.ps ∧ (x < 0 ∨ b.wn < (bs.getD x.toNat zBk).wn)) := fun x h => by omega
        have e2 : ¬ (usedN b.ps = 0 ∧ (f = false ∨ b.wn < (bs.getD o zBk).wn)) := fun h => hz h.1
        rw [if_neg e2, ih (i + 1) o f h0, if_neg (e _)]
theorem openI_R (bs : List Bk) (h : okB bs = true) : openI bs = openR bs := by
  obtain ⟨h4, hb, _⟩ := (okB_iff bs).1 h
  exact openG_F bs bs 0 0 false (fun b hm => by have := (bkB_iff b).1 (hb b hm); exact ⟨this.1, this.2.2.2⟩) (fun _ => rfl)
/-- What FindOpen answers. -/
def fopR (bs : List Bk) : Int × Bool := if okB bs then openR bs else (0, false)

set_option maxHeartbeats 400000 in
theorem implOpen_any (a : Option Addr) (cap : Nat) (bs : List Bk) (w : World) (hf : FsAt w a bs) (hm : bs.length ≤ 9223372036854775807) :
    Calls Try.prog 34 #[.slice a bs.length cap] w fun e w' => OpPost w (fopR bs) e w' := by
  obtain ⟨zf, hz, hz84⟩ := zrow
  have HZ := hide hz
  clear hz
  have HR : Hid (fopR bs = if okB bs then openR bs else (0, false)) := rfl
  generalize fopR bs = R at *
  obtain ⟨x, y⟩ := R
  go_enter Try.func34, Try.ntmps34
  go_wp2_with fail
  refine (ofz_any a cap bs _ hf hm).mono ?_
  rintro e w1 ⟨ks, rfl, hk4, hkF, hke, b1⟩
  have hsz : zf.size = (fsC ks).toArray.size := by rw [hz84, List.size_toArray, len_fsC _ hkF, hk4]
  have r1 := rangeAt_new w1 (fsC ks) 75
  have B1 := b1.alloc b1.size (.cells (fsC ks).toArray 75)
  clear b1
  cases hs : okB bs
  · rw [hs] at HR
    clear hs hke
    go_wp2_with (first | (refine wpList_alloc_big rfl 75 rfl zf (unhide HZ) ?_) | (refine wpList_store_new rfl 75 _ _ rfl w1 zf (fsC ks).toArray rfl rfl rfl (size_fsa hkF hk4) hsz (one_fs ks) ?_))
    go_ret2
    exact ⟨by rw [unhide HR]; rfl, B1⟩
  · obtain rfl := hke hs
    rw [hs, if_pos rfl, ← openI_R ks hs] at HR
    clear hs hke
    go_wp2_with (first | (refine wpList_alloc_big rfl 75 rfl zf (unhide HZ) ?_) | (refine wpList_store_new rfl 75 _ _ rfl w1 zf (fsC ks).toArray rfl rfl rfl (size_fsa hkF hk4) hsz (one_fs ks) ?_) | (refine wpList_load_mid rfl 75 _ rfl w1.heap.size 0 rfl (fsC ks) _ r1 Try.underlying75 rfl (size_fsl hkF hk4) ?_))
    refine (openK_any ks hk4 hkF _).mono ?_
    rintro e w2 ⟨rfl, b2⟩
    clear r1
    rw [← unhide HR]
    go_wp2
    go_ret2
    exact ⟨rfl, B1.trans (b2.mono B1.size)⟩
theorem here : True := trivial
end Go.Proofs.Ytkikeapfjpnkgaa.FindO
