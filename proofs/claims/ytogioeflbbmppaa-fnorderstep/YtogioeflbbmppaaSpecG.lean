/-
  The specification's finding: the eldest block.
-/
import Derived.Test.YtogioeflbbmppaaSpecF
namespace Go.Proofs.Ytogioeflbbmppaa.SpecG
open Go.ChangeShapes Go.WideShapes Go.ChangeAt Go.RowKit OkA Big Fl ImplB ImplF ImplS Own ImplT ImplU SpecA SpecB SpecF
set_option linter.unusedVariables false
set_option linter.unusedSimpArgs false
attribute [local go_sem ↓] Go.wp_at_zero Go.wp_at_succ

/-- The first of the first k + 1 blocks whose greatest number is least. -/
def oldN (bs : List Bk) : Nat → Nat
  | 0 => 0
  | k + 1 => if mostN (bs.getD (k + 1) zBk).ps < mostN (bs.getD (oldN bs k) zBk).ps then k + 1 else oldN bs k
theorem oldN_le (bs : List Bk) (k : Nat) : oldN bs k ≤ k := by
  induction k with
  | zero => exact Nat.le_refl _
  | succ k ih => unfold oldN; split <;> omega
theorem getD_at (bs : List Bk) (k : Nat) (h : k < bs.length) : bs.getD k zBk = bs[k] := by rw [List.getD_eq_getElem?_getD, List.getElem?_eq_getElem h]; rfl
theorem blk_two {w : World} {b o : Nat} {x y : Value} (h0 : w.cell? ⟨b, o, none⟩ = some x) (h1 : w.cell? ⟨b, o + 1, none⟩ = some y) : w.rangeAt b o [x, y] := fun j v hv => by
  match j, hv with
  | 0, hv => (obtain rfl : v = x := by simpa using hv.symm); exact h0
  | 1, hv => (obtain rfl : v = y := by simpa using hv.symm); exact h1
  | n + 2, hv => simp at hv

set_option maxHeartbeats 1000000 in
theorem old_any (a : Option Addr) (cap : Nat) (bs : List Bk) (w : World) (hf : FsAt w a bs) (hl : bs.length ≤ 1048576) (hp : ∀ b ∈ bs, b.ps.length ≤ 1048576) (hz : 0 < bs.length) :
    Calls Try.prog 85 #[.slice a bs.length cap] w fun e w' => e = .returned (.int .i64 (oldN bs (bs.length - 1))) ∧ Below w.heap.size w w' := by
  have H := hide hf
  have HP := hide hp
  clear hf hp
  generalize hn : bs.length = n at *
  have HL := hide hn
  clear hn
  have hli : (n : Int) ≤ 1048576 := by omega
  go_enter Try.func85, Try.ntmps85
  go_wp2
  go_loopw [3, 4] (fun m i w' => ∃ k : Nat, k < n ∧ i = .int .i64 (k + 1 : Nat) ∧ m = .int .i64 (oldN bs k : Nat) ∧ Below w.heap.size w w') (fun _ i _ => n - (intOf i).toNat)
  case atStart => exact ⟨0, by omega, rfl, rfl, Below.refl _ _⟩
  case round =>
    obtain ⟨k, hk, rfl, rfl, bw⟩ := hrel
    have hle := oldN_le bs k
    have HO : Hid (oldN bs (k + 1) = if mostN (bs.getD (k + 1) zBk).ps < mostN (bs.getD (oldN bs k) zBk).ps then k + 1 else oldN bs k) := rfl
    generalize hu : oldN bs k = u at *
    by_cases h0 : k + 1 = n
    · obtain rfl := h0
      have HU := hide hu
      go_wp2
      go_ret
      exact ⟨by rw [Nat.add_sub_cancel, unhide HU]; rfl, bw⟩
    · generalize hi : k + 1 = i at *
      have hlt : (i : Int) < (n : Int) := by omega
      have hkb : i < bs.length := by have := unhide HL; omega
      have hub : u < bs.length := by have := unhide HL; omega
      have hult : (u : Int) < (n : Int) := by omega
      have hlo : (0 : Int) ≤ (i : Int) := by omega
      have hulo : (0 : Int) ≤ (u : Int) := by omega
      rw [getD_at bs i hkb, getD_at bs u hub] at HO
      obtain ⟨b1, o1, rfl, g1⟩ : ∃ b o, a = some ⟨b, o, none⟩ ∧ ∀ i (hi : i < bs.length), BkAt wr b (o + i * 2) bs[i] := by
        rcases (unhide H).below bw with rfl | h
        · simp at hkb
        · exact h
      obtain ⟨p1, c1, d0, d1, q1⟩ := g1 i hkb
      obtain ⟨p2, c2, e0, e1, q2⟩ := g1 u hub
      have l1 := cell_lt d0
      have x1 := blk_two d0 d1
      have x2 := blk_two e0 e1
      have Q2 := q2.below ((Below.refl wr.heap.size wr).drew)
      have Q1 := q1.below ((Below.refl wr.heap.size wr).drew)
      have HC1 := hide (fun w' (h : PsAt w' p1 bs[i].ps) => most_any p1 c1 bs[i].ps bs[i].wn w' h (unhide HP _ (List.getElem_mem hkb)))
      have HC2 := hide (fun w' (h : PsAt w' p2 bs[u].ps) => most_any p2 c2 bs[u].ps bs[u].wn w' h (unhide HP _ (List.getElem_mem hub)))
      have HZ1 : Hid ((Try.prog.info? 36).map (·.size) = some [Value.slice p1 bs[i].ps.length c1, Value.int .i64 bs[i].wn].length) := by show _ = some 2; kernel_rfl
      have HZ2 : Hid ((Try.prog.info? 36).map (·.size) = some [Value.slice p2 bs[u].ps.length c2, Value.int .i64 bs[u].wn].length) := by show _ = some 2; kernel_rfl
      clear g1 d0 d1 e0 e1 q1 q2
      generalize bs[i] = b at *
      generalize bs[u] = c at *
      have hls : w.heap.size ≤ wr.heap.size := bw.size
      go_wp2_with fail
      refine wp_region_noPanic ?_
      refine wp_region_held_drew (S := fun w' => w'.rangeAt b1 (o1 + i * 2) [.slice p1 b.ps.length c1, .int .i64 b.wn] ∧ w'.rangeAt b1 (o1 + u * 2) [.slice p2 c.ps.length c2, .int .i64 c.wn]) (by kernel_rfl) (⟨by simpa using x1, by simpa using x2⟩) (fun hHeld => ?_)
      refine takeL 0 (.slice (some ⟨b1, o1, none⟩) n cap) rfl (by kernel_rfl) (by kernel_rfl) (by kernel_rfl) (fun _ _ _ h => h) (Or.inl ⟨rfl, fun _ _ => rfl⟩) hHeld ?_
      try simp only [Act.put, List.setIfInBounds_toArray, List.set_cons_zero, List.set_cons_succ]
      refine takeL 1 (.int .i64 i) rfl (by kernel_rfl) (by kernel_rfl) (by kernel_rfl) (fun _ _ _ h => h) (Or.inl ⟨rfl, fun _ _ => rfl⟩) hHeld ?_
      try simp only [Act.put, List.setIfInBounds_toArray, List.set_cons_zero, List.set_cons_succ]
      refine takeL 2 (.pointer (some ⟨b1, o1 + i * 2, none⟩)) rfl (by kernel_rfl) (by kernel_rfl) (by kernel_rfl) (fun _ _ _ h => h) (Or.inl ⟨rfl, fun w9 hSw => by go_simp⟩) hHeld ?_
      try simp only [Act.put, List.setIfInBounds_toArray, List.set_cons_zero, List.set_cons_succ]
      refine takeL 3 (.agg #[.slice p1 b.ps.length c1, .int .i64 b.wn]) rfl (by kernel_rfl) (by kernel_rfl) (by kernel_rfl) (fun _ _ _ h => h) (yieldsIf_load_mid rfl 36 _ rfl b1 (o1 + i * 2) rfl [.slice p1 b.ps.length c1, .int .i64 b.wn] _ (fun _ h => h.1) Try.underlying36 rfl (unhide HZ1)) hHeld ?_
      try simp only [Act.put, List.setIfInBounds_toArray, List.set_cons_zero, List.set_cons_succ]
      refine takeL 5 (.slice (some ⟨b1, o1, none⟩) n cap) rfl (by kernel_rfl) (by kernel_rfl) (by kernel_rfl) (fun _ _ _ h => h) (Or.inl ⟨rfl, fun _ _ => rfl⟩) hHeld ?_
      try simp only [Act.put, List.setIfInBounds_toArray, List.set_cons_zero, List.set_cons_succ]
      refine takeL 6 (.int .i64 u) rfl (by kernel_rfl) (by kernel_rfl) (by kernel_rfl) (fun _ _ _ h => h) (Or.inl ⟨rfl, fun _ _ => rfl⟩) hHeld ?_
      try simp only [Act.put, List.setIfInBounds_toArray, List.set_cons_zero, List.set_cons_succ]
      refine takeL 7 (.pointer (some ⟨b1, o1 + u * 2, none⟩)) rfl (by kernel_rfl) (by kernel_rfl) (by kernel_rfl) (fun _ _ _ h => h) (Or.inl ⟨rfl, fun w9 hSw => by go_simp⟩) hHeld ?_
      try simp only [Act.put, List.setIfInBounds_toArray, List.set_cons_zero, List.set_cons_succ]
      refine takeL 8 (.agg #[.slice p2 c.ps.length c2, .int .i64 c.wn]) rfl (by kernel_rfl) (by kernel_rfl) (by kernel_rfl) (fun _ _ _ h => h) (yieldsIf_load_mid rfl 36 _ rfl b1 (o1 + u * 2) rfl [.slice p2 c.ps.length c2, .int .i64 c.wn] _ (fun _ h => h.2) Try.underlying36 rfl (unhide HZ2)) hHeld ?_
      try simp only [Act.put, List.setIfInBounds_toArray, List.set_cons_zero, List.set_cons_succ]
      refine oneL 4 rfl (by kernel_rfl) rfl (fun K hK => ?_)
      go_simp
      refine (unhide HC1 _ Q1).mono ?_
      rintro e w2 ⟨rfl, b2⟩
      go_wp2_with fail
      refine hK.out _ _ ⟨rangeAt_below hHeld.1 b2 (by simpa using l1), rangeAt_below hHeld.2 b2 (by simpa using l1)⟩ (fun hHeld => ?_)
      clear hK K
      try simp only [Act.put, List.setIfInBounds_toArray, List.set_cons_zero, List.set_cons_succ]
      refine oneL 9 rfl (by kernel_rfl) rfl (fun K hK => ?_)
      go_simp
      refine (unhide HC2 _ (Q2.below b2)).mono ?_
      rintro e w3 ⟨rfl, b3⟩
      go_wp2_with fail
      refine hK.out _ _ ⟨rangeAt_below hHeld.1 b3 (Nat.lt_of_lt_of_le (by simpa using l1) b2.size), rangeAt_below hHeld.2 b3 (Nat.lt_of_lt_of_le (by simpa using l1) b2.size)⟩ (fun hHeld => ?_)
      clear hK K
      try simp only [Act.put, List.setIfInBounds_toArray, List.set_cons_zero, List.set_cons_succ]
      refine takeL 10 (.bool (decide (mostN b.ps < mostN c.ps))) rfl (by kernel_rfl) (by kernel_rfl) (by kernel_rfl) (fun _ _ _ h => h) (Or.inl ⟨rfl, fun w9 hSw => by go_simp⟩) hHeld ?_
      try simp only [Act.put, List.setIfInBounds_toArray, List.set_cons_zero, List.set_cons_succ]
      refine wpAnyH_done (by kernel_rfl) ?_ _
      refine NoPanic.normal ?_
      have B3 := (bw.drew.trans (b2.mono bw.drew.size)).trans (b3.mono (bw.drew.trans (b2.mono bw.drew.size)).size)
      clear hHeld b2 b3 bw x1 x2 Q1 Q2
      by_cases hm : mostN b.ps < mostN c.ps
      · have hd : decide (mostN b.ps < mostN c.ps) = true := by simpa using hm
        have HM := hide (by have := unhide HO; rw [if_pos hm] at this; exact this : oldN bs i = i)
        rw [hd]
        clear hm hd HO
        go_wp2
        go_roundw
        case rel => exact ⟨i, by omega, by first | rfl | go_num, by rw [unhide HM], B3⟩
        case measure => simp [intOf]; omega
      · have hd : decide (mostN b.ps < mostN c.ps) = false := by simpa using hm
        have HM := hide (by have := unhide HO; rw [if_neg hm] at this; exact this : oldN bs i = u)
        rw [hd]
        clear hm hd HO
        go_wp2
        go_roundw
        case rel => exact ⟨i, by omega, by first | rfl | go_num, by rw [unhide HM], B3⟩
        case measure => simp [intOf]; omega
end Go.Proofs.Ytogioeflbbmppaa.SpecG
