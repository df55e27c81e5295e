/-
  All wiped is as new, but worn: so it is of drawn blocks. The given statement, with no condition.
-/
import Derived.Test.YtogioeflbbmppaaWp
import Derived.Test.YtogioeflbbmppaaFacts
import Derived.Lib.SmallJoins
namespace Go.Proofs.Ytogioeflbbmppaa.WipeAll
open Go.ChangeShapes Go.WideShapes Go.ChangeAt Go.RowKit Go.Shelf Go.Joins OkA Big Fl ImplB ImplF ImplS ImplT ImplU SpecA SpecB SpecC SpecD SpecW SpecX SpecF SpecG SpecH FindP FindN FindO FindD ImplW ImplX Pick Draw ClA DrB PlB LawsE Lq Lo Wp
open FlB (FsN)
open Facts (own laidOut)
set_option linter.unusedVariables false
set_option linter.unusedSimpArgs false
attribute [local go_sem ↓] Go.wp_at_zero Go.wp_at_succ

/-- The first i blocks are wiped. -/
structure Wd (bs L : List Bk) (i : Nat) : Prop where
  ok : okB L = true
  len : L.length = bs.length
  at' : ∀ j (hj : j < bs.length) (hl : j < L.length), L[j] = if j < i then wiB bs[j] false else bs[j]
theorem Wd.next {bs L : List Bk} {i : Nat} (h : Wd bs L i) (hi : i < 4) (hO : wiO L (i : Int) = true) : Wd bs (wiL L i false) (i + 1) := by
  obtain ⟨-, hX, -⟩ := wiR_yes (torn := false) hO
  simp only [Int.toNat_natCast] at hX
  refine ⟨hX, by rw [SpecX.wiL_len, h.len], fun j hj hl => ?_⟩
  have hL : j < L.length := by rw [SpecX.wiL_len] at hl; exact hl
  by_cases e : j = i
  · subst e
    rw [wiL_at hL hl, if_pos (by omega), h.at' j hj hL, if_neg (by omega)]
  · rw [others_wi (kn := i) j hl hL (by omega), h.at' j hj hL]
    by_cases hji : j < i
    · rw [if_pos hji, if_pos (by omega)]
    · rw [if_neg hji, if_neg (by omega)]
theorem z_len : zFs.length = 4 := rfl
theorem z_ps (j : Nat) (hj : j < zFs.length) : zFs[j].ps = List.replicate 4 (pgS false) := by
  match j, hj with
  | 0, _ => rfl
  | 1, _ => rfl
  | 2, _ => rfl
  | 3, _ => rfl
  | j + 4, h => rw [z_len] at h; omega
theorem z_ok : okB zFs = true := by kernel_rfl

set_option maxRecDepth 100000 in
set_option maxHeartbeats 8000000 in
theorem walk (a0 : Option Addr) (len0 cap0 : Nat) (z0 : List Int) (w : World) (h0 : IsRow .u8 w a0 len0 cap0 z0) :
    Calls Try.prog 9 #[.slice a0 len0 cap0] w fun e w' => e = .returned (.bool true) ∧ Below w.heap.size w w' := by
  have HD := hide (drawWipe_any w a0 len0 cap0 z0 h0)
  clear h0
  go_enter Try.func9, Try.ntmps9
  by_cases hbig0 : 1048576 < (len0 : Int)
  · go_wp2
    go_ret
    exact ⟨rfl, Below.refl _ _⟩
  go_wp2_with fail
  refine (unhide HD).mono ?_
  rintro e w1 ⟨g, o, c, bs, k, torn, rfl, F1, k0, k7, B⟩
  have h4 := F1.four
  have hp4 := hide F1.pgs
  have hf := F1.fs
  clear HD F1
  generalize hfa : (some ⟨g, o, none⟩ : Option Addr) = fa at *
  have HSW := hide (fun (w' : World) (hF : FsAt w' fa bs) => specWipe_any fa c k torn bs w' hF (by omega))
  have HIW := hide (fun (w' : World) (hF : FsAt w' fa bs) => implWipe_any fa c k torn  bs w' hF (by omega))
  have HOK := hide (fun (w' : World) (hF : FsAt w' fa bs) => specFlashOk_any fa c  bs w' hF (by omega))
  have HRL : Hid ((wiR bs k torn).length ≤ 4) := wiR_len h4
  have HRP : Hid (∀ b ∈ wiR bs k torn, b.ps.length ≤ 4) := wiR_pgs (unhide hp4)
  generalize hR : wiR bs k torn = R at *
  generalize hO : wiO bs k = ok at *
  have HR := hide hR
  have HO := hide hO
  clear hR hO
  have hoo : (ok != ok) = false := by simp
  have hoe : (ok == ok) = true := by simp
  go_wp2_with fail
  refine (unhide HSW _ hf).mono ?_
  rintro e u36 ⟨v, rfl, X, b⟩
  replace hf := FsAt.below hf b
  replace B := B.trans (b.mono B.size)
  clear b
  obtain ⟨va, vc, rfl, hv⟩ := Own.NewFs.form X
  clear X
  go_wp2_with fail
  refine (unhide HIW _ hf).mono ?_
  rintro e u37 ⟨v, rfl, X, b⟩
  replace hf := FsAt.below hf b
  replace hv := FsAt.below hv b
  replace B := B.trans (b.mono B.size)
  clear b
  obtain ⟨xa, xc, rfl, hx⟩ := Own.NewFs.form X
  clear X
  go_wp2_with fail
  refine (lqFlash_same xa va xc vc R _ hx hv (by have := unhide HRL; omega) (fun b hb => by have := unhide HRP b hb; omega)).mono ?_
  rintro e u38 ⟨rfl, b⟩
  replace hf := FsAt.below hf b
  replace hv := FsAt.below hv b
  replace hx := FsAt.below hx b
  replace B := B.trans (b.mono B.size)
  clear b
  go_wp2_with fail
  refine (unhide HOK _ hf).mono ?_
  rintro e u39 ⟨rfl, b⟩
  replace hf := FsAt.below hf b
  replace hv := FsAt.below hv b
  replace hx := FsAt.below hx b
  replace B := B.trans (b.mono B.size)
  clear b
  cases hok : okB bs
  · go_wp2_with fail
    refine (lqFlash_same xa va xc vc R _ hx hv (by have := unhide HRL; omega) (fun b hb => by have := unhide HRP b hb; omega)).mono ?_
    rintro e u22 ⟨rfl, b⟩
    replace hf := FsAt.below hf b
    replace hv := FsAt.below hv b
    replace hx := FsAt.below hx b
    replace B := B.trans (b.mono B.size)
    clear b
    go_wp2
    go_ret
    exact ⟨rfl, B⟩
  clear hx hv hoo hoe
  go_wp2_with fail
  refine (flashNew_any _).mono ?_
  rintro e v1 ⟨ng, nG, rfl, O, b⟩
  have hz := O.fs
  replace hf := FsAt.below hf b
  replace B := B.trans (b.mono B.size)
  clear b O
  have hl4 := hide (ok_len hok)
  have HWN := hide (fun (j : Nat) (hj : j < bs.length) => SpecW.ok_worn hok j hj)
  go_wp2
  have HB := hide B
  have HF := hide hf
  have HZ := hide hz
  clear B hf hz
  go_loopw [10, 12] (fun y i w' => ∃ (L : List Bk) (j : Nat) (ya : Option Addr) (yc : Nat), j ≤ 4 ∧ i = .int .i64 j ∧ y = .slice ya bs.length yc ∧ Hid (Wd bs L j) ∧ FsAt w' ya L ∧ FsAt w' fa bs ∧ FsAt w' (some ⟨ng, 0, none⟩) zFs ∧ Below w.heap.size w w') (fun _ i _ => 4 - (intOf i).toNat)
  case atStart => exact ⟨bs, 0, fa, c, by omega, rfl, rfl, ⟨hok, rfl, fun j hj hl => by rw [if_neg (by omega)]⟩, unhide HF, unhide HF, unhide HZ, unhide HB⟩
  case round =>
    obtain ⟨L, j, ya, yc, hj, rfl, rfl, hI, hy, hf, hz, B⟩ := hrel
    clear HB HF HZ
    by_cases hj4 : j = 4
    · have HI := hide (show Wd bs L 4 from hj4 ▸ hI.out)
      rw [show (j : Int) = 4 by omega]
      clear hI hj hj4
      have HB := hide B
      have HF := hide hf
      have HZ := hide hz
      have HY := hide hy
      clear B hf hz hy
      go_wp2
      go_loopw [15] (fun i w' => ∃ (j : Nat), j ≤ 4 ∧ i = .int .i64 j ∧ FsAt w' ya L ∧ FsAt w' fa bs ∧ FsAt w' (some ⟨ng, 0, none⟩) zFs ∧ Below w.heap.size w w') (fun i _ => 4 - (intOf i).toNat)
      case atStart => exact ⟨0, by omega, rfl, unhide HY, unhide HF, unhide HZ, unhide HB⟩
      case round =>
        obtain ⟨j, hj, rfl, hy, hf, hz, B⟩ := hrel
        clear HB HF HZ HY
        by_cases hj4 : j = 4
        · subst hj4
          go_wp2
          go_ret
          exact ⟨rfl, B⟩
        have hjl : j < bs.length := by have := unhide hl4; omega
        have hjL : j < L.length := by have := (unhide HI).len; omega
        have hjb : (j : Int) < (bs.length : Int) := by omega
        have hji : (j : Int) < 4 := by omega
        have hj0 : (0 : Int) ≤ (j : Int) := by omega
        have hj3 : j < 4 := by omega
        have hat := (unhide HI).at' j hjl hjL
        rw [if_pos hj3] at hat
        have hwn := unhide HWN j hjl
        obtain ⟨yb, yo, yp, yq, yd, e, y0, y1, yr⟩ := ok_at hy (unhide HI).ok j hj3
        subst e
        obtain ⟨nb, no, np, nq, nd, e, n0, -, nr⟩ := ok_at hz z_ok j hj3
        obtain ⟨rfl, rfl⟩ : ng = nb ∧ 0 = no := by simpa using e
        obtain ⟨fb, fo, pb0, po0, pc0, e, -, f1, -⟩ := ok_at hf hok j hj3
        subst e
        clear e
        rw [hat] at y1 yr
        rw [z_ps j (by rw [z_len]; exact hj3)] at nr
        replace y1 : _ = some (Value.int .i64 (bs[j].wn + 1)) := y1
        replace yr : World.rangeAt _ yp yq (psC (List.replicate 4 (pgS false))) := yr
        have HLP := hide (fun (w' : World) (h1 : w'.rangeAt yp yq (psC (List.replicate 4 (pgS false)))) (h2 : w'.rangeAt np nq (psC (List.replicate 4 (pgS false)))) => lqPages_same (some ⟨yp, yq, none⟩) (some ⟨np, nq, none⟩) yd nd (List.replicate 4 (pgS false)) w' (.inr ⟨_, _, rfl, h1⟩) (.inr ⟨_, _, rfl, h2⟩) (by simp))
        obtain ⟨hw1, hw2⟩ := hwn
        clear hat
        generalize bs[j].wn = wn at *
        have hwr : IntKind.i64.wrap (wn + 1) = wn + 1 := wrap_in _ (by omega) (by omega)
        go_wp2_with fail
        refine wp_region_noPanic ?_
        refine wp_region_held_drew (S := fun w' => FsAt w' (some ⟨yb, yo, none⟩) L ∧ FsAt w' (some ⟨ng, 0, none⟩) zFs ∧ FsAt w' (some ⟨fb, fo, none⟩) bs ∧ w'.cell? ⟨yb, yo + j * 2, none⟩ = some (.slice (some ⟨yp, yq, none⟩) 4 yd) ∧ w'.cell? ⟨yb, yo + j * 2 + 1, none⟩ = some (.int .i64 (wn + 1)) ∧ w'.cell? ⟨ng, j * 2, none⟩ = some (.slice (some ⟨np, nq, none⟩) 4 nd) ∧ w'.cell? ⟨fb, fo + j * 2 + 1, none⟩ = some (.int .i64 wn) ∧ w'.rangeAt yp yq (psC (List.replicate 4 (pgS false))) ∧ w'.rangeAt np nq (psC (List.replicate 4 (pgS false)))) (by kernel_rfl) (⟨hy.below ((Below.refl _ _).drew), hz.below ((Below.refl _ _).drew), hf.below ((Below.refl _ _).drew), by simpa using y0, by simpa using y1, by simpa using n0, by simpa using f1, fun j v hv => by simpa using yr j v hv, fun j v hv => by simpa using nr j v hv⟩) (fun hHeld => ?_)
        refine takeL 0 (.slice (some ⟨yb, yo, none⟩) bs.length yc) rfl (by kernel_rfl) (by kernel_rfl) (by kernel_rfl) (fun _ _ _ h => h) (Or.inl ⟨rfl, fun _ _ => rfl⟩) hHeld ?_
        try simp only [Act.put, List.setIfInBounds_toArray, List.set_cons_zero, List.set_cons_succ]
        refine takeL 1 (.int .i64 j) rfl (by kernel_rfl) (by kernel_rfl) (by kernel_rfl) (fun _ _ _ h => h) (Or.inl ⟨rfl, fun _ _ => rfl⟩) hHeld ?_
        try simp only [Act.put, List.setIfInBounds_toArray, List.set_cons_zero, List.set_cons_succ]
        refine takeL 2 (.pointer (some ⟨yb, yo + j * 2, none⟩)) rfl (by kernel_rfl) (by kernel_rfl) (by kernel_rfl) (fun _ _ _ h => h) (Or.inl ⟨rfl, fun w9 hSw => by go_simp⟩) hHeld ?_
        try simp only [Act.put, List.setIfInBounds_toArray, List.set_cons_zero, List.set_cons_succ]
        refine takeL 3 (.pointer (some ⟨yb, yo + j * 2, none⟩)) rfl (by kernel_rfl) (by kernel_rfl) (by kernel_rfl) (fun _ _ _ h => h) (Or.inl ⟨rfl, fun w9 hSw => by go_simp⟩) hHeld ?_
        try simp only [Act.put, List.setIfInBounds_toArray, List.set_cons_zero, List.set_cons_succ]
        refine takeL 4 (.slice (some ⟨yp, yq, none⟩) 4 yd) rfl (by kernel_rfl) (by kernel_rfl) (by kernel_rfl) (fun _ _ _ h => h) (Or.inl ⟨rfl, fun w9 hSw => by have hc := hSw.2.2.2.1; go_simp⟩) hHeld ?_
        try simp only [Act.put, List.setIfInBounds_toArray, List.set_cons_zero, List.set_cons_succ]
        refine takeL 5 (.slice (some ⟨ng, 0, none⟩) 4 4) rfl (by kernel_rfl) (by kernel_rfl) (by kernel_rfl) (fun _ _ _ h => h) (Or.inl ⟨rfl, fun _ _ => rfl⟩) hHeld ?_
        try simp only [Act.put, List.setIfInBounds_toArray, List.set_cons_zero, List.set_cons_succ]
        refine takeL 6 (.int .i64 j) rfl (by kernel_rfl) (by kernel_rfl) (by kernel_rfl) (fun _ _ _ h => h) (Or.inl ⟨rfl, fun _ _ => rfl⟩) hHeld ?_
        try simp only [Act.put, List.setIfInBounds_toArray, List.set_cons_zero, List.set_cons_succ]
        refine takeL 7 (.pointer (some ⟨ng, j * 2, none⟩)) rfl (by kernel_rfl) (by kernel_rfl) (by kernel_rfl) (fun _ _ _ h => h) (Or.inl ⟨rfl, fun w9 hSw => by go_simp⟩) hHeld ?_
        try simp only [Act.put, List.setIfInBounds_toArray, List.set_cons_zero, List.set_cons_succ]
        refine takeL 8 (.pointer (some ⟨ng, j * 2, none⟩)) rfl (by kernel_rfl) (by kernel_rfl) (by kernel_rfl) (fun _ _ _ h => h) (Or.inl ⟨rfl, fun w9 hSw => by go_simp⟩) hHeld ?_
        try simp only [Act.put, List.setIfInBounds_toArray, List.set_cons_zero, List.set_cons_succ]
        refine takeL 9 (.slice (some ⟨np, nq, none⟩) 4 nd) rfl (by kernel_rfl) (by kernel_rfl) (by kernel_rfl) (fun _ _ _ h => h) (Or.inl ⟨rfl, fun w9 hSw => by have hc := hSw.2.2.2.2.2.1; go_simp⟩) hHeld ?_
        try simp only [Act.put, List.setIfInBounds_toArray, List.set_cons_zero, List.set_cons_succ]
        refine oneL 10 rfl (by kernel_rfl) rfl (fun K hK => ?_)
        go_simp
        refine (unhide HLP _ hHeld.2.2.2.2.2.2.2.1 hHeld.2.2.2.2.2.2.2.2).mono ?_
        rintro e wz ⟨rfl, bz⟩
        go_wp2_with fail
        refine hK.out _ _ (⟨hHeld.1.below bz, hHeld.2.1.below bz, hHeld.2.2.1.below bz, by rw [bz.cell (p := ⟨yb, yo + j * 2, none⟩) (Fl.cell_lt hHeld.2.2.2.1)]; exact hHeld.2.2.2.1, by rw [bz.cell (p := ⟨yb, yo + j * 2 + 1, none⟩) (Fl.cell_lt hHeld.2.2.2.2.1)]; exact hHeld.2.2.2.2.1, by rw [bz.cell (p := ⟨ng, j * 2, none⟩) (Fl.cell_lt hHeld.2.2.2.2.2.1)]; exact hHeld.2.2.2.2.2.1, by rw [bz.cell (p := ⟨fb, fo + j * 2 + 1, none⟩) (Fl.cell_lt hHeld.2.2.2.2.2.2.1)]; exact hHeld.2.2.2.2.2.2.1, rangeAt_below hHeld.2.2.2.2.2.2.2.1 bz (Fl.cell_lt (PsAt.cells hHeld.2.2.2.2.2.2.2.1 0 (by simp)).1), rangeAt_below hHeld.2.2.2.2.2.2.2.2 bz (Fl.cell_lt (PsAt.cells hHeld.2.2.2.2.2.2.2.2 0 (by simp)).1)⟩) (fun hHeld => ?_)
        clear hK K
        try simp only [Act.put, List.setIfInBounds_toArray, List.set_cons_zero, List.set_cons_succ]
        refine takeL 11 (.bool false) rfl (by kernel_rfl) (by kernel_rfl) (by kernel_rfl) (fun _ _ _ h => h) (Or.inl ⟨rfl, fun w9 hSw => by go_simp⟩) hHeld ?_
        try simp only [Act.put, List.setIfInBounds_toArray, List.set_cons_zero, List.set_cons_succ]
        refine takeL 12 (.bool false) rfl (by kernel_rfl) (by kernel_rfl) (by kernel_rfl) (fun _ _ _ h => h) (Or.inl ⟨rfl, fun _ _ => rfl⟩) hHeld ?_
        try simp only [Act.put, List.setIfInBounds_toArray, List.set_cons_zero, List.set_cons_succ]
        refine takeL 13 (.slice (some ⟨yb, yo, none⟩) bs.length yc) rfl (by kernel_rfl) (by kernel_rfl) (by kernel_rfl) (fun _ _ _ h => h) (Or.inl ⟨rfl, fun _ _ => rfl⟩) hHeld ?_
        try simp only [Act.put, List.setIfInBounds_toArray, List.set_cons_zero, List.set_cons_succ]
        refine takeL 14 (.int .i64 j) rfl (by kernel_rfl) (by kernel_rfl) (by kernel_rfl) (fun _ _ _ h => h) (Or.inl ⟨rfl, fun _ _ => rfl⟩) hHeld ?_
        try simp only [Act.put, List.setIfInBounds_toArray, List.set_cons_zero, List.set_cons_succ]
        refine takeL 15 (.pointer (some ⟨yb, yo + j * 2, none⟩)) rfl (by kernel_rfl) (by kernel_rfl) (by kernel_rfl) (fun _ _ _ h => h) (Or.inl ⟨rfl, fun w9 hSw => by go_simp⟩) hHeld ?_
        try simp only [Act.put, List.setIfInBounds_toArray, List.set_cons_zero, List.set_cons_succ]
        refine takeL 16 (.pointer (some ⟨yb, yo + j * 2 + 1, none⟩)) rfl (by kernel_rfl) (by kernel_rfl) (by kernel_rfl) (fun _ _ _ h => h) (Or.inl ⟨rfl, fun w9 hSw => by go_simp⟩) hHeld ?_
        try simp only [Act.put, List.setIfInBounds_toArray, List.set_cons_zero, List.set_cons_succ]
        refine takeL 17 (.int .i64 (wn + 1)) rfl (by kernel_rfl) (by kernel_rfl) (by kernel_rfl) (fun _ _ _ h => h) (Or.inl ⟨rfl, fun w9 hSw => by have hc := hSw.2.2.2.2.1; go_simp⟩) hHeld ?_
        try simp only [Act.put, List.setIfInBounds_toArray, List.set_cons_zero, List.set_cons_succ]
        refine takeL 18 (.slice (some ⟨fb, fo, none⟩) bs.length c) rfl (by kernel_rfl) (by kernel_rfl) (by kernel_rfl) (fun _ _ _ h => h) (Or.inl ⟨rfl, fun _ _ => rfl⟩) hHeld ?_
        try simp only [Act.put, List.setIfInBounds_toArray, List.set_cons_zero, List.set_cons_succ]
        refine takeL 19 (.int .i64 j) rfl (by kernel_rfl) (by kernel_rfl) (by kernel_rfl) (fun _ _ _ h => h) (Or.inl ⟨rfl, fun _ _ => rfl⟩) hHeld ?_
        try simp only [Act.put, List.setIfInBounds_toArray, List.set_cons_zero, List.set_cons_succ]
        refine takeL 20 (.pointer (some ⟨fb, fo + j * 2, none⟩)) rfl (by kernel_rfl) (by kernel_rfl) (by kernel_rfl) (fun _ _ _ h => h) (Or.inl ⟨rfl, fun w9 hSw => by go_simp⟩) hHeld ?_
        try simp only [Act.put, List.setIfInBounds_toArray, List.set_cons_zero, List.set_cons_succ]
        refine takeL 21 (.pointer (some ⟨fb, fo + j * 2 + 1, none⟩)) rfl (by kernel_rfl) (by kernel_rfl) (by kernel_rfl) (fun _ _ _ h => h) (Or.inl ⟨rfl, fun w9 hSw => by go_simp⟩) hHeld ?_
        try simp only [Act.put, List.setIfInBounds_toArray, List.set_cons_zero, List.set_cons_succ]
        refine takeL 22 (.int .i64 wn) rfl (by kernel_rfl) (by kernel_rfl) (by kernel_rfl) (fun _ _ _ h => h) (Or.inl ⟨rfl, fun w9 hSw => by have hc := hSw.2.2.2.2.2.2.1; go_simp⟩) hHeld ?_
        try simp only [Act.put, List.setIfInBounds_toArray, List.set_cons_zero, List.set_cons_succ]
        refine takeL 23 (.int .i64 (wn + 1)) rfl (by kernel_rfl) (by kernel_rfl) (by kernel_rfl) (fun _ _ _ h => h) (Or.inl ⟨rfl, fun w9 hSw => by go_simp⟩) hHeld ?_
        try simp only [Act.put, List.setIfInBounds_toArray, List.set_cons_zero, List.set_cons_succ]
        refine takeL 24 (.bool false) rfl (by kernel_rfl) (by kernel_rfl) (by kernel_rfl) (fun _ _ _ h => h) (Or.inl ⟨rfl, fun w9 hSw => by go_simp⟩) hHeld ?_
        try simp only [Act.put, List.setIfInBounds_toArray, List.set_cons_zero, List.set_cons_succ]
        refine takeL 25 (.bool false) rfl (by kernel_rfl) (by kernel_rfl) (by kernel_rfl) (fun _ _ _ h => h) (Or.inl ⟨rfl, fun w9 hSw => by go_simp⟩) hHeld ?_
        try simp only [Act.put, List.setIfInBounds_toArray, List.set_cons_zero, List.set_cons_succ]
        refine wpAnyH_done (by kernel_rfl) ?_ _
        refine NoPanic.normal ?_
        replace B := B.drew.trans (bz.mono B.drew.size)
        replace hy := hHeld.1
        replace hz := hHeld.2.1
        replace hf := hHeld.2.2.1
        clear hHeld bz y0 y1 yr n0 nr f1 HLP
        go_wp2
        go_roundw
        case rel => exact ⟨j + 1, by omega, by first | rfl | go_num, hy, hf, hz, B⟩
        case measure => simp [intOf]; omega
    have hI' := hI.out
    have hjl : j < bs.length := by have := unhide hl4; omega
    have hjL : j < L.length := by have := hI'.len; omega
    have hjb : (j : Int) < (bs.length : Int) := by omega
    have hji : (j : Int) < 4 := by omega
    have hj0 : (0 : Int) ≤ (j : Int) := by omega
    have hj3 : j < 4 := by omega
    have hat := hI'.at' j hjl hjL
    rw [if_neg (by omega)] at hat
    cases hO : wiO L (j : Int)
    · have h99 : ¬ L[j].wn < 200 := fun h => by have := (wiO_iff hI'.ok j hj3 hjL).2 h; rw [hO] at this; simp at this
      rw [hat] at h99
      have hwn := unhide HWN j hjl
      go_wp2_with fail
      refine (wipe_no ya yc bs.length j false L _ hy hI'.len hI'.ok hj3 hO).mono ?_
      rintro e u40 ⟨ma, mc, rfl, hm, b⟩
      replace hf := FsAt.below hf b
      replace hy := FsAt.below hy b
      replace hz := FsAt.below hz b
      replace B := B.trans (b.mono B.size)
      clear b
      obtain ⟨fb, fo, pb0, po0, pc0, e, -, f1, -⟩ := ok_at hf hok j hj3
      subst e
      clear hat hI hI' hO
      generalize bs[j].wn = wn at *
      have hq : (wn == 200) = true := by simp; omega
      go_wp2
      go_ret
      exact ⟨rfl, B⟩
    · have HNX := hide (Wd.next hI' hj3 hO)
      go_wp2_with fail
      refine (wipe_yes ya yc bs.length j false L _ hy hI'.len hO).mono ?_
      rintro e u41 ⟨ma, mc, rfl, hm, b⟩
      replace hf := FsAt.below hf b
      replace hy := FsAt.below hy b
      replace hz := FsAt.below hz b
      replace B := B.trans (b.mono B.size)
      clear b
      clear hat hI hI' hO hy
      go_wp2
      go_roundw
      case rel => exact ⟨_, j + 1, ma, mc, by omega, by first | rfl | go_num, rfl, HNX, hm, hf, hz, B⟩
      case measure => simp [intOf]; omega


set_option maxRecDepth 100000 in
theorem lifted (os : Os) (started : os.Started) (H : Type) (enc : TypeId × Value → H) :
    ReturnsInHanded {} Try.checked os 9 .any (Rows.fnWipeAllSpec.pre6 enc Try.prog Try.f9 Rows.fnWipeAllRow.domain false) (Rows.fnWipeAllSpec.post enc Try.prog Try.f9 false true false false) := by
  refine returnsInHanded_of_change (C := Try.checked) own started (by kernel_rfl) Try.func9
    (ChangeSpec.witness6 (enc := enc) (C := Try.checked) false ⟨#[], #[.slice none 0 0], []⟩ 8 (by kernel_rfl) (by kernel_rfl) (by kernel_rfl) (by kernel_rfl)) ?_
  intro W base args ds gs before hval0 hW hcnd _
  have hval : ∀ (j : Nat) t v, Try.f9.params[j]? = some t → args[j]? = some v → Value.okWide Try.prog W .any base t v := hval0
  have hW' := hW
  obtain ⟨p, q, hA0, hV, rfl, hfz, hnd⟩ := hW
  have hA : DataW.TrodAll enc Try.prog W 0 (fun _ => true) true Try.f9.params.toList args.toList ds p := hA0
  rw [Try.params9] at hA hval
  obtain ⟨v0, vs0, d0, ds0, p0, q0, hargs, rfl, rfl, h0, r0⟩ := trodAll_cons hA
  obtain ⟨rfl, rfl, rfl⟩ := trodAll_nil r0
  obtain rfl : args = #[v0] := by cases args; simp_all
  obtain ⟨rfl, rfl⟩ := trodVars_none hV
  have kk0 := h0
  have lt0 : ∀ x ∈ p0, x.block < W.heap.size := by obtain ⟨m, hm⟩ := kk0; exact DataW.trod_lt m _ _ _ hm
  obtain ⟨a0, len0, cap0, rfl⟩ := okWide_slice Try.underlying22 (hval 0 22 v0 rfl rfl)
  obtain ⟨z0, w0⟩ : ∃ zs, IsRow .u8 W a0 len0 cap0 zs := by
    obtain ⟨fuel, hf⟩ := h0
    rcases open_ints Try.underlying22 Try.underlying5 (by kernel_rfl) hf with ⟨hcs, _⟩ | ⟨x, l, c, zs, hcs, _, hl, hm, hz, _, hcell, hwz⟩
    · simp [Value.cells] at hcs
      obtain ⟨rfl, rfl, rfl⟩ := hcs
      exact ⟨[], .inl ⟨rfl, rfl, rfl, rfl⟩⟩
    · simp [Value.cells] at hcs
      obtain ⟨rfl, rfl, rfl⟩ := hcs
      exact ⟨zs, .inr ⟨_, rfl, hl, hm, by simpa using hz, hcell, hwz⟩⟩
  clear hA0
  refine (walk a0 len0 cap0 z0 W w0).mono fun e W' ⟨he, bel⟩ => ?_
  subst he
  exact ⟨_, rfl, _, _, _, [], _, [], hW', trodAll_mk1 (shut_bool Try.underlying4 _), (trodAll_cons_mk (Below.trod laidOut (by kernel_rfl) (of_decide_eq_true (by kernel_rfl)) kk0 bel lt0) trodAll_mk0), rfl, bel.frame _, fun h => by cases h⟩

set_option maxRecDepth 100000 in
theorem facts : joinedFacts Try.prog 9 Try.f9 Rows.fnWipeAllSpec Rows.fnWipeAllRow = true := by
  unfold joinedFacts
  refine Facts.and_t ?_ (by as_aux_lemma => kernel_rfl)
  refine Facts.and_t ?_ (by as_aux_lemma => kernel_rfl)
  refine Facts.and_t ?_ (by as_aux_lemma => kernel_rfl)
  refine Facts.and_t ?_ (by as_aux_lemma => kernel_rfl)
  refine Facts.and_t ?_ (by show (Try.prog.make == some Make.cut) = true; rw [Facts.made]; rfl)
  refine Facts.and_t ?_ (by show (false == Try.prog.liftsFinal) = true; rw [Facts.lifts]; rfl)
  refine Facts.and_t ?_ (Facts.enters)
  refine Facts.and_t ?_ (Facts.heard)
  refine Facts.and_t ?_ (rfl)
  refine Facts.and_t ?_ (by show (true == Try.prog.plainKeys) = true; rw [Facts.keys]; rfl)
  refine Facts.and_t ?_ (by as_aux_lemma => kernel_rfl)
  refine Facts.and_t ?_ (by as_aux_lemma => kernel_rfl)
  refine Facts.and_t ?_ (by as_aux_lemma => kernel_rfl)
  refine Facts.and_t ?_ (by as_aux_lemma => kernel_rfl)
  refine Facts.and_t ?_ (by as_aux_lemma => kernel_rfl)
  refine Facts.and_t ?_ (by as_aux_lemma => kernel_rfl)
  refine Facts.and_t ?_ (by as_aux_lemma => kernel_rfl)
  refine Facts.and_t ?_ (by as_aux_lemma => kernel_rfl)
  refine Facts.and_t ?_ (by as_aux_lemma => kernel_rfl)
  refine Facts.and_t ?_ (by as_aux_lemma => kernel_rfl)
  refine Facts.and_t ?_ (by as_aux_lemma => kernel_rfl)
  refine Facts.and_t ?_ (by as_aux_lemma => kernel_rfl)
  refine Facts.and_t ?_ (by as_aux_lemma => kernel_rfl)
  refine Facts.and_t ?_ (by as_aux_lemma => kernel_rfl)
  refine Facts.and_t ?_ (by as_aux_lemma => kernel_rfl)
  refine Facts.and_t ?_ (by as_aux_lemma => kernel_rfl)
  refine Facts.and_t ?_ (by as_aux_lemma => kernel_rfl)
  refine Facts.and_t ?_ (by as_aux_lemma => kernel_rfl)
  refine Facts.and_t ?_ (by as_aux_lemma => kernel_rfl)
  refine Facts.and_t ?_ (Facts.rowed)
  refine Facts.and_t ?_ (Facts.laidOut)
  kernel_rfl

theorem over : Rows.fnWipeAllRow.holds Try.pinned (OpenSpec.ofChange Rows.fnWipeAllSpec) :=
  OpenClaim.holds_of_wide 9 Try.f9 rfl rfl rfl rfl rfl rfl rfl ⟨rfl, rfl, rfl, rfl, rfl⟩ rfl rfl rfl rfl rfl (by kernel_rfl) Try.func9 facts
    (of_decide_eq_true (by kernel_rfl)) (by unfold Func.isWrapper; first | (rw [if_pos (by decide +kernel)]; kernel_rfl) | (rw [if_neg (by decide +kernel)]; exact ⟨rfl, rfl⟩))
    (fun os started H enc _ => lifted os started H enc)

end Go.Proofs.Ytogioeflbbmppaa.WipeAll
namespace Go.Proofs.Ytogioeflbbmppaa
theorem fnWipeAll_holds : Rows.FnWipeAllSaid := WipeAll.over
end Go.Proofs.Ytogioeflbbmppaa
