/-
  A wipe that fell is done again: so it is in drawn blocks. The given statement, with no condition.
-/
import Derived.Test.YtogioeflbbmppaaWp
import Derived.Test.YtogioeflbbmppaaFacts
import Derived.Lib.SmallJoins
namespace Go.Proofs.Ytogioeflbbmppaa.WipeAgain
open Go.ChangeShapes Go.WideShapes Go.ChangeAt Go.RowKit Go.Shelf Go.Joins OkA Big Fl ImplB ImplF ImplS ImplT ImplU SpecA SpecB SpecC SpecD SpecW SpecX SpecF SpecG SpecH FindP FindN FindO FindD ImplW ImplX Pick Draw ClA DrB PlB LawsE Lq Lo Wp
open FlB (FsN)
open Facts (own laidOut)
set_option linter.unusedVariables false
set_option linter.unusedSimpArgs false
attribute [local go_sem ↓] Go.wp_at_zero Go.wp_at_succ

set_option maxRecDepth 100000 in
set_option maxHeartbeats 8000000 in
theorem walk (a0 : Option Addr) (len0 cap0 : Nat) (z0 : List Int) (w : World) (h0 : IsRow .u8 w a0 len0 cap0 z0) :
    Calls Try.prog 6 #[.slice a0 len0 cap0] w fun e w' => e = .returned (.bool true) ∧ Below w.heap.size w w' := by
  have HD := hide (drawWipe_any w a0 len0 cap0 z0 h0)
  clear h0
  go_enter Try.func6, Try.ntmps6
  by_cases hbig0 : 1048576 < (len0 : Int)
  · go_wp2
    go_ret
    exact ⟨rfl, Below.refl _ _⟩
  go_wp2_with fail
  refine (unhide HD).mono ?_
  rintro e w1 ⟨g, o, c, bs, k, torn, rfl, F1, k0, k7, B⟩
  have h4 := F1.four
  have hp4 := hide F1.pgs
  have hf := F1.fs
  clear HD F1
  generalize hfa : (some ⟨g, o, none⟩ : Option Addr) = fa at *
  have HSW := hide (fun (w' : World) (hF : FsAt w' fa bs) => specWipe_any fa c k torn bs w' hF (by omega))
  have HIW := hide (fun (w' : World) (hF : FsAt w' fa bs) => implWipe_any fa c k torn  bs w' hF (by omega))
  have HOK := hide (fun (w' : World) (hF : FsAt w' fa bs) => specFlashOk_any fa c  bs w' hF (by omega))
  have HRL : Hid ((wiR bs k torn).length ≤ 4) := wiR_len h4
  have HRP : Hid (∀ b ∈ wiR bs k torn, b.ps.length ≤ 4) := wiR_pgs (unhide hp4)
  generalize hR : wiR bs k torn = R at *
  generalize hO : wiO bs k = ok at *
  have HR := hide hR
  have HO := hide hO
  clear hR hO
  have hoo : (ok != ok) = false := by simp
  have hoe : (ok == ok) = true := by simp
  go_wp2_with fail
  refine (unhide HSW _ hf).mono ?_
  rintro e u28 ⟨v, rfl, X, b⟩
  replace hf := FsAt.below hf b
  replace B := B.trans (b.mono B.size)
  clear b
  obtain ⟨va, vc, rfl, hv⟩ := Own.NewFs.form X
  clear X
  go_wp2_with fail
  refine (unhide HIW _ hf).mono ?_
  rintro e u29 ⟨v, rfl, X, b⟩
  replace hf := FsAt.below hf b
  replace hv := FsAt.below hv b
  replace B := B.trans (b.mono B.size)
  clear b
  obtain ⟨xa, xc, rfl, hx⟩ := Own.NewFs.form X
  clear X
  go_wp2_with fail
  refine (lqFlash_same xa va xc vc R _ hx hv (by have := unhide HRL; omega) (fun b hb => by have := unhide HRP b hb; omega)).mono ?_
  rintro e u30 ⟨rfl, b⟩
  replace hf := FsAt.below hf b
  replace hv := FsAt.below hv b
  replace hx := FsAt.below hx b
  replace B := B.trans (b.mono B.size)
  clear b
  cases hok : ok
  · go_wp2_with fail
    refine (lqFlash_same xa va xc vc R _ hx hv (by have := unhide HRL; omega) (fun b hb => by have := unhide HRP b hb; omega)).mono ?_
    rintro e u22 ⟨rfl, b⟩
    replace hf := FsAt.below hf b
    replace hv := FsAt.below hv b
    replace hx := FsAt.below hx b
    replace B := B.trans (b.mono B.size)
    clear b
    go_wp2
    go_ret
    exact ⟨rfl, B⟩
  clear hx hv hoo hoe
  subst hok
  obtain ⟨-, hX, hok, hkt, k0', k3, -⟩ := wiR_yes (torn := true) (unhide HO)

  obtain ⟨kn, rfl⟩ := Int.eq_ofNat_of_zero_le k0
  have hKi : (kn : Int) < 4 := by omega
  have hK0 : (0 : Int) ≤ (kn : Int) := by omega
  have hK4 : kn < 4 := by omega
  have hKl : kn < bs.length := by rw [ok_len hok]; exact hK4

  have hO := unhide HO
  simp only [Int.toNat_natCast] at hX
  have hwn := SpecW.ok_worn hok kn hKl
  have hw9 := (wiO_iff hok kn hK4 hKl).1 hO
  have HN := hide (Eq.refl bs.length)
  go_wp2_with fail
  refine (wipe_yes fa c bs.length kn true bs _ hf rfl hO).mono ?_
  rintro e u31 ⟨la, lc, rfl, hl, b⟩
  replace hf := FsAt.below hf b
  replace B := B.trans (b.mono B.size)
  clear b

  have hlX : (wiL bs kn true).length = bs.length := SpecX.wiL_len
  have hKX : kn < (wiL bs kn true).length := by rw [hlX]; exact hKl
  have HLX := hide hlX
  clear hlX
  have hat := wiL_at (torn := true) hKl hKX
  have h1w : (wiL bs kn true)[kn].wn = bs[kn].wn + 1 := by rw [hat]; rfl
  cases h1 : wiO (wiL bs kn true) (kn : Int)
  · have h99 : ¬ (wiL bs kn true)[kn].wn < 200 := fun h => by have := (wiO_iff hX kn hK4 hKX).2 h; rw [h1] at this; simp at this
    rw [h1w] at h99
    go_wp2_with fail
    refine (wipe_no la lc bs.length kn false (wiL bs kn true) _ hl (unhide HLX) hX hK4 h1).mono ?_
    rintro e u32 ⟨ya, yc, rfl, hy, b⟩
    replace hf := FsAt.below hf b
    replace hl := FsAt.below hl b
    replace B := B.trans (b.mono B.size)
    clear b
    go_wp2_with fail
    refine (wipe_yes fa c bs.length kn false bs _ hf rfl hO).mono ?_
    rintro e u33 ⟨za, zc, rfl, hz, b⟩
    replace hf := FsAt.below hf b
    replace hl := FsAt.below hl b
    replace hy := FsAt.below hy b
    replace B := B.trans (b.mono B.size)
    clear b

    obtain ⟨lb, lo, pb, po, pc, e, c0, c1, -⟩ := ok_at hl hX kn hK4
    subst e
    rw [h1w] at c1
    clear h1w hat
    generalize bs[kn].wn = wn at *
    have hq : (wn + 1 == 200) = true := by simp; omega
    have hKb : (kn : Int) < (bs.length : Int) := by omega
    clear h1
    go_wp2
    go_ret
    exact ⟨rfl, B⟩
  · have h99 : (wiL bs kn true)[kn].wn < 200 := (wiO_iff hX kn hK4 hKX).1 h1
    rw [h1w] at h99
    obtain ⟨-, hYok, -⟩ := wiR_yes (torn := false) h1
    simp only [Int.toNat_natCast] at hYok
    obtain ⟨-, hZok, -⟩ := wiR_yes (torn := false) hO
    simp only [Int.toNat_natCast] at hZok
    have hKY : kn < (wiL (wiL bs kn true) kn false).length := by rw [SpecX.wiL_len]; exact hKX
    have hKZ : kn < (wiL bs kn false).length := by rw [SpecX.wiL_len]; exact hKl
    have hyat := wiL_at (torn := false) hKX hKY
    have hzat := wiL_at (torn := false) hKl hKZ
    rw [hat] at hyat
    go_wp2_with fail
    refine (wipe_yes la lc bs.length kn false (wiL bs kn true) _ hl (unhide HLX) h1).mono ?_
    rintro e u34 ⟨ya, yc, rfl, hy, b⟩
    replace hf := FsAt.below hf b
    replace hl := FsAt.below hl b
    replace B := B.trans (b.mono B.size)
    clear b
    go_wp2_with fail
    refine (wipe_yes fa c bs.length kn false bs _ hf rfl hO).mono ?_
    rintro e u35 ⟨za, zc, rfl, hz, b⟩
    replace hf := FsAt.below hf b
    replace hl := FsAt.below hl b
    replace hy := FsAt.below hy b
    replace B := B.trans (b.mono B.size)
    clear b

    have HLO := hide (fun (w' : World) (h1 : FsAt w' ya (wiL (wiL bs kn true) kn false)) (h2 : FsAt w' za (wiL bs kn false)) => lqOthers_but ya za yc zc (wiL (wiL bs kn true) kn false) (wiL bs kn false) bs.length (kn : Int) w' h1 h2 (by rw [SpecX.wiL_len, SpecX.wiL_len]) SpecX.wiL_len (by omega) (fun b hb => by have := (ok_fours hZok) b hb; omega) (fun i hi hj hne => by
      have e1 := others_wi (bs := wiL bs kn true) (kn := kn) (torn := false) i hi (by rw [SpecX.wiL_len] at hi; exact hi) hne
      have e2 := others_wi (bs := bs) (kn := kn) (torn := true) i (by rw [SpecX.wiL_len] at hi; exact hi) (by rw [SpecX.wiL_len] at hj; exact hj) hne
      have e3 := others_wi (bs := bs) (kn := kn) (torn := false) i hj (by rw [SpecX.wiL_len] at hj; exact hj) hne
      rw [e1, e2, e3]))
    obtain ⟨yb, yo, yp, yq, yd, e, y0, y1, yr⟩ := ok_at hy hYok kn hK4
    subst e
    obtain ⟨zb, zo, zp, zq, zd, e, z0, z1, zr⟩ := ok_at hz hZok kn hK4
    subst e
    rw [hyat] at y1 yr
    rw [hzat] at z1 zr
    replace y1 : _ = some (Value.int .i64 (bs[kn].wn + 1 + 1)) := y1
    replace z1 : _ = some (Value.int .i64 (bs[kn].wn + 1)) := z1
    replace yr : World.rangeAt _ yp yq (psC (List.replicate 4 (pgS false))) := yr
    replace zr : World.rangeAt _ zp zq (psC (List.replicate 4 (pgS false))) := zr
    have HLP := hide (fun (w' : World) (h1 : w'.rangeAt yp yq (psC (List.replicate 4 (pgS false)))) (h2 : w'.rangeAt zp zq (psC (List.replicate 4 (pgS false)))) => lqPages_same (some ⟨yp, yq, none⟩) (some ⟨zp, zq, none⟩) yd zd (List.replicate 4 (pgS false)) w' (.inr ⟨_, _, rfl, h1⟩) (.inr ⟨_, _, rfl, h2⟩) (by simp))
    obtain ⟨hw1, hw2⟩ := hwn
    clear hyat hzat h1w hat hw2
    generalize bs[kn].wn = wn at *
    have hwr : IntKind.i64.wrap (wn + 1 + 1) = wn + 1 + 1 := wrap_in _ (by omega) (by omega)
    have hKb : (kn : Int) < (bs.length : Int) := by omega
    clear hl hf h1 hX hYok hZok
    go_wp2_with fail
    refine wp_region_noPanic ?_
    refine wp_region_held_drew (S := fun w' => FsAt w' (some ⟨yb, yo, none⟩) (wiL (wiL bs kn true) kn false) ∧ FsAt w' (some ⟨zb, zo, none⟩) (wiL bs kn false) ∧ w'.cell? ⟨yb, yo + kn * 2, none⟩ = some (.slice (some ⟨yp, yq, none⟩) 4 yd) ∧ w'.cell? ⟨yb, yo + kn * 2 + 1, none⟩ = some (.int .i64 (wn + 1 + 1)) ∧ w'.cell? ⟨zb, zo + kn * 2, none⟩ = some (.slice (some ⟨zp, zq, none⟩) 4 zd) ∧ w'.cell? ⟨zb, zo + kn * 2 + 1, none⟩ = some (.int .i64 (wn + 1)) ∧ w'.rangeAt yp yq (psC (List.replicate 4 (pgS false))) ∧ w'.rangeAt zp zq (psC (List.replicate 4 (pgS false)))) (by kernel_rfl) (⟨hy.below ((Below.refl _ _).drew), hz.below ((Below.refl _ _).drew), by simpa using y0, by simpa using y1, by simpa using z0, by simpa using z1, fun j v hv => by simpa using yr j v hv, fun j v hv => by simpa using zr j v hv⟩) (fun hHeld => ?_)
    refine takeL 0 (.bool true) rfl (by kernel_rfl) (by kernel_rfl) (by kernel_rfl) (fun _ _ _ h => h) (Or.inl ⟨rfl, fun _ _ => rfl⟩) hHeld ?_
    try simp only [Act.put, List.setIfInBounds_toArray, List.set_cons_zero, List.set_cons_succ]
    refine takeL 1 (.bool true) rfl (by kernel_rfl) (by kernel_rfl) (by kernel_rfl) (fun _ _ _ h => h) (Or.inl ⟨rfl, fun _ _ => rfl⟩) hHeld ?_
    try simp only [Act.put, List.setIfInBounds_toArray, List.set_cons_zero, List.set_cons_succ]
    refine takeL 2 (.slice (some ⟨yb, yo, none⟩) bs.length yc) rfl (by kernel_rfl) (by kernel_rfl) (by kernel_rfl) (fun _ _ _ h => h) (Or.inl ⟨rfl, fun _ _ => rfl⟩) hHeld ?_
    try simp only [Act.put, List.setIfInBounds_toArray, List.set_cons_zero, List.set_cons_succ]
    refine takeL 3 (.int .i64 kn) rfl (by kernel_rfl) (by kernel_rfl) (by kernel_rfl) (fun _ _ _ h => h) (Or.inl ⟨rfl, fun _ _ => rfl⟩) hHeld ?_
    try simp only [Act.put, List.setIfInBounds_toArray, List.set_cons_zero, List.set_cons_succ]
    refine takeL 4 (.pointer (some ⟨yb, yo + kn * 2, none⟩)) rfl (by kernel_rfl) (by kernel_rfl) (by kernel_rfl) (fun _ _ _ h => h) (Or.inl ⟨rfl, fun w9 hSw => by go_simp⟩) hHeld ?_
    try simp only [Act.put, List.setIfInBounds_toArray, List.set_cons_zero, List.set_cons_succ]
    refine takeL 5 (.pointer (some ⟨yb, yo + kn * 2, none⟩)) rfl (by kernel_rfl) (by kernel_rfl) (by kernel_rfl) (fun _ _ _ h => h) (Or.inl ⟨rfl, fun w9 hSw => by go_simp⟩) hHeld ?_
    try simp only [Act.put, List.setIfInBounds_toArray, List.set_cons_zero, List.set_cons_succ]
    refine takeL 6 (.slice (some ⟨yp, yq, none⟩) 4 yd) rfl (by kernel_rfl) (by kernel_rfl) (by kernel_rfl) (fun _ _ _ h => h) (Or.inl ⟨rfl, fun w9 hSw => by have hc := hSw.2.2.1; go_simp⟩) hHeld ?_
    try simp only [Act.put, List.setIfInBounds_toArray, List.set_cons_zero, List.set_cons_succ]
    refine takeL 7 (.slice (some ⟨zb, zo, none⟩) bs.length zc) rfl (by kernel_rfl) (by kernel_rfl) (by kernel_rfl) (fun _ _ _ h => h) (Or.inl ⟨rfl, fun _ _ => rfl⟩) hHeld ?_
    try simp only [Act.put, List.setIfInBounds_toArray, List.set_cons_zero, List.set_cons_succ]
    refine takeL 8 (.int .i64 kn) rfl (by kernel_rfl) (by kernel_rfl) (by kernel_rfl) (fun _ _ _ h => h) (Or.inl ⟨rfl, fun _ _ => rfl⟩) hHeld ?_
    try simp only [Act.put, List.setIfInBounds_toArray, List.set_cons_zero, List.set_cons_succ]
    refine takeL 9 (.pointer (some ⟨zb, zo + kn * 2, none⟩)) rfl (by kernel_rfl) (by kernel_rfl) (by kernel_rfl) (fun _ _ _ h => h) (Or.inl ⟨rfl, fun w9 hSw => by go_simp⟩) hHeld ?_
    try simp only [Act.put, List.setIfInBounds_toArray, List.set_cons_zero, List.set_cons_succ]
    refine takeL 10 (.pointer (some ⟨zb, zo + kn * 2, none⟩)) rfl (by kernel_rfl) (by kernel_rfl) (by kernel_rfl) (fun _ _ _ h => h) (Or.inl ⟨rfl, fun w9 hSw => by go_simp⟩) hHeld ?_
    try simp only [Act.put, List.setIfInBounds_toArray, List.set_cons_zero, List.set_cons_succ]
    refine takeL 11 (.slice (some ⟨zp, zq, none⟩) 4 zd) rfl (by kernel_rfl) (by kernel_rfl) (by kernel_rfl) (fun _ _ _ h => h) (Or.inl ⟨rfl, fun w9 hSw => by have hc := hSw.2.2.2.2.1; go_simp⟩) hHeld ?_
    try simp only [Act.put, List.setIfInBounds_toArray, List.set_cons_zero, List.set_cons_succ]
    refine oneL 12 rfl (by kernel_rfl) rfl (fun K hK => ?_)
    go_simp
    refine (unhide HLP _ hHeld.2.2.2.2.2.2.1 hHeld.2.2.2.2.2.2.2).mono ?_
    rintro e wz ⟨rfl, bz⟩
    go_wp2_with fail
    refine hK.out _ _ (⟨hHeld.1.below bz, hHeld.2.1.below bz, by rw [bz.cell (p := ⟨yb, yo + kn * 2, none⟩) (Fl.cell_lt hHeld.2.2.1)]; exact hHeld.2.2.1, by rw [bz.cell (p := ⟨yb, yo + kn * 2 + 1, none⟩) (Fl.cell_lt hHeld.2.2.2.1)]; exact hHeld.2.2.2.1, by rw [bz.cell (p := ⟨zb, zo + kn * 2, none⟩) (Fl.cell_lt hHeld.2.2.2.2.1)]; exact hHeld.2.2.2.2.1, by rw [bz.cell (p := ⟨zb, zo + kn * 2 + 1, none⟩) (Fl.cell_lt hHeld.2.2.2.2.2.1)]; exact hHeld.2.2.2.2.2.1, rangeAt_below hHeld.2.2.2.2.2.2.1 bz (Fl.cell_lt (PsAt.cells hHeld.2.2.2.2.2.2.1 0 (by simp)).1), rangeAt_below hHeld.2.2.2.2.2.2.2 bz (Fl.cell_lt (PsAt.cells hHeld.2.2.2.2.2.2.2 0 (by simp)).1)⟩) (fun hHeld => ?_)
    clear hK K
    try simp only [Act.put, List.setIfInBounds_toArray, List.set_cons_zero, List.set_cons_succ]
    refine takeL 13 (.bool true) rfl (by kernel_rfl) (by kernel_rfl) (by kernel_rfl) (fun _ _ _ h => h) (Or.inl ⟨rfl, fun w9 hSw => by go_simp⟩) hHeld ?_
    try simp only [Act.put, List.setIfInBounds_toArray, List.set_cons_zero, List.set_cons_succ]
    refine takeL 14 (.bool true) rfl (by kernel_rfl) (by kernel_rfl) (by kernel_rfl) (fun _ _ _ h => h) (Or.inl ⟨rfl, fun _ _ => rfl⟩) hHeld ?_
    try simp only [Act.put, List.setIfInBounds_toArray, List.set_cons_zero, List.set_cons_succ]
    refine takeL 15 (.slice (some ⟨yb, yo, none⟩) bs.length yc) rfl (by kernel_rfl) (by kernel_rfl) (by kernel_rfl) (fun _ _ _ h => h) (Or.inl ⟨rfl, fun _ _ => rfl⟩) hHeld ?_
    try simp only [Act.put, List.setIfInBounds_toArray, List.set_cons_zero, List.set_cons_succ]
    refine takeL 16 (.int .i64 kn) rfl (by kernel_rfl) (by kernel_rfl) (by kernel_rfl) (fun _ _ _ h => h) (Or.inl ⟨rfl, fun _ _ => rfl⟩) hHeld ?_
    try simp only [Act.put, List.setIfInBounds_toArray, List.set_cons_zero, List.set_cons_succ]
    refine takeL 17 (.pointer (some ⟨yb, yo + kn * 2, none⟩)) rfl (by kernel_rfl) (by kernel_rfl) (by kernel_rfl) (fun _ _ _ h => h) (Or.inl ⟨rfl, fun w9 hSw => by go_simp⟩) hHeld ?_
    try simp only [Act.put, List.setIfInBounds_toArray, List.set_cons_zero, List.set_cons_succ]
    refine takeL 18 (.pointer (some ⟨yb, yo + kn * 2 + 1, none⟩)) rfl (by kernel_rfl) (by kernel_rfl) (by kernel_rfl) (fun _ _ _ h => h) (Or.inl ⟨rfl, fun w9 hSw => by go_simp⟩) hHeld ?_
    try simp only [Act.put, List.setIfInBounds_toArray, List.set_cons_zero, List.set_cons_succ]
    refine takeL 19 (.int .i64 (wn + 1 + 1)) rfl (by kernel_rfl) (by kernel_rfl) (by kernel_rfl) (fun _ _ _ h => h) (Or.inl ⟨rfl, fun w9 hSw => by have hc := hSw.2.2.2.1; go_simp⟩) hHeld ?_
    try simp only [Act.put, List.setIfInBounds_toArray, List.set_cons_zero, List.set_cons_succ]
    refine takeL 20 (.slice (some ⟨zb, zo, none⟩) bs.length zc) rfl (by kernel_rfl) (by kernel_rfl) (by kernel_rfl) (fun _ _ _ h => h) (Or.inl ⟨rfl, fun _ _ => rfl⟩) hHeld ?_
    try simp only [Act.put, List.setIfInBounds_toArray, List.set_cons_zero, List.set_cons_succ]
    refine takeL 21 (.int .i64 kn) rfl (by kernel_rfl) (by kernel_rfl) (by kernel_rfl) (fun _ _ _ h => h) (Or.inl ⟨rfl, fun _ _ => rfl⟩) hHeld ?_
    try simp only [Act.put, List.setIfInBounds_toArray, List.set_cons_zero, List.set_cons_succ]
    refine takeL 22 (.pointer (some ⟨zb, zo + kn * 2, none⟩)) rfl (by kernel_rfl) (by kernel_rfl) (by kernel_rfl) (fun _ _ _ h => h) (Or.inl ⟨rfl, fun w9 hSw => by go_simp⟩) hHeld ?_
    try simp only [Act.put, List.setIfInBounds_toArray, List.set_cons_zero, List.set_cons_succ]
    refine takeL 23 (.pointer (some ⟨zb, zo + kn * 2 + 1, none⟩)) rfl (by kernel_rfl) (by kernel_rfl) (by kernel_rfl) (fun _ _ _ h => h) (Or.inl ⟨rfl, fun w9 hSw => by go_simp⟩) hHeld ?_
    try simp only [Act.put, List.setIfInBounds_toArray, List.set_cons_zero, List.set_cons_succ]
    refine takeL 24 (.int .i64 (wn + 1)) rfl (by kernel_rfl) (by kernel_rfl) (by kernel_rfl) (fun _ _ _ h => h) (Or.inl ⟨rfl, fun w9 hSw => by have hc := hSw.2.2.2.2.2.1; go_simp⟩) hHeld ?_
    try simp only [Act.put, List.setIfInBounds_toArray, List.set_cons_zero, List.set_cons_succ]
    refine takeL 25 (.int .i64 (wn + 1 + 1)) rfl (by kernel_rfl) (by kernel_rfl) (by kernel_rfl) (fun _ _ _ h => h) (Or.inl ⟨rfl, fun w9 hSw => by go_simp⟩) hHeld ?_
    try simp only [Act.put, List.setIfInBounds_toArray, List.set_cons_zero, List.set_cons_succ]
    refine takeL 26 (.bool true) rfl (by kernel_rfl) (by kernel_rfl) (by kernel_rfl) (fun _ _ _ h => h) (Or.inl ⟨rfl, fun w9 hSw => by go_simp⟩) hHeld ?_
    try simp only [Act.put, List.setIfInBounds_toArray, List.set_cons_zero, List.set_cons_succ]
    refine takeL 27 (.bool true) rfl (by kernel_rfl) (by kernel_rfl) (by kernel_rfl) (fun _ _ _ h => h) (Or.inl ⟨rfl, fun w9 hSw => by go_simp⟩) hHeld ?_
    try simp only [Act.put, List.setIfInBounds_toArray, List.set_cons_zero, List.set_cons_succ]
    refine takeL 28 (.bool true) rfl (by kernel_rfl) (by kernel_rfl) (by kernel_rfl) (fun _ _ _ h => h) (Or.inl ⟨rfl, fun _ _ => rfl⟩) hHeld ?_
    try simp only [Act.put, List.setIfInBounds_toArray, List.set_cons_zero, List.set_cons_succ]
    refine takeL 29 (.slice (some ⟨yb, yo, none⟩) bs.length yc) rfl (by kernel_rfl) (by kernel_rfl) (by kernel_rfl) (fun _ _ _ h => h) (Or.inl ⟨rfl, fun _ _ => rfl⟩) hHeld ?_
    try simp only [Act.put, List.setIfInBounds_toArray, List.set_cons_zero, List.set_cons_succ]
    refine takeL 30 (.slice (some ⟨zb, zo, none⟩) bs.length zc) rfl (by kernel_rfl) (by kernel_rfl) (by kernel_rfl) (fun _ _ _ h => h) (Or.inl ⟨rfl, fun _ _ => rfl⟩) hHeld ?_
    try simp only [Act.put, List.setIfInBounds_toArray, List.set_cons_zero, List.set_cons_succ]
    refine takeL 31 (.int .i64 kn) rfl (by kernel_rfl) (by kernel_rfl) (by kernel_rfl) (fun _ _ _ h => h) (Or.inl ⟨rfl, fun _ _ => rfl⟩) hHeld ?_
    try simp only [Act.put, List.setIfInBounds_toArray, List.set_cons_zero, List.set_cons_succ]
    refine oneL 32 rfl (by kernel_rfl) rfl (fun K hK => ?_)
    go_simp
    refine (unhide HLO _ hHeld.1 hHeld.2.1).mono ?_
    rintro e wq ⟨rfl, bq⟩
    go_wp2_with fail
    refine hK.out _ _ (⟨hHeld.1.below bq, hHeld.2.1.below bq, by rw [bq.cell (p := ⟨yb, yo + kn * 2, none⟩) (Fl.cell_lt hHeld.2.2.1)]; exact hHeld.2.2.1, by rw [bq.cell (p := ⟨yb, yo + kn * 2 + 1, none⟩) (Fl.cell_lt hHeld.2.2.2.1)]; exact hHeld.2.2.2.1, by rw [bq.cell (p := ⟨zb, zo + kn * 2, none⟩) (Fl.cell_lt hHeld.2.2.2.2.1)]; exact hHeld.2.2.2.2.1, by rw [bq.cell (p := ⟨zb, zo + kn * 2 + 1, none⟩) (Fl.cell_lt hHeld.2.2.2.2.2.1)]; exact hHeld.2.2.2.2.2.1, rangeAt_below hHeld.2.2.2.2.2.2.1 bq (Fl.cell_lt (PsAt.cells hHeld.2.2.2.2.2.2.1 0 (by simp)).1), rangeAt_below hHeld.2.2.2.2.2.2.2 bq (Fl.cell_lt (PsAt.cells hHeld.2.2.2.2.2.2.2 0 (by simp)).1)⟩) (fun hHeld => ?_)
    clear hK K
    try simp only [Act.put, List.setIfInBounds_toArray, List.set_cons_zero, List.set_cons_succ]
    refine takeL 33 (.bool true) rfl (by kernel_rfl) (by kernel_rfl) (by kernel_rfl) (fun _ _ _ h => h) (Or.inl ⟨rfl, fun w9 hSw => by go_simp⟩) hHeld ?_
    try simp only [Act.put, List.setIfInBounds_toArray, List.set_cons_zero, List.set_cons_succ]
    refine takeL 34 (.bool true) rfl (by kernel_rfl) (by kernel_rfl) (by kernel_rfl) (fun _ _ _ h => h) (Or.inl ⟨rfl, fun _ _ => rfl⟩) hHeld ?_
    try simp only [Act.put, List.setIfInBounds_toArray, List.set_cons_zero, List.set_cons_succ]
    refine wpAnyH_done (by kernel_rfl) ?_ _
    refine NoPanic.normal ?_

    replace B := (B.drew.trans (bz.mono B.drew.size)).trans (bq.mono (B.drew.trans (bz.mono B.drew.size)).size)
    go_wp2
    go_ret
    exact ⟨rfl, B⟩


set_option maxRecDepth 100000 in
theorem lifted (os : Os) (started : os.Started) (H : Type) (enc : TypeId × Value → H) :
    ReturnsInHanded {} Try.checked os 6 .any (Rows.fnWipeAgainSpec.pre6 enc Try.prog Try.f6 Rows.fnWipeAgainRow.domain false) (Rows.fnWipeAgainSpec.post enc Try.prog Try.f6 false true false false) := by
  refine returnsInHanded_of_change (C := Try.checked) own started (by kernel_rfl) Try.func6
    (ChangeSpec.witness6 (enc := enc) (C := Try.checked) false ⟨#[], #[.slice none 0 0], []⟩ 8 (by kernel_rfl) (by kernel_rfl) (by kernel_rfl) (by kernel_rfl)) ?_
  intro W base args ds gs before hval0 hW hcnd _
  have hval : ∀ (j : Nat) t v, Try.f6.params[j]? = some t → args[j]? = some v → Value.okWide Try.prog W .any base t v := hval0
  have hW' := hW
  obtain ⟨p, q, hA0, hV, rfl, hfz, hnd⟩ := hW
  have hA : DataW.TrodAll enc Try.prog W 0 (fun _ => true) true Try.f6.params.toList args.toList ds p := hA0
  rw [Try.params6] at hA hval
  obtain ⟨v0, vs0, d0, ds0, p0, q0, hargs, rfl, rfl, h0, r0⟩ := trodAll_cons hA
  obtain ⟨rfl, rfl, rfl⟩ := trodAll_nil r0
  obtain rfl : args = #[v0] := by cases args; simp_all
  obtain ⟨rfl, rfl⟩ := trodVars_none hV
  have kk0 := h0
  have lt0 : ∀ x ∈ p0, x.block < W.heap.size := by obtain ⟨m, hm⟩ := kk0; exact DataW.trod_lt m _ _ _ hm
  obtain ⟨a0, len0, cap0, rfl⟩ := okWide_slice Try.underlying22 (hval 0 22 v0 rfl rfl)
  obtain ⟨z0, w0⟩ : ∃ zs, IsRow .u8 W a0 len0 cap0 zs := by
    obtain ⟨fuel, hf⟩ := h0
    rcases open_ints Try.underlying22 Try.underlying5 (by kernel_rfl) hf with ⟨hcs, _⟩ | ⟨x, l, c, zs, hcs, _, hl, hm, hz, _, hcell, hwz⟩
    · simp [Value.cells] at hcs
      obtain ⟨rfl, rfl, rfl⟩ := hcs
      exact ⟨[], .inl ⟨rfl, rfl, rfl, rfl⟩⟩
    · simp [Value.cells] at hcs
      obtain ⟨rfl, rfl, rfl⟩ := hcs
      exact ⟨zs, .inr ⟨_, rfl, hl, hm, by simpa using hz, hcell, hwz⟩⟩
  clear hA0
  refine (walk a0 len0 cap0 z0 W w0).mono fun e W' ⟨he, bel⟩ => ?_
  subst he
  exact ⟨_, rfl, _, _, _, [], _, [], hW', trodAll_mk1 (shut_bool Try.underlying4 _), (trodAll_cons_mk (Below.trod laidOut (by kernel_rfl) (of_decide_eq_true (by kernel_rfl)) kk0 bel lt0) trodAll_mk0), rfl, bel.frame _, fun h => by cases h⟩

set_option maxRecDepth 100000 in
theorem facts : joinedFacts Try.prog 6 Try.f6 Rows.fnWipeAgainSpec Rows.fnWipeAgainRow = true := by
  unfold joinedFacts
  refine Facts.and_t ?_ (by as_aux_lemma => kernel_rfl)
  refine Facts.and_t ?_ (by as_aux_lemma => kernel_rfl)
  refine Facts.and_t ?_ (by as_aux_lemma => kernel_rfl)
  refine Facts.and_t ?_ (by as_aux_lemma => kernel_rfl)
  refine Facts.and_t ?_ (by show (Try.prog.make == some Make.cut) = true; rw [Facts.made]; rfl)
  refine Facts.and_t ?_ (by show (false == Try.prog.liftsFinal) = true; rw [Facts.lifts]; rfl)
  refine Facts.and_t ?_ (Facts.enters)
  refine Facts.and_t ?_ (Facts.heard)
  refine Facts.and_t ?_ (rfl)
  refine Facts.and_t ?_ (by show (true == Try.prog.plainKeys) = true; rw [Facts.keys]; rfl)
  refine Facts.and_t ?_ (by as_aux_lemma => kernel_rfl)
  refine Facts.and_t ?_ (by as_aux_lemma => kernel_rfl)
  refine Facts.and_t ?_ (by as_aux_lemma => kernel_rfl)
  refine Facts.and_t ?_ (by as_aux_lemma => kernel_rfl)
  refine Facts.and_t ?_ (by as_aux_lemma => kernel_rfl)
  refine Facts.and_t ?_ (by as_aux_lemma => kernel_rfl)
  refine Facts.and_t ?_ (by as_aux_lemma => kernel_rfl)
  refine Facts.and_t ?_ (by as_aux_lemma => kernel_rfl)
  refine Facts.and_t ?_ (by as_aux_lemma => kernel_rfl)
  refine Facts.and_t ?_ (by as_aux_lemma => kernel_rfl)
  refine Facts.and_t ?_ (by as_aux_lemma => kernel_rfl)
  refine Facts.and_t ?_ (by as_aux_lemma => kernel_rfl)
  refine Facts.and_t ?_ (by as_aux_lemma => kernel_rfl)
  refine Facts.and_t ?_ (by as_aux_lemma => kernel_rfl)
  refine Facts.and_t ?_ (by as_aux_lemma => kernel_rfl)
  refine Facts.and_t ?_ (by as_aux_lemma => kernel_rfl)
  refine Facts.and_t ?_ (by as_aux_lemma => kernel_rfl)
  refine Facts.and_t ?_ (by as_aux_lemma => kernel_rfl)
  refine Facts.and_t ?_ (by as_aux_lemma => kernel_rfl)
  refine Facts.and_t ?_ (Facts.rowed)
  refine Facts.and_t ?_ (Facts.laidOut)
  kernel_rfl

theorem over : Rows.fnWipeAgainRow.holds Try.pinned (OpenSpec.ofChange Rows.fnWipeAgainSpec) :=
  OpenClaim.holds_of_wide 6 Try.f6 rfl rfl rfl rfl rfl rfl rfl ⟨rfl, rfl, rfl, rfl, rfl⟩ rfl rfl rfl rfl rfl (by kernel_rfl) Try.func6 facts
    (of_decide_eq_true (by kernel_rfl)) (by unfold Func.isWrapper; first | (rw [if_pos (by decide +kernel)]; kernel_rfl) | (rw [if_neg (by decide +kernel)]; exact ⟨rfl, rfl⟩))
    (fun os started H enc _ => lifted os started H enc)

end Go.Proofs.Ytogioeflbbmppaa.WipeAgain
namespace Go.Proofs.Ytogioeflbbmppaa
theorem fnWipeAgain_holds : Rows.FnWipeAgainSaid := WipeAgain.over
end Go.Proofs.Ytogioeflbbmppaa
