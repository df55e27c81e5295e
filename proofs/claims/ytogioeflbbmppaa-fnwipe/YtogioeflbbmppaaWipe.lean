/-
  A block that is wiped is clean, and once more worn: so it is in drawn blocks. The given statement, with no condition.
-/
import Derived.Test.YtogioeflbbmppaaWp
import Derived.Test.YtogioeflbbmppaaFacts
import Derived.Lib.SmallJoins
namespace Go.Proofs.Ytogioeflbbmppaa.Wipe
open Go.ChangeShapes Go.WideShapes Go.ChangeAt Go.RowKit Go.Shelf Go.Joins OkA Big Fl ImplB ImplF ImplS ImplT ImplU SpecA SpecB SpecC SpecD SpecW SpecX SpecF SpecG SpecH FindP FindN FindO FindD ImplW ImplX Pick Draw ClA DrB PlB LawsE Lq Lo Wp
open FlB (FsN)
open Facts (own laidOut)
set_option linter.unusedVariables false
set_option linter.unusedSimpArgs false
attribute [local go_sem ↓] Go.wp_at_zero Go.wp_at_succ

set_option maxRecDepth 100000 in
set_option maxHeartbeats 8000000 in
theorem walk (a0 : Option Addr) (len0 cap0 : Nat) (z0 : List Int) (w : World) (h0 : IsRow .u8 w a0 len0 cap0 z0) :
    Calls Try.prog 5 #[.slice a0 len0 cap0] w fun e w' => e = .returned (.bool true) ∧ Below w.heap.size w w' := by
  have HD := hide (drawWipe_any w a0 len0 cap0 z0 h0)
  clear h0
  go_enter Try.func5, Try.ntmps5
  by_cases hbig0 : 1048576 < (len0 : Int)
  · go_wp2
    go_ret
    exact ⟨rfl, Below.refl _ _⟩
  go_wp2_with fail
  refine (unhide HD).mono ?_
  rintro e w1 ⟨g, o, c, bs, k, torn, rfl, F1, k0, k7, B⟩
  have h4 := F1.four
  have hp4 := hide F1.pgs
  have hf := F1.fs
  clear HD F1
  generalize hfa : (some ⟨g, o, none⟩ : Option Addr) = fa at *
  have HSW := hide (fun (w' : World) (hF : FsAt w' fa bs) => specWipe_any fa c k torn bs w' hF (by omega))
  have HIW := hide (fun (w' : World) (hF : FsAt w' fa bs) => implWipe_any fa c k torn  bs w' hF (by omega))
  have HOK := hide (fun (w' : World) (hF : FsAt w' fa bs) => specFlashOk_any fa c  bs w' hF (by omega))
  have HRL : Hid ((wiR bs k torn).length ≤ 4) := wiR_len h4
  have HRP : Hid (∀ b ∈ wiR bs k torn, b.ps.length ≤ 4) := wiR_pgs (unhide hp4)
  generalize hR : wiR bs k torn = R at *
  generalize hO : wiO bs k = ok at *
  have HR := hide hR
  have HO := hide hO
  clear hR hO
  have hoo : (ok != ok) = false := by simp
  have hoe : (ok == ok) = true := by simp
  go_wp2_with fail
  refine (unhide HSW _ hf).mono ?_
  rintro e u23 ⟨v, rfl, X, b⟩
  replace hf := FsAt.below hf b
  replace B := B.trans (b.mono B.size)
  clear b
  obtain ⟨va, vc, rfl, hv⟩ := Own.NewFs.form X
  clear X
  go_wp2_with fail
  refine (unhide HIW _ hf).mono ?_
  rintro e u24 ⟨v, rfl, X, b⟩
  replace hf := FsAt.below hf b
  replace hv := FsAt.below hv b
  replace B := B.trans (b.mono B.size)
  clear b
  obtain ⟨xa, xc, rfl, hx⟩ := Own.NewFs.form X
  clear X
  go_wp2_with fail
  refine (lqFlash_same xa va xc vc R _ hx hv (by have := unhide HRL; omega) (fun b hb => by have := unhide HRP b hb; omega)).mono ?_
  rintro e u25 ⟨rfl, b⟩
  replace hf := FsAt.below hf b
  replace hv := FsAt.below hv b
  replace hx := FsAt.below hx b
  replace B := B.trans (b.mono B.size)
  clear b
  go_wp2_with fail
  refine (unhide HOK _ hf).mono ?_
  rintro e u26 ⟨rfl, b⟩
  replace hf := FsAt.below hf b
  replace hv := FsAt.below hv b
  replace hx := FsAt.below hx b
  replace B := B.trans (b.mono B.size)
  clear b
  cases hok : okB bs
  · go_wp2_with fail
    refine (lqFlash_same xa va xc vc R _ hx hv (by have := unhide HRL; omega) (fun b hb => by have := unhide HRP b hb; omega)).mono ?_
    rintro e u22 ⟨rfl, b⟩
    replace hf := FsAt.below hf b
    replace hv := FsAt.below hv b
    replace hx := FsAt.below hx b
    replace B := B.trans (b.mono B.size)
    clear b
    go_wp2
    go_ret
    exact ⟨rfl, B⟩
  by_cases hk4 : 4 ≤ k
  · go_wp2_with fail
    refine (lqFlash_same xa va xc vc R _ hx hv (by have := unhide HRL; omega) (fun b hb => by have := unhide HRP b hb; omega)).mono ?_
    rintro e u22 ⟨rfl, b⟩
    replace hf := FsAt.below hf b
    replace hv := FsAt.below hv b
    replace hx := FsAt.below hx b
    replace B := B.trans (b.mono B.size)
    clear b
    go_wp2
    go_ret
    exact ⟨rfl, B⟩
  obtain ⟨kn, rfl⟩ := Int.eq_ofNat_of_zero_le k0
  have hKi : (kn : Int) < 4 := by omega
  have hK0 : (0 : Int) ≤ (kn : Int) := by omega
  have hK4 : kn < 4 := by omega
  have hKl : kn < bs.length := by rw [ok_len hok]; exact hK4
  have hKb : (kn : Int) < (bs.length : Int) := by omega
  have hwn := SpecW.ok_worn hok kn hKl
  cases ok
  · obtain ⟨h1, h2⟩ := wiR_no (torn := torn) hok k0 (by omega) (unhide HO)
    have hRb : R = bs := by rw [← unhide HR, h1]
    subst hRb
    obtain ⟨fb, fo, pb, po, pc, e, c0, c1, _⟩ := ok_at hf hok kn hK4
    subst e
    have hw : (R[kn].wn == 200) = true := by
      simp only [wiN, Int.toNat_natCast, decide_eq_true_eq, Ok2.getD_in R kn hKl] at h2
      simp; omega
    clear h1 h2
    generalize R[kn].wn = wn at *
    go_wp2_with fail
    refine (lqFlash_same xa _ xc c R _ hx hf (by have := unhide HRL; omega) (fun b hb => by have := unhide HRP b hb; omega)).mono ?_
    rintro e u27 ⟨rfl, b⟩
    replace hf := FsAt.below hf b
    replace hx := FsAt.below hx b
    replace B := B.trans (b.mono B.size)
    clear b
    go_wp2
    go_ret
    exact ⟨rfl, B⟩
  · obtain ⟨h1, hX, _⟩ := wiR_yes (torn := torn) (unhide HO)
    simp only [Int.toNat_natCast] at h1 hX
    have hRw : R = wiL bs kn torn := by rw [← unhide HR, h1]
    subst hRw
    have hKx : kn < (wiL bs kn torn).length := by rw [SpecX.wiL_len]; exact hKl
    have hge : (wiL bs kn torn)[kn] = wiB bs[kn] torn := wiL_at hKl hKx
    have HLO := hide (fun (w' : World) (h1 : FsAt w' xa (wiL bs kn torn)) (h2 : FsAt w' fa bs) => lqOthers_but xa fa xc c (wiL bs kn torn) bs (wiL bs kn torn).length (kn : Int) w' h1 h2 rfl (by rw [SpecX.wiL_len]) (by have := unhide HRL; omega) (fun b hb => by have := unhide hp4 b hb; omega) others_wi)
    rw [show (wiL bs kn torn).length = bs.length from SpecX.wiL_len] at HLO
    have HXO := hide (fun (w' : World) (h1 : FsAt w' xa (wiL bs kn torn)) => flashOk_any xa xc (wiL bs kn torn) w' h1 (by have := unhide HRL; omega))
    rw [hX] at HXO
    rw [show (wiL bs kn torn).length = bs.length from SpecX.wiL_len] at HXO
    obtain ⟨fb, fo, pb0, po0, pc0, e, -, e1, -⟩ := ok_at hf hok kn hK4
    obtain ⟨xb, xo, pb, po, pc, ex, c0, c1, hr⟩ := ok_at hx hX kn hK4
    simp only [hge] at c1 hr
    replace c1 : _ = some (Value.int .i64 (bs[kn].wn + 1)) := c1
    subst e ex
    have HSZ := hide (size_pgw (pgS torn))
    have HRG := hide (fun (j : Nat) (hj : j < 4) => wi_range hr j hj)
    have hwl : (wiL bs kn torn).length = bs.length := SpecX.wiL_len
    rw [hwl]
    have hw0 : 0 ≤ bs[kn].wn ∧ bs[kn].wn ≤ 200 := hwn
    obtain ⟨hw1, hw2⟩ := hw0
    clear hwl hr hwn h1 hge
    generalize bs[kn].wn = wn at *
    have hwr : IntKind.i64.wrap (wn + 1) = wn + 1 := wrap_in _ (by omega) (by omega)
    generalize hRR : wiL bs kn torn = R at *
    clear hRR
    cases torn
    · go_wp2
      go_loop [11] (fun i => ∃ j : Nat, j ≤ 4 ∧ i = .int .i64 j) (fun i => 4 - (intOf i).toNat)
      case atStart => exact ⟨0, by omega, rfl⟩
      case round =>
        obtain ⟨j, hj, rfl⟩ := hrel
        by_cases hj4 : j = 4
        · subst hj4
          go_wp2_with fail
          refine wp_region_noPanic ?_
          refine wp_region_held_drew (S := fun w' => FsAt w' (some ⟨xb, xo, none⟩) R ∧ FsAt w' (some ⟨fb, fo, none⟩) bs ∧ w'.cell? ⟨xb, xo + kn * 2 + 1, none⟩ = some (.int .i64 (wn + 1)) ∧ w'.cell? ⟨fb, fo + kn * 2 + 1, none⟩ = some (.int .i64 wn)) (by kernel_rfl) (⟨hx.below ((Below.refl _ _).drew), hf.below ((Below.refl _ _).drew), by simpa using c1, by simpa using e1⟩) (fun hHeld => ?_)
          refine takeL 0 (.slice (some ⟨xb, xo, none⟩) bs.length xc) rfl (by kernel_rfl) (by kernel_rfl) (by kernel_rfl) (fun _ _ _ h => h) (Or.inl ⟨rfl, fun _ _ => rfl⟩) hHeld ?_
          try simp only [Act.put, List.setIfInBounds_toArray, List.set_cons_zero, List.set_cons_succ]
          refine takeL 1 (.int .i64 kn) rfl (by kernel_rfl) (by kernel_rfl) (by kernel_rfl) (fun _ _ _ h => h) (Or.inl ⟨rfl, fun _ _ => rfl⟩) hHeld ?_
          try simp only [Act.put, List.setIfInBounds_toArray, List.set_cons_zero, List.set_cons_succ]
          refine takeL 2 (.pointer (some ⟨xb, xo + kn * 2, none⟩)) rfl (by kernel_rfl) (by kernel_rfl) (by kernel_rfl) (fun _ _ _ h => h) (Or.inl ⟨rfl, fun w9 hSw => by go_simp⟩) hHeld ?_
          try simp only [Act.put, List.setIfInBounds_toArray, List.set_cons_zero, List.set_cons_succ]
          refine takeL 3 (.pointer (some ⟨xb, xo + kn * 2 + 1, none⟩)) rfl (by kernel_rfl) (by kernel_rfl) (by kernel_rfl) (fun _ _ _ h => h) (Or.inl ⟨rfl, fun w9 hSw => by go_simp⟩) hHeld ?_
          try simp only [Act.put, List.setIfInBounds_toArray, List.set_cons_zero, List.set_cons_succ]
          refine takeL 4 (.int .i64 (wn + 1)) rfl (by kernel_rfl) (by kernel_rfl) (by kernel_rfl) (fun _ _ _ h => h) (Or.inl ⟨rfl, fun w9 hSw => by have hc := hSw.2.2.1; go_simp⟩) hHeld ?_
          try simp only [Act.put, List.setIfInBounds_toArray, List.set_cons_zero, List.set_cons_succ]
          refine takeL 5 (.slice (some ⟨fb, fo, none⟩) bs.length c) rfl (by kernel_rfl) (by kernel_rfl) (by kernel_rfl) (fun _ _ _ h => h) (Or.inl ⟨rfl, fun _ _ => rfl⟩) hHeld ?_
          try simp only [Act.put, List.setIfInBounds_toArray, List.set_cons_zero, List.set_cons_succ]
          refine takeL 6 (.int .i64 kn) rfl (by kernel_rfl) (by kernel_rfl) (by kernel_rfl) (fun _ _ _ h => h) (Or.inl ⟨rfl, fun _ _ => rfl⟩) hHeld ?_
          try simp only [Act.put, List.setIfInBounds_toArray, List.set_cons_zero, List.set_cons_succ]
          refine takeL 7 (.pointer (some ⟨fb, fo + kn * 2, none⟩)) rfl (by kernel_rfl) (by kernel_rfl) (by kernel_rfl) (fun _ _ _ h => h) (Or.inl ⟨rfl, fun w9 hSw => by go_simp⟩) hHeld ?_
          try simp only [Act.put, List.setIfInBounds_toArray, List.set_cons_zero, List.set_cons_succ]
          refine takeL 8 (.pointer (some ⟨fb, fo + kn * 2 + 1, none⟩)) rfl (by kernel_rfl) (by kernel_rfl) (by kernel_rfl) (fun _ _ _ h => h) (Or.inl ⟨rfl, fun w9 hSw => by go_simp⟩) hHeld ?_
          try simp only [Act.put, List.setIfInBounds_toArray, List.set_cons_zero, List.set_cons_succ]
          refine takeL 9 (.int .i64 wn) rfl (by kernel_rfl) (by kernel_rfl) (by kernel_rfl) (fun _ _ _ h => h) (Or.inl ⟨rfl, fun w9 hSw => by have hc := hSw.2.2.2; go_simp⟩) hHeld ?_
          try simp only [Act.put, List.setIfInBounds_toArray, List.set_cons_zero, List.set_cons_succ]
          refine takeL 10 (.int .i64 (wn + 1)) rfl (by kernel_rfl) (by kernel_rfl) (by kernel_rfl) (fun _ _ _ h => h) (Or.inl ⟨rfl, fun w9 hSw => by go_simp⟩) hHeld ?_
          try simp only [Act.put, List.setIfInBounds_toArray, List.set_cons_zero, List.set_cons_succ]
          refine takeL 11 (.bool true) rfl (by kernel_rfl) (by kernel_rfl) (by kernel_rfl) (fun _ _ _ h => h) (Or.inl ⟨rfl, fun w9 hSw => by go_simp⟩) hHeld ?_
          try simp only [Act.put, List.setIfInBounds_toArray, List.set_cons_zero, List.set_cons_succ]
          refine takeL 12 (.bool true) rfl (by kernel_rfl) (by kernel_rfl) (by kernel_rfl) (fun _ _ _ h => h) (Or.inl ⟨rfl, fun _ _ => rfl⟩) hHeld ?_
          try simp only [Act.put, List.setIfInBounds_toArray, List.set_cons_zero, List.set_cons_succ]
          refine takeL 13 (.slice (some ⟨xb, xo, none⟩) bs.length xc) rfl (by kernel_rfl) (by kernel_rfl) (by kernel_rfl) (fun _ _ _ h => h) (Or.inl ⟨rfl, fun _ _ => rfl⟩) hHeld ?_
          try simp only [Act.put, List.setIfInBounds_toArray, List.set_cons_zero, List.set_cons_succ]
          refine takeL 14 (.slice (some ⟨fb, fo, none⟩) bs.length c) rfl (by kernel_rfl) (by kernel_rfl) (by kernel_rfl) (fun _ _ _ h => h) (Or.inl ⟨rfl, fun _ _ => rfl⟩) hHeld ?_
          try simp only [Act.put, List.setIfInBounds_toArray, List.set_cons_zero, List.set_cons_succ]
          refine takeL 15 (.int .i64 kn) rfl (by kernel_rfl) (by kernel_rfl) (by kernel_rfl) (fun _ _ _ h => h) (Or.inl ⟨rfl, fun _ _ => rfl⟩) hHeld ?_
          try simp only [Act.put, List.setIfInBounds_toArray, List.set_cons_zero, List.set_cons_succ]
          refine oneL 16 rfl (by kernel_rfl) rfl (fun K hK => ?_)
          go_simp
          refine (unhide HLO _ hHeld.1 hHeld.2.1).mono ?_
          rintro e wz ⟨rfl, bz⟩
          go_wp2_with fail
          refine hK.out _ _ (⟨hHeld.1.below bz, hHeld.2.1.below bz, by rw [bz.cell (p := ⟨xb, xo + kn * 2 + 1, none⟩) (Fl.cell_lt hHeld.2.2.1)]; exact hHeld.2.2.1, by rw [bz.cell (p := ⟨fb, fo + kn * 2 + 1, none⟩) (Fl.cell_lt hHeld.2.2.2)]; exact hHeld.2.2.2⟩) (fun hHeld => ?_)
          clear hK K
          try simp only [Act.put, List.setIfInBounds_toArray, List.set_cons_zero, List.set_cons_succ]
          refine takeL 17 (.bool true) rfl (by kernel_rfl) (by kernel_rfl) (by kernel_rfl) (fun _ _ _ h => h) (Or.inl ⟨rfl, fun w9 hSw => by go_simp⟩) hHeld ?_
          try simp only [Act.put, List.setIfInBounds_toArray, List.set_cons_zero, List.set_cons_succ]
          refine takeL 18 (.bool true) rfl (by kernel_rfl) (by kernel_rfl) (by kernel_rfl) (fun _ _ _ h => h) (Or.inl ⟨rfl, fun _ _ => rfl⟩) hHeld ?_
          try simp only [Act.put, List.setIfInBounds_toArray, List.set_cons_zero, List.set_cons_succ]
          refine takeL 19 (.slice (some ⟨xb, xo, none⟩) bs.length xc) rfl (by kernel_rfl) (by kernel_rfl) (by kernel_rfl) (fun _ _ _ h => h) (Or.inl ⟨rfl, fun _ _ => rfl⟩) hHeld ?_
          try simp only [Act.put, List.setIfInBounds_toArray, List.set_cons_zero, List.set_cons_succ]
          refine oneL 20 rfl (by kernel_rfl) rfl (fun K hK => ?_)
          go_simp
          refine (unhide HXO _ hHeld.1).mono ?_
          rintro e wq ⟨rfl, bq⟩
          go_wp2_with fail
          refine hK.out _ _ (⟨hHeld.1.below bq, hHeld.2.1.below bq, by rw [bq.cell (p := ⟨xb, xo + kn * 2 + 1, none⟩) (Fl.cell_lt hHeld.2.2.1)]; exact hHeld.2.2.1, by rw [bq.cell (p := ⟨fb, fo + kn * 2 + 1, none⟩) (Fl.cell_lt hHeld.2.2.2)]; exact hHeld.2.2.2⟩) (fun hHeld => ?_)
          clear hK K
          try simp only [Act.put, List.setIfInBounds_toArray, List.set_cons_zero, List.set_cons_succ]
          refine takeL 21 (.bool true) rfl (by kernel_rfl) (by kernel_rfl) (by kernel_rfl) (fun _ _ _ h => h) (Or.inl ⟨rfl, fun w9 hSw => by go_simp⟩) hHeld ?_
          try simp only [Act.put, List.setIfInBounds_toArray, List.set_cons_zero, List.set_cons_succ]
          refine takeL 22 (.bool true) rfl (by kernel_rfl) (by kernel_rfl) (by kernel_rfl) (fun _ _ _ h => h) (Or.inl ⟨rfl, fun _ _ => rfl⟩) hHeld ?_
          try simp only [Act.put, List.setIfInBounds_toArray, List.set_cons_zero, List.set_cons_succ]
          refine wpAnyH_done (by kernel_rfl) ?_ _
          refine NoPanic.normal ?_
          replace B := (B.drew.trans (bz.mono B.drew.size)).trans (bq.mono (B.drew.trans (bz.mono B.drew.size)).size)
          go_wp2
          go_ret
          exact ⟨rfl, B⟩
        · have hji : (j : Int) < 4 := by omega
          have hj0 : (0 : Int) ≤ (j : Int) := by omega
          have hrj : World.rangeAt _ pb (po + j * 5) [.int .i64 0, .int .i64 0, .int .i64 0, .int .i64 0, .int .i64 0] := unhide HRG j (by omega)
          go_wp2_with (refine wpList_load_mid rfl 33 _ rfl pb (po + j * 5) rfl [.int .i64 0, .int .i64 0, .int .i64 0, .int .i64 0, .int .i64 0] _ hrj Try.underlying33 rfl (unhide HSZ) ?_)
          go_round
          case rel => exact ⟨j + 1, by omega, by first | rfl | go_num⟩
          case measure => simp [intOf]; omega
    · go_wp2
      go_loop [11] (fun i => ∃ j : Nat, j ≤ 4 ∧ i = .int .i64 j) (fun i => 4 - (intOf i).toNat)
      case atStart => exact ⟨0, by omega, rfl⟩
      case round =>
        obtain ⟨j, hj, rfl⟩ := hrel
        by_cases hj4 : j = 4
        · subst hj4
          go_wp2_with fail
          refine wp_region_noPanic ?_
          refine wp_region_held_drew (S := fun w' => FsAt w' (some ⟨xb, xo, none⟩) R ∧ FsAt w' (some ⟨fb, fo, none⟩) bs ∧ w'.cell? ⟨xb, xo + kn * 2 + 1, none⟩ = some (.int .i64 (wn + 1)) ∧ w'.cell? ⟨fb, fo + kn * 2 + 1, none⟩ = some (.int .i64 wn)) (by kernel_rfl) (⟨hx.below ((Below.refl _ _).drew), hf.below ((Below.refl _ _).drew), by simpa using c1, by simpa using e1⟩) (fun hHeld => ?_)
          refine takeL 0 (.slice (some ⟨xb, xo, none⟩) bs.length xc) rfl (by kernel_rfl) (by kernel_rfl) (by kernel_rfl) (fun _ _ _ h => h) (Or.inl ⟨rfl, fun _ _ => rfl⟩) hHeld ?_
          try simp only [Act.put, List.setIfInBounds_toArray, List.set_cons_zero, List.set_cons_succ]
          refine takeL 1 (.int .i64 kn) rfl (by kernel_rfl) (by kernel_rfl) (by kernel_rfl) (fun _ _ _ h => h) (Or.inl ⟨rfl, fun _ _ => rfl⟩) hHeld ?_
          try simp only [Act.put, List.setIfInBounds_toArray, List.set_cons_zero, List.set_cons_succ]
          refine takeL 2 (.pointer (some ⟨xb, xo + kn * 2, none⟩)) rfl (by kernel_rfl) (by kernel_rfl) (by kernel_rfl) (fun _ _ _ h => h) (Or.inl ⟨rfl, fun w9 hSw => by go_simp⟩) hHeld ?_
          try simp only [Act.put, List.setIfInBounds_toArray, List.set_cons_zero, List.set_cons_succ]
          refine takeL 3 (.pointer (some ⟨xb, xo + kn * 2 + 1, none⟩)) rfl (by kernel_rfl) (by kernel_rfl) (by kernel_rfl) (fun _ _ _ h => h) (Or.inl ⟨rfl, fun w9 hSw => by go_simp⟩) hHeld ?_
          try simp only [Act.put, List.setIfInBounds_toArray, List.set_cons_zero, List.set_cons_succ]
          refine takeL 4 (.int .i64 (wn + 1)) rfl (by kernel_rfl) (by kernel_rfl) (by kernel_rfl) (fun _ _ _ h => h) (Or.inl ⟨rfl, fun w9 hSw => by have hc := hSw.2.2.1; go_simp⟩) hHeld ?_
          try simp only [Act.put, List.setIfInBounds_toArray, List.set_cons_zero, List.set_cons_succ]
          refine takeL 5 (.slice (some ⟨fb, fo, none⟩) bs.length c) rfl (by kernel_rfl) (by kernel_rfl) (by kernel_rfl) (fun _ _ _ h => h) (Or.inl ⟨rfl, fun _ _ => rfl⟩) hHeld ?_
          try simp only [Act.put, List.setIfInBounds_toArray, List.set_cons_zero, List.set_cons_succ]
          refine takeL 6 (.int .i64 kn) rfl (by kernel_rfl) (by kernel_rfl) (by kernel_rfl) (fun _ _ _ h => h) (Or.inl ⟨rfl, fun _ _ => rfl⟩) hHeld ?_
          try simp only [Act.put, List.setIfInBounds_toArray, List.set_cons_zero, List.set_cons_succ]
          refine takeL 7 (.pointer (some ⟨fb, fo + kn * 2, none⟩)) rfl (by kernel_rfl) (by kernel_rfl) (by kernel_rfl) (fun _ _ _ h => h) (Or.inl ⟨rfl, fun w9 hSw => by go_simp⟩) hHeld ?_
          try simp only [Act.put, List.setIfInBounds_toArray, List.set_cons_zero, List.set_cons_succ]
          refine takeL 8 (.pointer (some ⟨fb, fo + kn * 2 + 1, none⟩)) rfl (by kernel_rfl) (by kernel_rfl) (by kernel_rfl) (fun _ _ _ h => h) (Or.inl ⟨rfl, fun w9 hSw => by go_simp⟩) hHeld ?_
          try simp only [Act.put, List.setIfInBounds_toArray, List.set_cons_zero, List.set_cons_succ]
          refine takeL 9 (.int .i64 wn) rfl (by kernel_rfl) (by kernel_rfl) (by kernel_rfl) (fun _ _ _ h => h) (Or.inl ⟨rfl, fun w9 hSw => by have hc := hSw.2.2.2; go_simp⟩) hHeld ?_
          try simp only [Act.put, List.setIfInBounds_toArray, List.set_cons_zero, List.set_cons_succ]
          refine takeL 10 (.int .i64 (wn + 1)) rfl (by kernel_rfl) (by kernel_rfl) (by kernel_rfl) (fun _ _ _ h => h) (Or.inl ⟨rfl, fun w9 hSw => by go_simp⟩) hHeld ?_
          try simp only [Act.put, List.setIfInBounds_toArray, List.set_cons_zero, List.set_cons_succ]
          refine takeL 11 (.bool true) rfl (by kernel_rfl) (by kernel_rfl) (by kernel_rfl) (fun _ _ _ h => h) (Or.inl ⟨rfl, fun w9 hSw => by go_simp⟩) hHeld ?_
          try simp only [Act.put, List.setIfInBounds_toArray, List.set_cons_zero, List.set_cons_succ]
          refine takeL 12 (.bool true) rfl (by kernel_rfl) (by kernel_rfl) (by kernel_rfl) (fun _ _ _ h => h) (Or.inl ⟨rfl, fun _ _ => rfl⟩) hHeld ?_
          try simp only [Act.put, List.setIfInBounds_toArray, List.set_cons_zero, List.set_cons_succ]
          refine takeL 13 (.slice (some ⟨xb, xo, none⟩) bs.length xc) rfl (by kernel_rfl) (by kernel_rfl) (by kernel_rfl) (fun _ _ _ h => h) (Or.inl ⟨rfl, fun _ _ => rfl⟩) hHeld ?_
          try simp only [Act.put, List.setIfInBounds_toArray, List.set_cons_zero, List.set_cons_succ]
          refine takeL 14 (.slice (some ⟨fb, fo, none⟩) bs.length c) rfl (by kernel_rfl) (by kernel_rfl) (by kernel_rfl) (fun _ _ _ h => h) (Or.inl ⟨rfl, fun _ _ => rfl⟩) hHeld ?_
          try simp only [Act.put, List.setIfInBounds_toArray, List.set_cons_zero, List.set_cons_succ]
          refine takeL 15 (.int .i64 kn) rfl (by kernel_rfl) (by kernel_rfl) (by kernel_rfl) (fun _ _ _ h => h) (Or.inl ⟨rfl, fun _ _ => rfl⟩) hHeld ?_
          try simp only [Act.put, List.setIfInBounds_toArray, List.set_cons_zero, List.set_cons_succ]
          refine oneL 16 rfl (by kernel_rfl) rfl (fun K hK => ?_)
          go_simp
          refine (unhide HLO _ hHeld.1 hHeld.2.1).mono ?_
          rintro e wz ⟨rfl, bz⟩
          go_wp2_with fail
          refine hK.out _ _ (⟨hHeld.1.below bz, hHeld.2.1.below bz, by rw [bz.cell (p := ⟨xb, xo + kn * 2 + 1, none⟩) (Fl.cell_lt hHeld.2.2.1)]; exact hHeld.2.2.1, by rw [bz.cell (p := ⟨fb, fo + kn * 2 + 1, none⟩) (Fl.cell_lt hHeld.2.2.2)]; exact hHeld.2.2.2⟩) (fun hHeld => ?_)
          clear hK K
          try simp only [Act.put, List.setIfInBounds_toArray, List.set_cons_zero, List.set_cons_succ]
          refine takeL 17 (.bool true) rfl (by kernel_rfl) (by kernel_rfl) (by kernel_rfl) (fun _ _ _ h => h) (Or.inl ⟨rfl, fun w9 hSw => by go_simp⟩) hHeld ?_
          try simp only [Act.put, List.setIfInBounds_toArray, List.set_cons_zero, List.set_cons_succ]
          refine takeL 18 (.bool true) rfl (by kernel_rfl) (by kernel_rfl) (by kernel_rfl) (fun _ _ _ h => h) (Or.inl ⟨rfl, fun _ _ => rfl⟩) hHeld ?_
          try simp only [Act.put, List.setIfInBounds_toArray, List.set_cons_zero, List.set_cons_succ]
          refine takeL 19 (.slice (some ⟨xb, xo, none⟩) bs.length xc) rfl (by kernel_rfl) (by kernel_rfl) (by kernel_rfl) (fun _ _ _ h => h) (Or.inl ⟨rfl, fun _ _ => rfl⟩) hHeld ?_
          try simp only [Act.put, List.setIfInBounds_toArray, List.set_cons_zero, List.set_cons_succ]
          refine oneL 20 rfl (by kernel_rfl) rfl (fun K hK => ?_)
          go_simp
          refine (unhide HXO _ hHeld.1).mono ?_
          rintro e wq ⟨rfl, bq⟩
          go_wp2_with fail
          refine hK.out _ _ (⟨hHeld.1.below bq, hHeld.2.1.below bq, by rw [bq.cell (p := ⟨xb, xo + kn * 2 + 1, none⟩) (Fl.cell_lt hHeld.2.2.1)]; exact hHeld.2.2.1, by rw [bq.cell (p := ⟨fb, fo + kn * 2 + 1, none⟩) (Fl.cell_lt hHeld.2.2.2)]; exact hHeld.2.2.2⟩) (fun hHeld => ?_)
          clear hK K
          try simp only [Act.put, List.setIfInBounds_toArray, List.set_cons_zero, List.set_cons_succ]
          refine takeL 21 (.bool true) rfl (by kernel_rfl) (by kernel_rfl) (by kernel_rfl) (fun _ _ _ h => h) (Or.inl ⟨rfl, fun w9 hSw => by go_simp⟩) hHeld ?_
          try simp only [Act.put, List.setIfInBounds_toArray, List.set_cons_zero, List.set_cons_succ]
          refine takeL 22 (.bool true) rfl (by kernel_rfl) (by kernel_rfl) (by kernel_rfl) (fun _ _ _ h => h) (Or.inl ⟨rfl, fun _ _ => rfl⟩) hHeld ?_
          try simp only [Act.put, List.setIfInBounds_toArray, List.set_cons_zero, List.set_cons_succ]
          refine wpAnyH_done (by kernel_rfl) ?_ _
          refine NoPanic.normal ?_
          replace B := (B.drew.trans (bz.mono B.drew.size)).trans (bq.mono (B.drew.trans (bz.mono B.drew.size)).size)
          go_wp2
          go_ret
          exact ⟨rfl, B⟩
        · have hji : (j : Int) < 4 := by omega
          have hj0 : (0 : Int) ≤ (j : Int) := by omega
          have hrj : World.rangeAt _ pb (po + j * 5) [.int .i64 2, .int .i64 0, .int .i64 0, .int .i64 0, .int .i64 0] := unhide HRG j (by omega)
          go_wp2_with (refine wpList_load_mid rfl 33 _ rfl pb (po + j * 5) rfl [.int .i64 2, .int .i64 0, .int .i64 0, .int .i64 0, .int .i64 0] _ hrj Try.underlying33 rfl (unhide HSZ) ?_)
          go_round
          case rel => exact ⟨j + 1, by omega, by first | rfl | go_num⟩
          case measure => simp [intOf]; omega


set_option maxRecDepth 100000 in
theorem lifted (os : Os) (started : os.Started) (H : Type) (enc : TypeId × Value → H) :
    ReturnsInHanded {} Try.checked os 5 .any (Rows.fnWipeSpec.pre6 enc Try.prog Try.f5 Rows.fnWipeRow.domain false) (Rows.fnWipeSpec.post enc Try.prog Try.f5 false true false false) := by
  refine returnsInHanded_of_change (C := Try.checked) own started (by kernel_rfl) Try.func5
    (ChangeSpec.witness6 (enc := enc) (C := Try.checked) false ⟨#[], #[.slice none 0 0], []⟩ 8 (by kernel_rfl) (by kernel_rfl) (by kernel_rfl) (by kernel_rfl)) ?_
  intro W base args ds gs before hval0 hW hcnd _
  have hval : ∀ (j : Nat) t v, Try.f5.params[j]? = some t → args[j]? = some v → Value.okWide Try.prog W .any base t v := hval0
  have hW' := hW
  obtain ⟨p, q, hA0, hV, rfl, hfz, hnd⟩ := hW
  have hA : DataW.TrodAll enc Try.prog W 0 (fun _ => true) true Try.f5.params.toList args.toList ds p := hA0
  rw [Try.params5] at hA hval
  obtain ⟨v0, vs0, d0, ds0, p0, q0, hargs, rfl, rfl, h0, r0⟩ := trodAll_cons hA
  obtain ⟨rfl, rfl, rfl⟩ := trodAll_nil r0
  obtain rfl : args = #[v0] := by cases args; simp_all
  obtain ⟨rfl, rfl⟩ := trodVars_none hV
  have kk0 := h0
  have lt0 : ∀ x ∈ p0, x.block < W.heap.size := by obtain ⟨m, hm⟩ := kk0; exact DataW.trod_lt m _ _ _ hm
  obtain ⟨a0, len0, cap0, rfl⟩ := okWide_slice Try.underlying22 (hval 0 22 v0 rfl rfl)
  obtain ⟨z0, w0⟩ : ∃ zs, IsRow .u8 W a0 len0 cap0 zs := by
    obtain ⟨fuel, hf⟩ := h0
    rcases open_ints Try.underlying22 Try.underlying5 (by kernel_rfl) hf with ⟨hcs, _⟩ | ⟨x, l, c, zs, hcs, _, hl, hm, hz, _, hcell, hwz⟩
    · simp [Value.cells] at hcs
      obtain ⟨rfl, rfl, rfl⟩ := hcs
      exact ⟨[], .inl ⟨rfl, rfl, rfl, rfl⟩⟩
    · simp [Value.cells] at hcs
      obtain ⟨rfl, rfl, rfl⟩ := hcs
      exact ⟨zs, .inr ⟨_, rfl, hl, hm, by simpa using hz, hcell, hwz⟩⟩
  clear hA0
  refine (walk a0 len0 cap0 z0 W w0).mono fun e W' ⟨he, bel⟩ => ?_
  subst he
  exact ⟨_, rfl, _, _, _, [], _, [], hW', trodAll_mk1 (shut_bool Try.underlying4 _), (trodAll_cons_mk (Below.trod laidOut (by kernel_rfl) (of_decide_eq_true (by kernel_rfl)) kk0 bel lt0) trodAll_mk0), rfl, bel.frame _, fun h => by cases h⟩

set_option maxRecDepth 100000 in
theorem facts : joinedFacts Try.prog 5 Try.f5 Rows.fnWipeSpec Rows.fnWipeRow = true := by
  unfold joinedFacts
  refine Facts.and_t ?_ (by as_aux_lemma => kernel_rfl)
  refine Facts.and_t ?_ (by as_aux_lemma => kernel_rfl)
  refine Facts.and_t ?_ (by as_aux_lemma => kernel_rfl)
  refine Facts.and_t ?_ (by as_aux_lemma => kernel_rfl)
  refine Facts.and_t ?_ (by show (Try.prog.make == some Make.cut) = true; rw [Facts.made]; rfl)
  refine Facts.and_t ?_ (by show (false == Try.prog.liftsFinal) = true; rw [Facts.lifts]; rfl)
  refine Facts.and_t ?_ (Facts.enters)
  refine Facts.and_t ?_ (Facts.heard)
  refine Facts.and_t ?_ (rfl)
  refine Facts.and_t ?_ (by show (true == Try.prog.plainKeys) = true; rw [Facts.keys]; rfl)
  refine Facts.and_t ?_ (by as_aux_lemma => kernel_rfl)
  refine Facts.and_t ?_ (by as_aux_lemma => kernel_rfl)
  refine Facts.and_t ?_ (by as_aux_lemma => kernel_rfl)
  refine Facts.and_t ?_ (by as_aux_lemma => kernel_rfl)
  refine Facts.and_t ?_ (by as_aux_lemma => kernel_rfl)
  refine Facts.and_t ?_ (by as_aux_lemma => kernel_rfl)
  refine Facts.and_t ?_ (by as_aux_lemma => kernel_rfl)
  refine Facts.and_t ?_ (by as_aux_lemma => kernel_rfl)
  refine Facts.and_t ?_ (by as_aux_lemma => kernel_rfl)
  refine Facts.and_t ?_ (by as_aux_lemma => kernel_rfl)
  refine Facts.and_t ?_ (by as_aux_lemma => kernel_rfl)
  refine Facts.and_t ?_ (by as_aux_lemma => kernel_rfl)
  refine Facts.and_t ?_ (by as_aux_lemma => kernel_rfl)
  refine Facts.and_t ?_ (by as_aux_lemma => kernel_rfl)
  refine Facts.and_t ?_ (by as_aux_lemma => kernel_rfl)
  refine Facts.and_t ?_ (by as_aux_lemma => kernel_rfl)
  refine Facts.and_t ?_ (by as_aux_lemma => kernel_rfl)
  refine Facts.and_t ?_ (by as_aux_lemma => kernel_rfl)
  refine Facts.and_t ?_ (by as_aux_lemma => kernel_rfl)
  refine Facts.and_t ?_ (Facts.rowed)
  refine Facts.and_t ?_ (Facts.laidOut)
  kernel_rfl

theorem over : Rows.fnWipeRow.holds Try.pinned (OpenSpec.ofChange Rows.fnWipeSpec) :=
  OpenClaim.holds_of_wide 5 Try.f5 rfl rfl rfl rfl rfl rfl rfl ⟨rfl, rfl, rfl, rfl, rfl⟩ rfl rfl rfl rfl rfl (by kernel_rfl) Try.func5 facts
    (of_decide_eq_true (by kernel_rfl)) (by unfold Func.isWrapper; first | (rw [if_pos (by decide +kernel)]; kernel_rfl) | (rw [if_neg (by decide +kernel)]; exact ⟨rfl, rfl⟩))
    (fun os started H enc _ => lifted os started H enc)

end Go.Proofs.Ytogioeflbbmppaa.Wipe
namespace Go.Proofs.Ytogioeflbbmppaa
theorem fnWipe_holds : Rows.FnWipeSaid := Wipe.over
end Go.Proofs.Ytogioeflbbmppaa
