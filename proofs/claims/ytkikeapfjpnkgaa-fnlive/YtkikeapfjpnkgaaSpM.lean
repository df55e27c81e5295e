/-
  Texts that belong together, one behind the other: SpS, SpT.
-/
import Derived.Test.YtkikeapfjpnkgaaStO
import Derived.Test.YtkikeapfjpnkgaaBaS

/-
  The specification's StoreOk; it is what the program tells.
-/
namespace Go.Proofs.Ytkikeapfjpnkgaa.SpS
open Go.ChangeShapes Go.WideShapes Go.ChangeAt Go.RowKit Go.Shelf OkA Big Fl ImplB ImplF ImplS _root_.Go.Proofs.Ytkikeapfjpnkgaa.Own ImplT ImplU SpecA SpecB SpecC SpecD SpecW SpecF SpecG SpecH Ok2 Pl FindP ImplO SpecX SpecO ImplQ ImplW ImplL FindN FindL FindV FindQ Kp Gd StA MpA StB StC StD StE StF StG
set_option linter.unusedVariables false
set_option linter.unusedSimpArgs false
attribute [local go_sem ↓] Go.wp_at_zero Go.wp_at_succ
attribute [local go_sem] onlyIf_t onlyIf_f

/-- What is wrong with an address: its number on the slow disk, or that it is clean, and the slow disk has another value. -/
def badA (bs : List Bk) (dk : List Int) (i : Nat) : Bool := !inB (dk.getD i 0) 0 9 || (lastO bs ((i : Int) + 1) && (lastR bs ((i : Int) + 1)).k == 2 && (lastR bs ((i : Int) + 1)).v != dk.getD i 0)
/-- The store is ok. -/
def stB (bs : List Bk) (dk : List Int) : Bool := ordR bs && dk.length == 6 && (List.range 6).all fun i => !badA bs dk i

set_option maxRecDepth 100000 in
set_option maxHeartbeats 2000000 in
theorem specOk_st (fa : Option Addr) (fc : Nat) (bs : List Bk) (da : Option Addr) (dc : Nat) (dk : List Int) (w : World) (h : SAt w fa bs da dk) (hm : bs.length ≤ 1048576) (hp : ∀ b ∈ bs, b.ps.length ≤ 1048576) (hm2 : dk.length ≤ 1048576) :
    Calls Try.prog 72 #[.agg #[.slice fa bs.length fc, .slice da dk.length dc]] w fun e w' => e = .returned (.bool (stB bs dk)) ∧ Below w.heap.size w w' := by
  have B0 : Below w.heap.size w (w.alloc (.cells #[.slice fa bs.length fc, .slice da dk.length dc] 54)) := (Below.refl _ _).alloc (Nat.le_refl _) _
  have cS := store_box w (.slice fa bs.length fc) (.slice da dk.length dc)
  have s0 : w.heap.size < (w.alloc (.cells #[.slice fa bs.length fc, .slice da dk.length dc] 54)).heap.size := by simp
  have HA := hide (h.below B0)
  have HO := hide (specOrder_any fa fc bs _ (h.below B0).fs hm)
  have HLA := hide (fun (addr : Int) (w' : World) (h : FsAt w' fa bs) => SpecL.last_any fa fc bs addr w' h hm hp)
  have HR : Hid (stB bs dk = (ordR bs && dk.length == 6 && (List.range 6).all fun i => !badA bs dk i)) := rfl
  have hmi : (dk.length : Int) ≤ 1048576 := by omega
  have x0 := cS.cell 0 _ rfl
  clear h
  generalize stB bs dk = R at *
  generalize ordR bs = ob at *
  go_enter Try.func72, Try.ntmps72
  go_wp2_with fail
  generalize w.alloc (.cells #[.slice fa bs.length fc, .slice da dk.length dc] 54) = w0 at *
  refine (unhide HO).mono ?_
  rintro e w1 ⟨rfl, b1⟩
  have cS1 := cS.below b1 (by omega)
  have HA1 := hide ((unhide HA).below b1)
  have B1 := B0.trans (b1.mono B0.size)
  have s1 := Nat.lt_of_lt_of_le s0 b1.size
  have x1 := cS1.cell 1 _ rfl
  clear cS HA B0 b1 s0 x0
  cases ob
  · have HE : Hid (R = false) := by show _ = _; rw [unhide HR]; rfl
    go_wp2
    go_ret
    exact ⟨by rw [unhide HE]; rfl, B1⟩
  by_cases h6 : dk.length = 6
  rotate_left
  · have HE : Hid (R = false) := by show _ = _; rw [unhide HR]; simp [h6]
    have g6 : ((dk.length : Int) != 6) = true := by simp; omega
    go_wp2
    go_ret
    exact ⟨by rw [unhide HE]; rfl, B1⟩
  have g6 : ((dk.length : Int) != 6) = false := by simp; omega
  have HE : Hid (R = (List.range 6).all fun i => !badA bs dk i) := by show _ = _; rw [unhide HR, h6]; rfl
  obtain ⟨db, dof, rfl, hd⟩ : ∃ b o, da = some ⟨b, o, none⟩ ∧ w1.rangeAt b o (isC dk) := by
    rcases (unhide HA1).ds with rfl | h
    · simp at h6
    · exact h
  have HF := hide (unhide HA1).fs
  have HD := hide hd
  have hdl : db < w1.heap.size := cell_lt (isC_at hd 0 (by omega))
  clear hd HA1 HR
  rw [h6] at cS1 x1 ⊢
  go_wp2
  clear x1
  go_loopw [3] (fun i w' => ∃ k : Nat, k ≤ 6 ∧ i = .int .i64 k ∧ Hid (∀ j, j < k → badA bs dk j = false) ∧ Hid (Below w1.heap.size w1 w')) (fun i _ => 6 - (intOf i).toNat)
  case atStart => exact ⟨0, by omega, rfl, (fun j hj => by omega), Below.refl _ _⟩
  case round =>
    obtain ⟨k, hk, rfl, HI, HW⟩ := hrel
    have bw := unhide HW
    have B2 := B1.trans (bw.mono B1.size)
    by_cases h0 : k = 6
    · subst h0
      have HT : Hid (R = true) := by
        show _ = _
        rw [unhide HE, List.all_eq_true]
        intro j hj
        rw [unhide HI j (by simpa using hj)]; rfl
      clear bw
      go_wp2
      go_ret
      exact ⟨by rw [unhide HT]; rfl, B2⟩
    · have hk6 : k < 6 := by omega
      have hlt : (k : Int) < 6 := by omega
      have hlo : (0 : Int) ≤ (k : Int) := by omega
      have cS2 := cS1.below bw s1
      have y0 := cS2.cell 0 _ rfl
      have hl := unhide HLA ((k : Int) + 1) wr ((unhide HF).below bw)
      have HL := hide hl
      have HB : Hid (badA bs dk k = (!inB (dk.getD k 0) 0 9 || (lastO bs ((k : Int) + 1) && (lastR bs ((k : Int) + 1)).k == 2 && (lastR bs ((k : Int) + 1)).v != dk.getD k 0))) := rfl
      have dn := isC_at (rangeAt_below (unhide HD) bw hdl) k (by omega)
      have s2 := Nat.lt_of_lt_of_le s1 bw.size
      have hd2 := Nat.lt_of_lt_of_le hdl bw.size
      have HW6 := hide (fun (w' : World) => l6In_any (dk.getD k 0) 0 9 w')
      clear hl HW
      go_wp2_with fail
      refine (unhide HL).mono ?_
      rintro e w3 ⟨rfl, b3⟩
      have cS3 := cS2.below b3 s2
      rw [← b3.cell (p := ⟨db, dof + k, none⟩) hd2] at dn
      have bw3 := bw.trans (b3.mono bw.size)
      have q3 := b3.size
      clear HL b3 cS2 y0 bw
      generalize lastO bs ((k : Int) + 1) = o at *
      generalize lastR bs ((k : Int) + 1) = r at *
      have bA : Below w3.heap.size w3 (w3.alloc (.cells (rcC r).toArray 25)) := (Below.refl _ _).alloc (Nat.le_refl _) _
      have cX := CsAt.new w3 (rcC r) 25
      have cS4 := cS3.below bA (by omega)
      rw [← bA.cell (p := ⟨db, dof + k, none⟩) (by show db < _; omega)] at dn
      have bw4 := bw3.trans (bA.mono bw3.size)
      have s4 : w3.heap.size < (w3.alloc (.cells (rcC r).toArray 25)).heap.size := by simp
      rw [show (rcC r).toArray = #[.int .i64 r.k, .int .i64 r.s, .int .i64 r.a, .int .i64 r.v] from rfl] at *
      go_wp2
      generalize hW : w3.alloc (.cells #[.int .i64 r.k, .int .i64 r.s, .int .i64 r.a, .int .i64 r.v] 25) = W at *
      generalize w3.heap.size = Rb at *
      have hdb : db < W.heap.size := by omega
      have hsb : w.heap.size < W.heap.size := by omega
      have HC : Hid (∀ w', Below W.heap.size W w' → w'.cell? ⟨w.heap.size, 1, none⟩ = some (.slice (some ⟨db, dof, none⟩) 6 dc) ∧ w'.cell? ⟨db, dof + k, none⟩ = some (.int .i64 (dk.getD k 0)) ∧ w'.cell? ⟨Rb, 0, none⟩ = some (.int .i64 r.k) ∧ w'.cell? ⟨Rb, 3, none⟩ = some (.int .i64 r.v)) := fun w' hb =>
        ⟨by rw [hb.cell (p := ⟨w.heap.size, 1, none⟩) hsb]; exact cS4.cell 1 _ rfl, by rw [hb.cell (p := ⟨db, dof + k, none⟩) hdb]; exact dn, by rw [hb.cell (p := ⟨Rb, 0, none⟩) s4]; exact cX.cell 0 _ rfl, by rw [hb.cell (p := ⟨Rb, 3, none⟩) s4]; exact cX.cell 3 _ rfl⟩
      clear hW bA cX cS3 cS4 dn bw3
      generalize dk.getD k 0 = d at *
      generalize hkk : (r.k == 2) = kk at *
      generalize hvv : (r.v != d) = vv at *
      generalize hin : inB d 0 9 = q at *
      clear hin
      refine wp_region_noPanic ?_
      refine wp_region_held_drew (S := fun w' => Below W.heap.size W w') (by kernel_rfl) ((Below.refl _ _).drew) (fun hHeld => ?_)
      refine takeL 0 (.pointer (some ⟨w.heap.size, 1, none⟩)) rfl (by kernel_rfl) (by kernel_rfl) (by kernel_rfl) (fun _ _ _ h => h) (Or.inl ⟨rfl, fun w9 hSw => by go_simp⟩) hHeld ?_
      try simp only [Act.put, List.setIfInBounds_toArray, List.set_cons_zero, List.set_cons_succ]
      refine takeL 1 (.slice (some ⟨db, dof, none⟩) 6 dc) rfl (by kernel_rfl) (by kernel_rfl) (by kernel_rfl) (fun _ _ _ h => h) (Or.inl ⟨rfl, fun w9 hSw => by have hc := unhide HC _ hSw; have hc1 := hc.1; have hc2 := hc.2.1; have hc3 := hc.2.2.1; have hc4 := hc.2.2.2; clear hc; go_simp⟩) hHeld ?_
      try simp only [Act.put, List.setIfInBounds_toArray, List.set_cons_zero, List.set_cons_succ]
      refine takeL 2 (.int .i64 (k : Nat)) rfl (by kernel_rfl) (by kernel_rfl) (by kernel_rfl) (fun _ _ _ h => h) (Or.inl ⟨rfl, fun _ _ => rfl⟩) hHeld ?_
      try simp only [Act.put, List.setIfInBounds_toArray, List.set_cons_zero, List.set_cons_succ]
      refine takeL 3 (.pointer (some ⟨db, dof + k, none⟩)) rfl (by kernel_rfl) (by kernel_rfl) (by kernel_rfl) (fun _ _ _ h => h) (Or.inl ⟨rfl, fun w9 hSw => by go_simp⟩) hHeld ?_
      try simp only [Act.put, List.setIfInBounds_toArray, List.set_cons_zero, List.set_cons_succ]
      refine takeL 4 (.int .i64 d) rfl (by kernel_rfl) (by kernel_rfl) (by kernel_rfl) (fun _ _ _ h => h) (Or.inl ⟨rfl, fun w9 hSw => by have hc := unhide HC _ hSw; have hc1 := hc.1; have hc2 := hc.2.1; have hc3 := hc.2.2.1; have hc4 := hc.2.2.2; clear hc; go_simp⟩) hHeld ?_
      try simp only [Act.put, List.setIfInBounds_toArray, List.set_cons_zero, List.set_cons_succ]
      refine oneL 5 rfl (by kernel_rfl) rfl (fun K hK => ?_)
      go_simp
      refine (unhide HW6 _).mono ?_
      rintro e w9 ⟨rfl, hw9⟩
      obtain rfl := hw9.symm
      go_wp2_with fail
      refine hK.out _ _ hHeld (fun hHeld => ?_)
      clear hK K
      try simp only [Act.put, List.setIfInBounds_toArray, List.set_cons_zero, List.set_cons_succ]
      refine takeL 6 (.bool (!q)) rfl (by kernel_rfl) (by kernel_rfl) (by kernel_rfl) (fun _ _ _ h => h) (Or.inl ⟨rfl, fun w9 hSw => by go_simp⟩) hHeld ?_
      try simp only [Act.put, List.setIfInBounds_toArray, List.set_cons_zero, List.set_cons_succ]
      refine takeL 7 (.bool (!q)) rfl (by kernel_rfl) (by kernel_rfl) (by kernel_rfl) (fun _ _ _ h => h) (Or.inl ⟨rfl, fun _ _ => rfl⟩) hHeld ?_
      try simp only [Act.put, List.setIfInBounds_toArray, List.set_cons_zero, List.set_cons_succ]
      refine takeG 8 (q) (.bool o) rfl (by kernel_rfl) (by kernel_rfl) (by kernel_rfl) (fun _ _ _ h => h) (by cases q <;> rfl) (fun hb w9 hSw => by cases q <;> first | (cases hb; done) | (go_simp)) hHeld ?_
      try simp only [Act.put, List.setIfInBounds_toArray, List.set_cons_zero, List.set_cons_succ]
      refine takeG 9 (q) (.bool o) rfl (by kernel_rfl) (by kernel_rfl) (by kernel_rfl) (fun _ _ _ h => h) (by cases q <;> rfl) (fun hb w9 hSw => by cases q <;> first | (cases hb; done) | (go_simp)) hHeld ?_
      try simp only [Act.put, List.setIfInBounds_toArray, List.set_cons_zero, List.set_cons_succ]
      refine takeG 10 (q && o) (.pointer (some ⟨Rb, 0, none⟩)) rfl (by kernel_rfl) (by kernel_rfl) (by kernel_rfl) (fun _ _ _ h => h) (by cases q <;> cases o <;> rfl) (fun hb w9 hSw => by cases q <;> cases o <;> first | (cases hb; done) | (go_simp)) hHeld ?_
      try simp only [Act.put, List.setIfInBounds_toArray, List.set_cons_zero, List.set_cons_succ]
      refine takeG 11 (q && o) (.int .i64 r.k) rfl (by kernel_rfl) (by kernel_rfl) (by kernel_rfl) (fun _ _ _ h => h) (by cases q <;> cases o <;> rfl) (fun hb w9 hSw => by cases q <;> cases o <;> first | (cases hb; done) | (have hc := unhide HC _ hSw; have hc1 := hc.1; have hc2 := hc.2.1; have hc3 := hc.2.2.1; have hc4 := hc.2.2.2; clear hc; go_simp)) hHeld ?_
      try simp only [Act.put, List.setIfInBounds_toArray, List.set_cons_zero, List.set_cons_succ]
      refine takeG 12 (q && o) (.bool kk) rfl (by kernel_rfl) (by kernel_rfl) (by kernel_rfl) (fun _ _ _ h => h) (by cases q <;> cases o <;> rfl) (fun hb w9 hSw => by cases q <;> cases o <;> first | (cases hb; done) | (go_simp)) hHeld ?_
      try simp only [Act.put, List.setIfInBounds_toArray, List.set_cons_zero, List.set_cons_succ]
      refine takeG 13 (q) (.bool (o && kk)) rfl (by kernel_rfl) (by kernel_rfl) (by kernel_rfl) (fun _ _ _ h => h) (by cases q <;> cases o <;> rfl) (fun hb w9 hSw => by cases q <;> cases o <;> first | (cases hb; done) | (go_simp)) hHeld ?_
      try simp only [Act.put, List.setIfInBounds_toArray, List.set_cons_zero, List.set_cons_succ]
      refine takeG 14 (q) (.bool (o && kk)) rfl (by kernel_rfl) (by kernel_rfl) (by kernel_rfl) (fun _ _ _ h => h) (by cases q <;> rfl) (fun hb w9 hSw => by cases q <;> first | (cases hb; done) | (go_simp)) hHeld ?_
      try simp only [Act.put, List.setIfInBounds_toArray, List.set_cons_zero, List.set_cons_succ]
      refine takeG 15 (q && (o && kk)) (.pointer (some ⟨Rb, 3, none⟩)) rfl (by kernel_rfl) (by kernel_rfl) (by kernel_rfl) (fun _ _ _ h => h) (by cases q <;> cases o <;> cases kk <;> rfl) (fun hb w9 hSw => by cases q <;> cases o <;> cases kk <;> first | (cases hb; done) | (go_simp)) hHeld ?_
      try simp only [Act.put, List.setIfInBounds_toArray, List.set_cons_zero, List.set_cons_succ]
      refine takeG 16 (q && (o && kk)) (.int .i64 r.v) rfl (by kernel_rfl) (by kernel_rfl) (by kernel_rfl) (fun _ _ _ h => h) (by cases q <;> cases o <;> cases kk <;> rfl) (fun hb w9 hSw => by cases q <;> cases o <;> cases kk <;> first | (cases hb; done) | (have hc := unhide HC _ hSw; have hc1 := hc.1; have hc2 := hc.2.1; have hc3 := hc.2.2.1; have hc4 := hc.2.2.2; clear hc; go_simp)) hHeld ?_
      try simp only [Act.put, List.setIfInBounds_toArray, List.set_cons_zero, List.set_cons_succ]
      refine takeG 17 (q && (o && kk)) (.pointer (some ⟨w.heap.size, 1, none⟩)) rfl (by kernel_rfl) (by kernel_rfl) (by kernel_rfl) (fun _ _ _ h => h) (by cases q <;> cases o <;> cases kk <;> rfl) (fun hb w9 hSw => by cases q <;> cases o <;> cases kk <;> first | (cases hb; done) | (go_simp)) hHeld ?_
      try simp only [Act.put, List.setIfInBounds_toArray, List.set_cons_zero, List.set_cons_succ]
      refine takeG 18 (q && (o && kk)) (.slice (some ⟨db, dof, none⟩) 6 dc) rfl (by kernel_rfl) (by kernel_rfl) (by kernel_rfl) (fun _ _ _ h => h) (by cases q <;> cases o <;> cases kk <;> rfl) (fun hb w9 hSw => by cases q <;> cases o <;> cases kk <;> first | (cases hb; done) | (have hc := unhide HC _ hSw; have hc1 := hc.1; have hc2 := hc.2.1; have hc3 := hc.2.2.1; have hc4 := hc.2.2.2; clear hc; go_simp)) hHeld ?_
      try simp only [Act.put, List.setIfInBounds_toArray, List.set_cons_zero, List.set_cons_succ]
      refine takeG 19 (q && (o && kk)) (.int .i64 (k : Nat)) rfl (by kernel_rfl) (by kernel_rfl) (by kernel_rfl) (fun _ _ _ h => h) (by cases q <;> cases o <;> cases kk <;> rfl) (fun hb w9 hSw => by cases q <;> cases o <;> cases kk <;> first | (cases hb; done) | (go_simp)) hHeld ?_
      try simp only [Act.put, List.setIfInBounds_toArray, List.set_cons_zero, List.set_cons_succ]
      refine takeG 20 (q && (o && kk)) (.pointer (some ⟨db, dof + k, none⟩)) rfl (by kernel_rfl) (by kernel_rfl) (by kernel_rfl) (fun _ _ _ h => h) (by cases q <;> cases o <;> cases kk <;> rfl) (fun hb w9 hSw => by cases q <;> cases o <;> cases kk <;> first | (cases hb; done) | (go_simp)) hHeld ?_
      try simp only [Act.put, List.setIfInBounds_toArray, List.set_cons_zero, List.set_cons_succ]
      refine takeG 21 (q && (o && kk)) (.int .i64 d) rfl (by kernel_rfl) (by kernel_rfl) (by kernel_rfl) (fun _ _ _ h => h) (by cases q <;> cases o <;> cases kk <;> rfl) (fun hb w9 hSw => by cases q <;> cases o <;> cases kk <;> first | (cases hb; done) | (have hc := unhide HC _ hSw; have hc1 := hc.1; have hc2 := hc.2.1; have hc3 := hc.2.2.1; have hc4 := hc.2.2.2; clear hc; go_simp)) hHeld ?_
      try simp only [Act.put, List.setIfInBounds_toArray, List.set_cons_zero, List.set_cons_succ]
      refine takeG 22 (q && (o && kk)) (.bool vv) rfl (by kernel_rfl) (by kernel_rfl) (by kernel_rfl) (fun _ _ _ h => h) (by cases q <;> cases o <;> cases kk <;> rfl) (fun hb w9 hSw => by cases q <;> cases o <;> cases kk <;> first | (cases hb; done) | (go_simp)) hHeld ?_
      try simp only [Act.put, List.setIfInBounds_toArray, List.set_cons_zero, List.set_cons_succ]
      refine takeG 23 (q) (.bool (o && kk && vv)) rfl (by kernel_rfl) (by kernel_rfl) (by kernel_rfl) (fun _ _ _ h => h) (by cases q <;> cases o <;> cases kk <;> rfl) (fun hb w9 hSw => by cases q <;> cases o <;> cases kk <;> first | (cases hb; done) | (go_simp)) hHeld ?_
      try simp only [Act.put, List.setIfInBounds_toArray, List.set_cons_zero, List.set_cons_succ]
      refine takeL 24 (.bool (!q || (o && kk && vv))) rfl (by kernel_rfl) (by kernel_rfl) (by kernel_rfl) (fun _ _ _ h => h) (Or.inl ⟨rfl, fun w9 hSw => by cases q <;> (go_simp)⟩) hHeld ?_
      try simp only [Act.put, List.setIfInBounds_toArray, List.set_cons_zero, List.set_cons_succ]
      refine wpAnyH_done (by kernel_rfl) ?_ _
      refine NoPanic.normal ?_
      have B3 := B1.trans ((bw4.trans (hHeld.mono bw4.size)).mono B1.size)
      have HW2 := hide (bw4.trans (hHeld.mono bw4.size))
      rename_i W2 _
      clear hkk hvv hHeld bw4
      generalize (!q || (o && kk && vv)) = z at *
      cases z
      · have HI2 : Hid (∀ j, j < k + 1 → badA bs dk j = false) := fun j hj => by
          by_cases e : j = k
          · subst e; exact unhide HB
          · exact unhide HI j (by omega)
        go_wp2
        go_roundw
        case rel => exact ⟨k + 1, by omega, by first | rfl | go_num, HI2, HW2⟩
        case measure => simp [intOf]; omega
      · have HF2 : Hid (R = false) := by
          show _ = _
          rw [unhide HE]
          cases e : (List.range 6).all fun i => !badA bs dk i
          · rfl
          · rw [List.all_eq_true] at e
            have := e k (by simpa using hk6)
            rw [unhide HB] at this; cases this
        go_wp2
        go_ret
        exact ⟨by rw [unhide HF2]; rfl, B3⟩
end Go.Proofs.Ytkikeapfjpnkgaa.SpS

/-
  The specification's StoreRead, StoreAll and StoreDirty; they are what the program answers.
-/
namespace Go.Proofs.Ytkikeapfjpnkgaa.SpT
open Go.ChangeShapes Go.WideShapes Go.ChangeAt Go.RowKit Go.Shelf OkA Big Fl ImplB ImplF ImplS _root_.Go.Proofs.Ytkikeapfjpnkgaa.Own ImplT ImplU SpecA SpecB SpecC SpecD SpecW SpecF SpecG SpecH Ok2 Pl FindP ImplO SpecX SpecO ImplQ ImplW ImplL FindN FindL FindV FindQ Kp Gd StA MpA StB StC StD StE StF StG SpS
set_option linter.unusedVariables false
set_option linter.unusedSimpArgs false
attribute [local go_sem ↓] Go.wp_at_zero Go.wp_at_succ

/-! Plain lists. -/
theorem noRc_eq {r : Rc} (h : noRc r = true) : r = zRc := by
  cases r; simp [noRc] at h; obtain ⟨⟨⟨rfl, rfl⟩, rfl⟩, rfl⟩ := h; rfl
theorem ord_ok {bs : List Bk} (h : ordR bs = true) : okB bs = true := by
  have : ordR bs = (okB bs && ordB bs) := rfl
  rw [this, Bool.and_eq_true] at h; exact h.1
theorem mp_get {bs : List Bk} {a : Int} (h : okB bs = true) (h1 : 1 ≤ a) (h6 : a ≤ 6) : (mpF bs a).getD zRc = lastR bs a ∧ (mpF bs a).isSome = lastO bs a := by
  have hl := lst_no (lastR_ok bs a h)
  unfold mpF mpK
  cases hn : noRc (lastR bs a)
  · rw [if_pos ⟨h1, by omega, rfl⟩]
    refine ⟨rfl, ?_⟩
    rw [hn] at hl
    unfold lastO; rw [← hl]; rfl
  · rw [if_neg (fun q => by cases q.2.2)]
    refine ⟨(noRc_eq hn).symm, ?_⟩
    rw [hn] at hl
    unfold lastO; rw [← hl]; rfl
theorem clean_last {bs : List Bk} {a : Int} (h : (lastR bs a).k = 2) (hok : okB bs = true) : lastO bs a = true := by
  rcases lastR_ok bs a hok with e | ⟨e, _⟩
  · rw [e] at h; simp [zRc] at h
  · unfold lastO
    simp [recB, numB, inB] at e
    simp; omega
theorem dkB_iff (dk : List Int) : dkB dk = true ↔ dk.length = 6 ∧ ∀ i, i < 6 → inB (dk.getD i 0) 0 9 = true := by
  unfold dkB
  rw [Bool.and_eq_true, beq_iff_eq, List.all_eq_true]
  constructor
  · rintro ⟨h1, h2⟩
    refine ⟨h1, fun i hi => ?_⟩
    rw [List.getD_eq_getElem?_getD, List.getElem?_eq_getElem (by omega)]
    exact h2 _ (List.getElem_mem _)
  · rintro ⟨h1, h2⟩
    refine ⟨h1, fun v hv => ?_⟩
    obtain ⟨j, hj, rfl⟩ := List.getElem_of_mem hv
    have := h2 j (by omega)
    rwa [List.getD_eq_getElem?_getD, List.getElem?_eq_getElem hj] at this
theorem st_eq (bs : List Bk) (dk : List Int) : stI bs dk = stB bs dk := by
  rw [Bool.eq_iff_iff]
  unfold stI stB
  rw [Bool.and_eq_true, Bool.and_eq_true, Bool.and_eq_true, Bool.and_eq_true, dkB_iff, beq_iff_eq]
  constructor
  · rintro ⟨⟨ho, h6, hd⟩, hc⟩
    have hok := ord_ok ho
    refine ⟨⟨ho, h6⟩, ?_⟩
    rw [List.all_eq_true]
    intro i hi
    simp at hi
    unfold hcB at hc
    rw [List.all_eq_true] at hc
    obtain ⟨g1, g2⟩ := mp_get (a := (i : Int) + 1) hok (by omega) (by omega)
    unfold badA
    rw [hd i hi]
    by_cases hk : (lastR bs ((i : Int) + 1)).k = 2
    · have := hc ((i : Int) + 1) (whK_mem.2 ⟨by omega, by rw [g1]; unfold kindC; simpa using hk⟩)
      rw [g1] at this
      unfold dkV at this
      rw [show ((i : Int) + 1 - 1).toNat = i by omega, beq_iff_eq] at this
      rw [this]; simp
    · simp [hk]
  · rintro ⟨⟨ho, h6⟩, hb⟩
    have hok := ord_ok ho
    rw [List.all_eq_true] at hb
    refine ⟨⟨ho, h6, fun i hi => ?_⟩, ?_⟩
    · have := hb i (by simpa using hi)
      unfold badA at this
      simp at this
      exact this.1
    · unfold hcB
      rw [List.all_eq_true]
      intro a ha
      obtain ⟨⟨h1, h2⟩, hk⟩ := whK_mem.1 ha
      obtain ⟨g1, g2⟩ := mp_get (a := a) hok (by omega) (by omega)
      rw [g1] at hk ⊢
      have hk2 : (lastR bs a).k = 2 := by unfold kindC at hk; simpa using hk
      have := hb (a - 1).toNat (by simp; omega)
      unfold badA at this
      rw [show (((a - 1).toNat : Nat) : Int) + 1 = a by omega, clean_last hk2 hok, hk2] at this
      simp at this
      unfold dkV
      rw [this.2]; simp
theorem st_parts {bs : List Bk} {dk : List Int} (h : stB bs dk = true) : okB bs = true ∧ dk.length = 6 := by
  unfold stB at h
  rw [Bool.and_eq_true, Bool.and_eq_true, beq_iff_eq] at h
  exact ⟨ord_ok h.1.1, h.1.2⟩
theorem mpV_eq {bs : List Bk} {dk : List Int} {a : Int} (hok : okB bs = true) (h1 : 1 ≤ a) (h6 : a ≤ 6) : mpV (mpF bs) dk a = readI bs dk a := by
  obtain ⟨g1, g2⟩ := mp_get (a := a) hok h1 h6
  unfold mpV readI dkV
  rw [g1, g2]
/-- What StoreRead answers. -/
def rdS (bs : List Bk) (dk : List Int) (addr : Int) : Int := if stB bs dk && inB addr 1 6 then readI bs dk addr else -1
theorem rd_eq (bs : List Bk) (dk : List Int) (addr : Int) : rdI bs dk addr = rdS bs dk addr := by
  unfold rdI rdS
  rw [st_eq]
  cases h : stB bs dk && inB addr 1 6
  · rfl
  · rw [Bool.and_eq_true] at h
    have ha : 1 ≤ addr ∧ addr ≤ 6 := by simpa [inB] using h.2
    simp only [if_true]
    exact mpV_eq (st_parts h.1).1 ha.1 ha.2
/-- The values of the first k addresses. -/
def alK (bs : List Bk) (dk : List Int) (k : Nat) : List Int := (List.range k).map fun i => readI bs dk ((i : Nat) + 1 : Int)
theorem alK_succ (bs : List Bk) (dk : List Int) (k : Nat) : alK bs dk (k + 1) = alK bs dk k ++ [readI bs dk ((k : Int) + 1)] := by unfold alK; rw [List.range_succ, List.map_append]; rfl
theorem alK_len (bs : List Bk) (dk : List Int) (k : Nat) : (alK bs dk k).length = k := by simp [alK]
def alS (bs : List Bk) (dk : List Int) : List Int := if stB bs dk then alK bs dk 6 else []
theorem al_eq (bs : List Bk) (dk : List Int) : alI bs dk = alS bs dk := by
  unfold alI alS
  rw [st_eq]
  cases h : stB bs dk
  · rfl
  · simp only [if_true]
    unfold alK
    apply List.map_congr_left
    intro i hi
    simp at hi
    exact mpV_eq (st_parts h).1 (by omega) (by omega)
/-- Of the first k addresses the dirty ones. -/
def dyK (bs : List Bk) (k : Nat) : List Int := ((List.range k).map fun i => ((i : Nat) : Int) + 1).filter fun i => dirtyB bs i
theorem dyK_succ (bs : List Bk) (k : Nat) : dyK bs (k + 1) = dyK bs k ++ (if dirtyB bs ((k : Int) + 1) then [(k : Int) + 1] else []) := by
  unfold dyK
  rw [List.range_succ, List.map_append, List.filter_append]
  congr 1
  simp only [List.map_cons, List.map_nil, List.filter_cons, List.filter_nil]
theorem dyK_len (bs : List Bk) (k : Nat) : (dyK bs k).length ≤ k := by
  unfold dyK
  exact Nat.le_trans (List.length_filter_le _ _) (by simp)
def dyS (bs : List Bk) (dk : List Int) : List Int := if stB bs dk then dyK bs 6 else []
theorem dy_eq (bs : List Bk) (dk : List Int) : dyI bs dk = dyS bs dk := by
  unfold dyI dyS
  rw [st_eq]
  cases h : stB bs dk
  · rfl
  · simp only [if_true]
    unfold dyK whK
    apply List.filter_congr
    intro a ha
    rw [List.mem_map] at ha
    obtain ⟨i, hi, rfl⟩ := ha
    simp at hi
    obtain ⟨g1, g2⟩ := mp_get (bs := bs) (a := (i : Int) + 1) (st_parts h).1 (by omega) (by omega)
    rw [g1]
    unfold kindD dirtyB
    cases ho : lastO bs ((i : Int) + 1)
    · rcases lastR_ok bs ((i : Int) + 1) (st_parts h).1 with e | ⟨e, _⟩
      · rw [e]; rfl
      · unfold lastO at ho
        simp [recB, numB, inB] at e
        simp at ho; omega
    · simp

/-! The specification's walks. -/
theorem here : True := trivial
end Go.Proofs.Ytkikeapfjpnkgaa.SpT
