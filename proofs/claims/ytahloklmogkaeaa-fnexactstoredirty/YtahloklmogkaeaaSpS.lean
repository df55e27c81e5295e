/-
  The specification's StoreOk; it is what the program tells.
-/
import Derived.Test.YtahloklmogkaeaaStG
import Derived.Test.YtahloklmogkaeaaGd
namespace Go.Proofs.Ytahloklmogkaeaa.SpS
open Go.ChangeShapes Go.WideShapes Go.ChangeAt Go.RowKit Go.Shelf OkA Big Fl ImplB ImplF ImplS _root_.Go.Proofs.Ytahloklmogkaeaa.Own ImplT ImplU SpecA SpecB SpecC SpecD SpecW SpecF SpecG SpecH Ok2 Pl FindP ImplO SpecX SpecO ImplQ ImplW ImplL FindN FindL FindV FindQ Kp Gd StA MpA StB StC StD StE StF StG
set_option linter.unusedVariables false
set_option linter.unusedSimpArgs false
attribute [local go_sem ↓] Go.wp_at_zero Go.wp_at_succ
attribute [local go_sem] onlyIf_t onlyIf_f

/-- What is wrong with an address: its number on the slow disk, or that it is clean, and the slow disk has another value. -/
def badA (bs : List Bk) (dk : List Int) (i : Nat) : Bool := !inB (dk.getD i 0) 0 9 || (lastO bs ((i : Int) + 1) && (lastR bs ((i : Int) + 1)).k == 2 && (lastR bs ((i : Int) + 1)).v != dk.getD i 0)
/-- The store is ok. -/
def stB (bs : List Bk) (dk : List Int) : Bool := ordR bs && dk.length == 6 && (List.range 6).all fun i => !badA bs dk i

set_option maxRecDepth 100000 in
set_option maxHeartbeats 2000000 in
theorem specOk_st (fa : Option Addr) (fc : Nat) (bs : List Bk) (da : Option Addr) (dc : Nat) (dk : List Int) (w : World) (h : SAt w fa bs da dk) (hm : bs.length ≤ 1048576) (hp : ∀ b ∈ bs, b.ps.length ≤ 1048576) (hm2 : dk.length ≤ 1048576) :
    Calls Try.prog 25 #[.agg #[.slice fa bs.length fc, .slice da dk.length dc]] w fun e w' => e = .returned (.bool (stB bs dk)) ∧ Below w.heap.size w w' := by
  have B0 : Below w.heap.size w (w.alloc (.cells #[.slice fa bs.length fc, .slice da dk.length dc] 25)) := (Below.refl _ _).alloc (Nat.le_refl _) _
  have cS := store_box w (.slice fa bs.length fc) (.slice da dk.length dc)
  have s0 : w.heap.size < (w.alloc (.cells #[.slice fa bs.length fc, .slice da dk.length dc] 25)).heap.size := by simp
  have HA := hide (h.below B0)
  have HO := hide (specOrder_any fa fc bs _ (h.below B0).fs hm)
  have HLA := hide (fun (addr : Int) (w' : World) (h : FsAt w' fa bs) => SpecL.last_any fa fc bs addr w' h hm hp)
  have HR : Hid (stB bs dk = (ordR bs && dk.length == 6 && (List.range 6).all fun i => !badA bs dk i)) := rfl
  have hmi : (dk.length : Int) ≤ 1048576 := by omega
  have x0 := cS.cell 0 _ rfl
  clear h
  generalize stB bs dk = R at *
  generalize ordR bs = ob at *
  go_enter Try.func25, Try.ntmps25
  go_wp2_with fail
  generalize w.alloc (.cells #[.slice fa bs.length fc, .slice da dk.length dc] 25) = w0 at *
  refine (unhide HO).mono ?_
  rintro e w1 ⟨rfl, b1⟩
  have cS1 := cS.below b1 (by omega)
  have HA1 := hide ((unhide HA).below b1)
  have B1 := B0.trans (b1.mono B0.size)
  have s1 := Nat.lt_of_lt_of_le s0 b1.size
  have x1 := cS1.cell 1 _ rfl
  clear cS HA B0 b1 s0 x0
  cases ob
  · have HE : Hid (R = false) := by show _ = _; rw [unhide HR]; rfl
    go_wp2
    go_ret
    exact ⟨by rw [unhide HE]; rfl, B1⟩
  by_cases h6 : dk.length = 6
  rotate_left
  · have HE : Hid (R = false) := by show _ = _; rw [unhide HR]; simp [h6]
    have g6 : ((dk.length : Int) != 6) = true := by simp; omega
    go_wp2
    go_ret
    exact ⟨by rw [unhide HE]; rfl, B1⟩
  have g6 : ((dk.length : Int) != 6) = false := by simp; omega
  have HE : Hid (R = (List.range 6).all fun i => !badA bs dk i) := by show _ = _; rw [unhide HR, h6]; rfl
  obtain ⟨db, dof, rfl, hd⟩ : ∃ b o, da = some ⟨b, o, none⟩ ∧ w1.rangeAt b o (isC dk) := by
    rcases (unhide HA1).ds with rfl | h
    · simp at h6
    · exact h
  have HF := hide (unhide HA1).fs
  have HD := hide hd
  have hdl : db < w1.heap.size := cell_lt (isC_at hd 0 (by omega))
  clear hd HA1 HR
  rw [h6] at cS1 x1 ⊢
  go_wp2
  clear x1
  go_loopw [3] (fun i w' => ∃ k : Nat, k ≤ 6 ∧ i = .int .i64 k ∧ Hid (∀ j, j < k → badA bs dk j = false) ∧ Hid (Below w1.heap.size w1 w')) (fun i _ => 6 - (intOf i).toNat)
  case atStart => exact ⟨0, by omega, rfl, (fun j hj => by omega), Below.refl _ _⟩
  case round =>
    obtain ⟨k, hk, rfl, HI, HW⟩ := hrel
    have bw := unhide HW
    have B2 := B1.trans (bw.mono B1.size)
    by_cases h0 : k = 6
    · subst h0
      have HT : Hid (R = true) := by
        show _ = _
        rw [unhide HE, List.all_eq_true]
        intro j hj
        rw [unhide HI j (by simpa using hj)]; rfl
      clear bw
      go_wp2
      go_ret
      exact ⟨by rw [unhide HT]; rfl, B2⟩
    · have hk6 : k < 6 := by omega
      have hlt : (k : Int) < 6 := by omega
      have hlo : (0 : Int) ≤ (k : Int) := by omega
      have cS2 := cS1.below bw s1
      have y0 := cS2.cell 0 _ rfl
      have hl := unhide HLA ((k : Int) + 1) wr ((unhide HF).below bw)
      have HL := hide hl
      have HB : Hid (badA bs dk k = (!inB (dk.getD k 0) 0 9 || (lastO bs ((k : Int) + 1) && (lastR bs ((k : Int) + 1)).k == 2 && (lastR bs ((k : Int) + 1)).v != dk.getD k 0))) := rfl
      have dn := isC_at (rangeAt_below (unhide HD) bw hdl) k (by omega)
      have s2 := Nat.lt_of_lt_of_le s1 bw.size
      have hd2 := Nat.lt_of_lt_of_le hdl bw.size
      have HW6 := hide (fun (w' : World) => l6In_any (dk.getD k 0) 0 9 w')
      clear hl HW
      go_wp2_with fail
      refine (unhide HL).mono ?_
      rintro e w3 ⟨rfl, b3⟩
      have cS3 := cS2.below b3 s2
      rw [← b3.cell (p := ⟨db, dof + k, none⟩) hd2] at dn
      have bw3 := bw.trans (b3.mono bw.size)
      have q3 := b3.size
      clear HL b3 cS2 y0 bw
      generalize lastO bs ((k : Int) + 1) = o at *
      generalize lastR bs ((k : Int) + 1) = r at *
      have bA : Below w3.heap.size w3 (w3.alloc (.cells (rcC r).toArray 53)) := (Below.refl _ _).alloc (Nat.le_refl _) _
      have cX := CsAt.new w3 (rcC r) 53
      have cS4 := cS3.below bA (by omega)
      rw [← bA.cell (p := ⟨db, dof + k, none⟩) (by show db < _; omega)] at dn
      have bw4 := bw3.trans (bA.mono bw3.size)
      have s4 : w3.heap.size < (w3.alloc (.cells (rcC r).toArray 53)).heap.size := by simp
      rw [show (rcC r).toArray = #[.int .i64 r.k, .int .i64 r.s, .int .i64 r.a, .int .i64 r.v] from rfl] at *
      go_wp2
      generalize hW : w3.alloc (.cells #[.int .i64 r.k, .int .i64 r.s, .int .i64 r.a, .int .i64 r.v] 53) = W at *
      generalize w3.heap.size = Rb at *
      have hdb : db < W.heap.size := by omega
      have hsb : w.heap.size < W.heap.size := by omega
      have HC : Hid (∀ w', Below W.heap.size W w' → w'.cell? ⟨w.heap.size, 1, none⟩ = some (.slice (some ⟨db, dof, none⟩) 6 dc) ∧ w'.cell? ⟨db, dof + k, none⟩ = some (.int .i64 (dk.getD k 0)) ∧ w'.cell? ⟨Rb, 0, none⟩ = some (.int .i64 r.k) ∧ w'.cell? ⟨Rb, 3, none⟩ = some (.int .i64 r.v)) := fun w' hb =>
        ⟨by rw [hb.cell (p := ⟨w.heap.size, 1, none⟩) hsb]; exact cS4.cell 1 _ rfl, by rw [hb.cell (p := ⟨db, dof + k, none⟩) hdb]; exact dn, by rw [hb.cell (p := ⟨Rb, 0, none⟩) s4]; exact cX.cell 0 _ rfl, by rw [hb.cell (p := ⟨Rb, 3, none⟩) s4]; exact cX.cell 3 _ rfl⟩
      clear hW bA cX cS3 cS4 dn bw3
      generalize dk.getD k 0 = d at *
      generalize hkk : (r.k == 2) = kk at *
      generalize hvv : (r.v != d) = vv at *
      generalize hin : inB d 0 9 = q at *
      clear hin
      refine wp_region_noPanic ?_
      refine wp_region_held_drew (S := fun w' => Below W.heap.size W w') (by kernel_rfl) ((Below.refl _ _).drew) (fun hHeld => ?_)
      refine takeL 0 (.pointer (some ⟨w.heap.size, 1, none⟩)) rfl (by kernel_rfl) (by kernel_rfl) (by kernel_rfl) (fun _ _ _ h => h) (Or.inl ⟨rfl, fun w9 hSw => by go_simp⟩) hHeld ?_
      try simp only [Act.put, List.setIfInBounds_toArray, List.set_cons_zero, List.set_cons_succ]
      refine takeL 1 (.slice (some ⟨db, dof, none⟩) 6 dc) rfl (by kernel_rfl) (by kernel_rfl) (by kernel_rfl) (fun _ _ _ h => h) (Or.inl ⟨rfl, fun w9 hSw => by have hc := unhide HC _ hSw; have hc1 := hc.1; have hc2 := hc.2.1; have hc3 := hc.2.2.1; have hc4 := hc.2.2.2; clear hc; go_simp⟩) hHeld ?_
      try simp only [Act.put, List.setIfInBounds_toArray, List.set_cons_zero, List.set_cons_succ]
      refine takeL 2 (.int .i64 (k : Nat)) rfl (by kernel_rfl) (by kernel_rfl) (by kernel_rfl) (fun _ _ _ h => h) (Or.inl ⟨rfl, fun _ _ => rfl⟩) hHeld ?_
      try simp only [Act.put, List.setIfInBounds_toArray, List.set_cons_zero, List.set_cons_succ]
      refine takeL 3 (.pointer (some ⟨db, dof + k, none⟩)) rfl (by kernel_rfl) (by kernel_rfl) (by kernel_rfl) (fun _ _ _ h => h) (Or.inl ⟨rfl, fun w9 hSw => by go_simp⟩) hHeld ?_
      try simp only [Act.put, List.setIfInBounds_toArray, List.set_cons_zero, List.set_cons_succ]
      refine takeL 4 (.int .i64 d) rfl (by kernel_rfl) (by kernel_rfl) (by kernel_rfl) (fun _ _ _ h => h) (Or.inl ⟨rfl, fun w9 hSw => by have hc := unhide HC _ hSw; have hc1 := hc.1; have hc2 := hc.2.1; have hc3 := hc.2.2.1; have hc4 := hc.2.2.2; clear hc; go_simp⟩) hHeld ?_
      try simp only [Act.put, List.setIfInBounds_toArray, List.set_cons_zero, List.set_cons_succ]
      refine oneL 5 rfl (by kernel_rfl) rfl (fun K hK => ?_)
      go_simp
      refine (unhide HW6 _).mono ?_
      rintro e w9 ⟨rfl, hw9⟩
      obtain rfl := hw9.symm
      go_wp2_with fail
      refine hK.out _ _ hHeld (fun hHeld => ?_)
      clear hK K
      try simp only [Act.put, List.setIfInBounds_toArray, List.set_cons_zero, List.set_cons_succ]
      refine takeL 6 (.bool (!q)) rfl (by kernel_rfl) (by kernel_rfl) (by kernel_rfl) (fun _ _ _ h => h) (Or.inl ⟨rfl, fun w9 hSw => by go_simp⟩) hHeld ?_
      try simp only [Act.put, List.setIfInBounds_toArray, List.set_cons_zero, List.set_cons_succ]
      refine takeL 7 (.bool (!q)) rfl (by kernel_rfl) (by kernel_rfl) (by kernel_rfl) (fun _ _ _ h => h) (Or.inl ⟨rfl, fun _ _ => rfl⟩) hHeld ?_
      try simp only [Act.put, List.setIfInBounds_toArray, List.set_cons_zero, List.set_cons_succ]
      refine takeG 8 (q) (.bool o) rfl (by kernel_rfl) (by kernel_rfl) (by kernel_rfl) (fun _ _ _ h => h) (by cases q <;> rfl) (fun hb w9 hSw => by cases q <;> first | (cases hb; done) | (go_simp)) hHeld ?_
      try simp only [Act.put, List.setIfInBounds_toArray, List.set_cons_zero, List.set_cons_succ]
      refine takeG 9 (q) (.bool o) rfl (by kernel_rfl) (by kernel_rfl) (by kernel_rfl) (fun _ _ _ h => h) (by cases q <;> rfl) (fun hb w9 hSw => by cases q <;> first | (cases hb; done) | (go_simp)) hHeld ?_
      try simp only [Act.put, List.setIfInBounds_toArray, List.set_cons_zero, List.set_cons_succ]
      refine takeG 10 (q && o) (.pointer (some ⟨Rb, 0, none⟩)) rfl (by kernel_rfl) (by kernel_rfl) (by kernel_rfl) (fun _ _ _ h => h) (by cases q <;> cases o <;> rfl) (fun hb w9 hSw => by cases q <;> cases o <;> first | (cases hb; done) | (go_simp)) hHeld ?_
      try simp only [Act.put, List.setIfInBounds_toArray, List.set_cons_zero, List.set_cons_succ]
      refine takeG 11 (q && o) (.int .i64 r.k) rfl (by kernel_rfl) (by kernel_rfl) (by kernel_rfl) (fun _ _ _ h => h) (by cases q <;> cases o <;> rfl) (fun hb w9 hSw => by cases q <;> cases o <;> first | (cases hb; done) | (have hc := unhide HC _ hSw; have hc1 := hc.1; have hc2 := hc.2.1; have hc3 := hc.2.2.1; have hc4 := hc.2.2.2; clear hc; go_simp)) hHeld ?_
      try simp only [Act.put, List.setIfInBounds_toArray, List.set_cons_zero, List.set_cons_succ]
      refine takeG 12 (q && o) (.bool kk) rfl (by kernel_rfl) (by kernel_rfl) (by kernel_rfl) (fun _ _ _ h => h) (by cases q <;> cases o <;> rfl) (fun hb w9 hSw => by cases q <;> cases o <;> first | (cases hb; done) | (go_simp)) hHeld ?_
      try simp only [Act.put, List.setIfInBounds_toArray, List.set_cons_zero, List.set_cons_succ]
      refine takeG 13 (q) (.bool (o && kk)) rfl (by kernel_rfl) (by kernel_rfl) (by kernel_rfl) (fun _ _ _ h => h) (by cases q <;> cases o <;> rfl) (fun hb w9 hSw => by cases q <;> cases o <;> first | (cases hb; done) | (go_simp)) hHeld ?_
      try simp only [Act.put, List.setIfInBounds_toArray, List.set_cons_zero, List.set_cons_succ]
      refine takeG 14 (q) (.bool (o && kk)) rfl (by kernel_rfl) (by kernel_rfl) (by kernel_rfl) (fun _ _ _ h => h) (by cases q <;> rfl) (fun hb w9 hSw => by cases q <;> first | (cases hb; done) | (go_simp)) hHeld ?_
      try simp only [Act.put, List.setIfInBounds_toArray, List.set_cons_zero, List.set_cons_succ]
      refine takeG 15 (q && (o && kk)) (.pointer (some ⟨Rb, 3, none⟩)) rfl (by kernel_rfl) (by kernel_rfl) (by kernel_rfl) (fun _ _ _ h => h) (by cases q <;> cases o <;> cases kk <;> rfl) (fun hb w9 hSw => by cases q <;> cases o <;> cases kk <;> first | (cases hb; done) | (go_simp)) hHeld ?_
      try simp only [Act.put, List.setIfInBounds_toArray, List.set_cons_zero, List.set_cons_succ]
      refine takeG 16 (q && (o && kk)) (.int .i64 r.v) rfl (by kernel_rfl) (by kernel_rfl) (by kernel_rfl) (fun _ _ _ h => h) (by cases q <;> cases o <;> cases kk <;> rfl) (fun hb w9 hSw => by cases q <;> cases o <;> cases kk <;> first | (cases hb; done) | (have hc := unhide HC _ hSw; have hc1 := hc.1; have hc2 := hc.2.1; have hc3 := hc.2.2.1; have hc4 := hc.2.2.2; clear hc; go_simp)) hHeld ?_
      try simp only [Act.put, List.setIfInBounds_toArray, List.set_cons_zero, List.set_cons_succ]
      refine takeG 17 (q && (o && kk)) (.pointer (some ⟨w.heap.size, 1, none⟩)) rfl (by kernel_rfl) (by kernel_rfl) (by kernel_rfl) (fun _ _ _ h => h) (by cases q <;> cases o <;> cases kk <;> rfl) (fun hb w9 hSw => by cases q <;> cases o <;> cases kk <;> first | (cases hb; done) | (go_simp)) hHeld ?_
      try simp only [Act.put, List.setIfInBounds_toArray, List.set_cons_zero, List.set_cons_succ]
      refine takeG 18 (q && (o && kk)) (.slice (some ⟨db, dof, none⟩) 6 dc) rfl (by kernel_rfl) (by kernel_rfl) (by kernel_rfl) (fun _ _ _ h => h) (by cases q <;> cases o <;> cases kk <;> rfl) (fun hb w9 hSw => by cases q <;> cases o <;> cases kk <;> first | (cases hb; done) | (have hc := unhide HC _ hSw; have hc1 := hc.1; have hc2 := hc.2.1; have hc3 := hc.2.2.1; have hc4 := hc.2.2.2; clear hc; go_simp)) hHeld ?_
      try simp only [Act.put, List.setIfInBounds_toArray, List.set_cons_zero, List.set_cons_succ]
      refine takeG 19 (q && (o && kk)) (.int .i64 (k : Nat)) rfl (by kernel_rfl) (by kernel_rfl) (by kernel_rfl) (fun _ _ _ h => h) (by cases q <;> cases o <;> cases kk <;> rfl) (fun hb w9 hSw => by cases q <;> cases o <;> cases kk <;> first | (cases hb; done) | (go_simp)) hHeld ?_
      try simp only [Act.put, List.setIfInBounds_toArray, List.set_cons_zero, List.set_cons_succ]
      refine takeG 20 (q && (o && kk)) (.pointer (some ⟨db, dof + k, none⟩)) rfl (by kernel_rfl) (by kernel_rfl) (by kernel_rfl) (fun _ _ _ h => h) (by cases q <;> cases o <;> cases kk <;> rfl) (fun hb w9 hSw => by cases q <;> cases o <;> cases kk <;> first | (cases hb; done) | (go_simp)) hHeld ?_
      try simp only [Act.put, List.setIfInBounds_toArray, List.set_cons_zero, List.set_cons_succ]
      refine takeG 21 (q && (o && kk)) (.int .i64 d) rfl (by kernel_rfl) (by kernel_rfl) (by kernel_rfl) (fun _ _ _ h => h) (by cases q <;> cases o <;> cases kk <;> rfl) (fun hb w9 hSw => by cases q <;> cases o <;> cases kk <;> first | (cases hb; done) | (have hc := unhide HC _ hSw; have hc1 := hc.1; have hc2 := hc.2.1; have hc3 := hc.2.2.1; have hc4 := hc.2.2.2; clear hc; go_simp)) hHeld ?_
      try simp only [Act.put, List.setIfInBounds_toArray, List.set_cons_zero, List.set_cons_succ]
      refine takeG 22 (q && (o && kk)) (.bool vv) rfl (by kernel_rfl) (by kernel_rfl) (by kernel_rfl) (fun _ _ _ h => h) (by cases q <;> cases o <;> cases kk <;> rfl) (fun hb w9 hSw => by cases q <;> cases o <;> cases kk <;> first | (cases hb; done) | (go_simp)) hHeld ?_
      try simp only [Act.put, List.setIfInBounds_toArray, List.set_cons_zero, List.set_cons_succ]
      refine takeG 23 (q) (.bool (o && kk && vv)) rfl (by kernel_rfl) (by kernel_rfl) (by kernel_rfl) (fun _ _ _ h => h) (by cases q <;> cases o <;> cases kk <;> rfl) (fun hb w9 hSw => by cases q <;> cases o <;> cases kk <;> first | (cases hb; done) | (go_simp)) hHeld ?_
      try simp only [Act.put, List.setIfInBounds_toArray, List.set_cons_zero, List.set_cons_succ]
      refine takeL 24 (.bool (!q || (o && kk && vv))) rfl (by kernel_rfl) (by kernel_rfl) (by kernel_rfl) (fun _ _ _ h => h) (Or.inl ⟨rfl, fun w9 hSw => by cases q <;> (go_simp)⟩) hHeld ?_
      try simp only [Act.put, List.setIfInBounds_toArray, List.set_cons_zero, List.set_cons_succ]
      refine wpAnyH_done (by kernel_rfl) ?_ _
      refine NoPanic.normal ?_
      have B3 := B1.trans ((bw4.trans (hHeld.mono bw4.size)).mono B1.size)
      have HW2 := hide (bw4.trans (hHeld.mono bw4.size))
      rename_i W2 _
      clear hkk hvv hHeld bw4
      generalize (!q || (o && kk && vv)) = z at *
      cases z
      · have HI2 : Hid (∀ j, j < k + 1 → badA bs dk j = false) := fun j hj => by
          by_cases e : j = k
          · subst e; exact unhide HB
          · exact unhide HI j (by omega)
        go_wp2
        go_roundw
        case rel => exact ⟨k + 1, by omega, by first | rfl | go_num, HI2, HW2⟩
        case measure => simp [intOf]; omega
      · have HF2 : Hid (R = false) := by
          show _ = _
          rw [unhide HE]
          cases e : (List.range 6).all fun i => !badA bs dk i
          · rfl
          · rw [List.all_eq_true] at e
            have := e k (by simpa using hk6)
            rw [unhide HB] at this; cases this
        go_wp2
        go_ret
        exact ⟨by rw [unhide HF2]; rfl, B3⟩
end Go.Proofs.Ytahloklmogkaeaa.SpS
