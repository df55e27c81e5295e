/-
  Texts that belong together, one behind the other: FlA, DoA, ToA.
-/
import Derived.Test.YtkikeapfjpnkgaaDrwA
import Derived.Deep.Cut

/-
  The specification's steps by which the slow disk is told a value, and by which a value is filled.
-/
namespace Go.Proofs.Ytkikeapfjpnkgaa.FlA
open Go.ChangeShapes Go.WideShapes Go.ChangeAt Go.RowKit Go.Shelf OkA Big Fl ImplB ImplF ImplS _root_.Go.Proofs.Ytkikeapfjpnkgaa.Own ImplT ImplU SpecA SpecB SpecC SpecD SpecW SpecF SpecG SpecH Ok2 Pl FindP SpecX ImplL FindN FindL FindV Kp StA RmA WrA
set_option linter.unusedVariables false
set_option linter.unusedSimpArgs false
attribute [local go_sem ↓] Go.wp_at_zero Go.wp_at_succ

theorem stsForm {w : World} {lo : Nat} {v : Value} {l : List Stp} (h : Sts w lo v l) : ∃ a cap, v = .slice a l.length cap ∧ (l = [] ∨ ∃ g, a = some ⟨g, 0, none⟩ ∧ lo ≤ g ∧ g < w.heap.size ∧ w.rangeAt g 0 (stsC l)) := by
  obtain ⟨h1, h2⟩ := h.row
  rcases h2 with ⟨e, hn⟩ | ⟨g, cap, cur, e, hb, hh, r⟩
  · exact ⟨none, 0, by rw [e, hn], .inl (List.eq_nil_of_length_eq_zero hn)⟩
  · refine ⟨_, cap, e, ?_⟩
    cases l with
    | nil => exact .inl rfl
    | cons x r' =>
      subst e
      have hl := h.lt g rfl
      exact .inr ⟨g, rfl, hl.1, hl.2, (row_pages (by simp) h.row).1⟩
theorem writeP_len (bs : List Bk) (hF : Fours bs) (h4 : bs.length = 4) (k a v : Int) : (writeP bs k a v).length ≤ 6 := by
  unfold writeP
  split
  · have := roomL_len bs hF h4
    rw [List.length_append]; simp; omega
  · simp

set_option maxRecDepth 100000 in
set_option maxHeartbeats 2000000 in
theorem flush_steps (fb fo cap db dof dcap : Nat) (dk : List Int) (h6 : dk.length = 6) (addr : Int) (bs : List Bk) (w : World) (hok : okB bs = true) (hf : ∀ i (hi : i < bs.length), BkAt w fb (fo + i * 2) bs[i]) (hd : w.rangeAt db dof (isC dk)) :
    Calls Try.prog 120 #[.agg #[.slice (some ⟨fb, fo, none⟩) 4 cap, .slice (some ⟨db, dof, none⟩) 6 dcap], .int .i64 addr] w fun e w' => StpPost w (flushP bs dk addr) e w' := by
  have h4 := ok_len hok
  have hF := ok_fours hok
  have hfs : FsAt w (some ⟨fb, fo, none⟩) bs := .inr ⟨fb, fo, rfl, hf⟩
  have hdl : db < w.heap.size := cell_lt (isC_at hd 0 (by omega))
  have HDI : Hid (∀ w', Below w.heap.size w w' → Calls Try.prog 123 #[.agg #[.slice (some ⟨fb, fo, none⟩) 4 cap, .slice (some ⟨db, dof, none⟩) 6 dcap], .int .i64 addr] w' fun e w'' => e = .returned (.bool (dirtyB bs addr)) ∧ Below w'.heap.size w' w'') := fun w' hb => by
    have := dirty_any (some ⟨fb, fo, none⟩) cap (.slice (some ⟨db, dof, none⟩) 6 dcap) addr bs w' (hfs.below hb) (by omega) (fun b hb => by rw [hF b hb]; omega)
    rw [h4] at this; exact this
  have HRD : Hid (1 ≤ addr → addr ≤ 6 → ∀ w', Below w.heap.size w w' → Calls Try.prog 124 #[.agg #[.slice (some ⟨fb, fo, none⟩) 4 cap, .slice (some ⟨db, dof, none⟩) 6 dcap], .int .i64 addr] w' fun e w'' => e = .returned (.int .i64 (readI bs dk addr)) ∧ Below w'.heap.size w' w'') := fun a1 a2 w' hb => by
    have := read_any (some ⟨fb, fo, none⟩) cap db dof dcap dk h6 addr a1 a2 bs w' (hfs.below hb) (rangeAt_below hd hb hdl) (by omega) (fun b hb => by rw [hF b hb]; omega)
    rw [h4] at this; exact this
  have HWR := hide (fun (v : Int) (w' : World) (hb : Below w.heap.size w w') => write_steps fb fo cap (.slice (some ⟨db, dof, none⟩) 6 dcap) 2 addr v bs w' hok (fun i hi => (hf i hi).below hb))
  have HFP : Hid (flushP bs dk addr = if inB addr 1 6 && dirtyB bs addr then (if (writeP bs 2 addr (readI bs dk addr)).isEmpty then [] else diskS addr (readI bs dk addr) :: writeP bs 2 addr (readI bs dk addr)) else []) := rfl
  have HWL := hide (writeP_len bs hF h4 2 addr (readI bs dk addr))
  have HIN := hide (fun (w' : World) => l6In_any addr 1 6 w')
  have B0 : Below w.heap.size w (w.alloc (.cells #[.slice (some ⟨fb, fo, none⟩) 4 cap, .slice (some ⟨db, dof, none⟩) 6 dcap] 54)) := (Below.refl _ _).alloc (Nat.le_refl _) _
  have cS := store_box w (.slice (some ⟨fb, fo, none⟩) 4 cap) (.slice (some ⟨db, dof, none⟩) 6 dcap)
  have hs0 : w.heap.size + 1 = (w.alloc (.cells #[.slice (some ⟨fb, fo, none⟩) 4 cap, .slice (some ⟨db, dof, none⟩) 6 dcap] 54)).heap.size := by simp
  clear hf hfs hd hok
  generalize readI bs dk addr = rv at *
  go_enter Try.func120, Try.ntmps120
  cases hin : inB addr 1 6
  · have HE : Hid (flushP bs dk addr = []) := by show _ = _; rw [unhide HFP, hin]; rfl
    rw [hin] at HIN
    have nl := Sts.nil (w.alloc (.cells #[.slice (some ⟨fb, fo, none⟩) 4 cap, .slice (some ⟨db, dof, none⟩) 6 dcap] 54)) w.heap.size (by omega)
    rw [World.size_alloc] at nl
    have nB := B0.alloc B0.size (.cells #[] 60)
    clear hs0
    go_wp2_with fail
    refine (unhide HIN _).mono ?_
    rintro e w2 ⟨rfl, hw2⟩
    obtain rfl := hw2.symm
    go_wp2
    go_ret
    exact ⟨_, rfl, by rw [unhide HE]; exact nl, nB⟩
  · have HIR : 1 ≤ addr ∧ addr ≤ 6 := by simpa [inB] using hin
    have HRD2 := hide (unhide HRD HIR.1 HIR.2)
    have HIRh := hide HIR
    clear HRD HIR
    rw [hin] at HIN HFP
    rw [Bool.true_and] at HFP
    clear hin
    have x0 := cS.cell 0 _ rfl
    have x1 := cS.cell 1 _ rfl
    go_wp2_with fail
    refine (unhide HIN _).mono ?_
    rintro e w2 ⟨rfl, hw2⟩
    obtain rfl := hw2.symm
    go_wp2_with fail
    generalize w.alloc (.cells #[.slice (some ⟨fb, fo, none⟩) 4 cap, .slice (some ⟨db, dof, none⟩) 6 dcap] 54) = w1 at *
    refine (unhide HDI _ B0).mono ?_
    rintro e w2 ⟨rfl, b2⟩
    have B2 := B0.trans (b2.mono B0.size)
    have cS2 := cS.below b2 (by omega)
    have s2 : w.heap.size + 1 ≤ w2.heap.size := by have := b2.size; omega
    clear x0 x1 B0 b2 cS HDI
    have x0 := cS2.cell 0 _ rfl
    have x1 := cS2.cell 1 _ rfl
    generalize dirtyB bs addr = di at *
    cases di
    · have HE : Hid (flushP bs dk addr = []) := HFP
      have nl := Sts.nil w2 w.heap.size (by omega)
      have nB := B2.alloc B2.size (.cells #[] 60)
      go_wp2
      go_ret
      exact ⟨_, rfl, by rw [unhide HE]; exact nl, nB⟩
    · go_wp2_with fail
      refine (unhide HRD2 _ B2).mono ?_
      rintro e w3 ⟨rfl, b3⟩
      have B3 := B2.trans (b3.mono B2.size)
      have cS3 := cS2.below b3 (by omega)
      have s3 : w.heap.size + 1 ≤ w3.heap.size := by have := b3.size; omega
      clear x0 x1 B2 b3 cS2 HRD2
      have x0 := cS3.cell 0 _ rfl
      have x1 := cS3.cell 1 _ rfl
      go_wp2_with fail
      refine (unhide HWR rv _ B3).mono ?_
      rintro e w4 ⟨v, rfl, hS, b4⟩
      have B4 := B3.trans (b4.mono B3.size)
      have hS4 := hS.mono (show w.heap.size ≤ w3.heap.size by omega)
      clear x0 x1 B3 b4 cS3 hS HWR
      obtain ⟨va, vc, rfl, hform⟩ := stsForm hS4
      generalize writeP bs 2 addr rv = L at *
      by_cases hl0 : L.length = 0
      · have hL : L = [] := List.eq_nil_of_length_eq_zero hl0
        subst hL
        have HE : Hid (flushP bs dk addr = []) := HFP
        go_wp2
        go_ret
        exact ⟨_, rfl, by rw [unhide HE]; exact hS4, B4⟩
      · obtain ⟨g, rfl, hg1, hg2, hgr⟩ : ∃ g, va = some ⟨g, 0, none⟩ ∧ w.heap.size ≤ g ∧ g < w4.heap.size ∧ w4.rangeAt g 0 (stsC L) := by
          rcases hform with h | h
          · rw [h] at hl0; simp at hl0
          · exact h
        have HE : Hid (flushP bs dk addr = [diskS addr rv] ++ L) := by
          show _ = _
          have e1 : L.isEmpty = false := by cases L with
            | nil => simp at hl0
            | cons => rfl
          have := unhide HFP
          rw [e1] at this
          exact this
        have g0 : ((L.length : Int) == 0) = false := beq_eq_false_iff_ne.2 (by omega)
        have hlL := unhide HWL
        clear hform hl0
        have hB6 := B4.alloc B4.size (.cells (stC (diskS addr rv)).toArray 60)
        have hR6 : (w4.alloc (.cells (stC (diskS addr rv)).toArray 60)).ownsRow w4.heap.size 60 8 (.slice (some ⟨w4.heap.size, 0, none⟩) 1 1) 1 (stC (diskS addr rv)) := World.ownsRow_lit w4 (stC (diskS addr rv)).toArray 1 (Nat.le_refl _) (by simp [maxLen]) rfl
        have hgr6 := rangeAt_below hgr ((Below.refl w4.heap.size w4).alloc (Nat.le_refl _) (.cells (stC (diskS addr rv)).toArray 60)) hg2
        have hnw := src_mid hgr6
        have hlo : w4.heap.size ≤ (w4.alloc (.cells (stC (diskS addr rv)).toArray 60)).heap.size := by simp
        have hlen : (stsC L).length = L.length * 8 := len_stsC L
        have hone : ∀ u ∈ stsC L, u.oneCell' = true := by
          intro u hu
          simp only [stsC, List.mem_flatMap] at hu
          obtain ⟨y, _, hy⟩ := hu
          exact one_stC y u hy
        obtain ⟨iS, hiS, hzS, hsS, hbS⟩ := infoS
        have h4z := B4.size
        rw [show (stC (diskS addr rv)).toArray = #[.int .i64 1, .int .i64 addr, .int .i64 rv, .int .i64 0, .int .i64 0, .int .i64 0, .int .i64 0, .int .i64 0] from rfl] at *
        go_wp2_with (refine wpList_append_own _ rfl _ _ 57 rfl w4.heap.size 60 iS (.agg (stC zSt).toArray) 8 64 Try.underlying57 hiS hzS hsS hbS rfl (by omega) _ 1 (stC (diskS addr rv)) rfl hR6 ⟨g, 0, none⟩ L.length vc (stsC L) rfl hlen hnw hone (by simp [maxLen]; omega) (by omega) hlo ?_; intro v' w7 ho7 hg7 _)
        have P7 : Sts w7 w4.heap.size v' ([diskS addr rv] ++ L) ∧ Below w4.heap.size (w4.alloc (.cells #[.int .i64 1, .int .i64 addr, .int .i64 rv, .int .i64 0, .int .i64 0, .int .i64 0, .int .i64 0, .int .i64 0] 60)) w7 := by
          refine ⟨⟨?_, fun q e => ?_⟩, (Below.refl _ _).grown hg7 hlo (fun k e => by cases e; exact Nat.le_refl _)⟩
          · have e1 : stsC ([diskS addr rv] ++ L) = stC (diskS addr rv) ++ stsC L := by simp [stsC]
            rw [e1, List.length_append]; exact ho7
          · obtain ⟨_, h2⟩ := ho7
            rcases h2 with ⟨_, h2⟩ | ⟨g', cap', cur, rfl, hb, hh, _⟩
            · omega
            · simp [Value.ownBlock] at e
              subst e
              refine ⟨hb, ?_⟩
              by_cases hlt : g' < w7.heap.size
              · exact hlt
              · have : w7.heap[g']? = none := by simp; omega
                rw [this] at hh; cases hh
        go_ret
        exact ⟨_, rfl, by rw [unhide HE]; exact P7.1.mono h4z, hB6.trans (P7.2.mono h4z)⟩

set_option maxRecDepth 100000 in
set_option maxHeartbeats 2000000 in
theorem fill_steps (fb fo cap db dof dcap : Nat) (dk : List Int) (h6 : dk.length = 6) (addr : Int) (bs : List Bk) (w : World) (hok : okB bs = true) (hf : ∀ i (hi : i < bs.length), BkAt w fb (fo + i * 2) bs[i]) (hd : w.rangeAt db dof (isC dk)) :
    Calls Try.prog 122 #[.agg #[.slice (some ⟨fb, fo, none⟩) 4 cap, .slice (some ⟨db, dof, none⟩) 6 dcap], .int .i64 addr] w fun e w' => StpPost w (fillP bs dk addr) e w' := by
  have h4 := ok_len hok
  have hF := ok_fours hok
  have hfs : FsAt w (some ⟨fb, fo, none⟩) bs := .inr ⟨fb, fo, rfl, hf⟩
  have hdl : db < w.heap.size := cell_lt (isC_at hd 0 (by omega))
  have HLA : Hid (∀ w', Below w.heap.size w w' → Calls Try.prog 84 #[.slice (some ⟨fb, fo, none⟩) 4 cap, .int .i64 addr] w' fun e w'' => SpecL.LastPost w' bs addr e w'') := fun w' hb => by
    have := SpecL.last_any (some ⟨fb, fo, none⟩) cap bs addr w' (hfs.below hb) (by omega) (fun b hb => by rw [hF b hb]; omega)
    rw [h4] at this; exact this
  have HWR := hide (fun (v : Int) (w' : World) (hb : Below w.heap.size w w') => write_steps fb fo cap (.slice (some ⟨db, dof, none⟩) 6 dcap) 2 addr v bs w' hok (fun i hi => (hf i hi).below hb))
  have HFP : Hid (fillP bs dk addr = if inB addr 1 6 && !lastO bs addr then writeP bs 2 addr (dk.getD (addr - 1).toNat 0) else []) := rfl
  have HIN := hide (fun (w' : World) => l6In_any addr 1 6 w')
  have B0 : Below w.heap.size w (w.alloc (.cells #[.slice (some ⟨fb, fo, none⟩) 4 cap, .slice (some ⟨db, dof, none⟩) 6 dcap] 54)) := (Below.refl _ _).alloc (Nat.le_refl _) _
  have cS := store_box w (.slice (some ⟨fb, fo, none⟩) 4 cap) (.slice (some ⟨db, dof, none⟩) 6 dcap)
  have hs0 : w.heap.size + 1 = (w.alloc (.cells #[.slice (some ⟨fb, fo, none⟩) 4 cap, .slice (some ⟨db, dof, none⟩) 6 dcap] 54)).heap.size := by simp
  have HD := hide hd
  clear hf hfs hd hok
  go_enter Try.func122, Try.ntmps122
  cases hin : inB addr 1 6
  · have HE : Hid (fillP bs dk addr = []) := by show _ = _; rw [unhide HFP, hin]; rfl
    rw [hin] at HIN
    have nl := Sts.nil (w.alloc (.cells #[.slice (some ⟨fb, fo, none⟩) 4 cap, .slice (some ⟨db, dof, none⟩) 6 dcap] 54)) w.heap.size (by omega)
    rw [World.size_alloc] at nl
    have nB := B0.alloc B0.size (.cells #[] 60)
    clear hs0
    go_wp2_with fail
    refine (unhide HIN _).mono ?_
    rintro e w2 ⟨rfl, hw2⟩
    obtain rfl := hw2.symm
    go_wp2
    go_ret
    exact ⟨_, rfl, by rw [unhide HE]; exact nl, nB⟩
  · have HIR : 1 ≤ addr ∧ addr ≤ 6 := by simpa [inB] using hin
    rw [hin] at HIN HFP
    rw [Bool.true_and] at HFP
    clear hin
    obtain ⟨n, rfl⟩ : ∃ n : Nat, addr = (n : Int) + 1 := ⟨(addr - 1).toNat, by omega⟩
    have e1 : ((n : Int) + 1 - 1).toNat = n := by omega
    rw [e1] at HFP
    have HN6 : Hid (n < 6) := by show n < 6; omega
    clear HIR e1
    have x0 := cS.cell 0 _ rfl
    go_wp2_with fail
    refine (unhide HIN _).mono ?_
    rintro e w2 ⟨rfl, hw2⟩
    obtain rfl := hw2.symm
    go_wp2_with fail
    generalize w.alloc (.cells #[.slice (some ⟨fb, fo, none⟩) 4 cap, .slice (some ⟨db, dof, none⟩) 6 dcap] 54) = w1 at *
    refine (unhide HLA _ B0).mono ?_
    rintro e w2 ⟨rfl, b2⟩
    have B2 := B0.trans (b2.mono B0.size)
    have cS2 := cS.below b2 (by omega)
    have s2 : w.heap.size + 1 ≤ w2.heap.size := by have := b2.size; omega
    clear x0 B0 b2 cS HLA
    generalize lastO bs ((n : Int) + 1) = o at *
    generalize lastR bs ((n : Int) + 1) = r at *
    rw [show (rcC r).toArray = #[.int .i64 r.k, .int .i64 r.s, .int .i64 r.a, .int .i64 r.v] from rfl]
    have bn : Below w2.heap.size w2 (w2.alloc (.cells #[.int .i64 r.k, .int .i64 r.s, .int .i64 r.a, .int .i64 r.v] 25)) := (Below.refl _ _).alloc (Nat.le_refl _) _
    have cS3 := cS2.below bn (by omega)
    have B3 := B2.trans (bn.mono B2.size)
    have s3 : w.heap.size + 2 ≤ (w2.alloc (.cells #[.int .i64 r.k, .int .i64 r.s, .int .i64 r.a, .int .i64 r.v] 25)).heap.size := by simp; omega
    clear bn cS2 B2
    cases o
    rotate_left
    · have HE : Hid (fillP bs dk ((n : Int) + 1) = []) := HFP
      have nl := Sts.nil (w2.alloc (.cells #[.int .i64 r.k, .int .i64 r.s, .int .i64 r.a, .int .i64 r.v] 25)) w.heap.size (by omega)
      rw [World.size_alloc] at nl
      have nB := B3.alloc B3.size (.cells #[] 60)
      go_wp2
      go_ret
      exact ⟨_, rfl, by rw [unhide HE]; exact nl, nB⟩
    · have HE : Hid (fillP bs dk ((n : Int) + 1) = writeP bs 2 ((n : Int) + 1) (dk.getD n 0)) := HFP
      have dn := isC_at (unhide HD) n (by have := unhide HN6; omega)
      rw [← B3.cell (p := ⟨db, dof + n, none⟩) hdl] at dn
      have HWR2 := hide (unhide HWR (dk.getD n 0))
      rw [← unhide HE] at HWR2
      generalize dk.getD n 0 = dvn at *
      have hn0 : (0 : Int) ≤ (n : Int) := by omega
      have hn6 : (n : Int) < 6 := by have := unhide HN6; omega
      have e2 : ((n : Int) + 1 - 1) = (n : Int) := by omega
      have hwr : IntKind.i64.wrap (n : Int) = (n : Int) := by rw [IntKind.wrap_i64]; omega
      have x0 := cS3.cell 0 _ rfl
      have x1 := cS3.cell 1 _ rfl
      go_wp2_with fail
      generalize w2.alloc (.cells #[.int .i64 r.k, .int .i64 r.s, .int .i64 r.a, .int .i64 r.v] 25) = w3 at *
      refine wp_region_noPanic ?_
      refine wp_region_held_drew (S := fun w' => w'.cell? ⟨w.heap.size, 0, none⟩ = some (.slice (some ⟨fb, fo, none⟩) 4 cap) ∧ w'.cell? ⟨w.heap.size, 1, none⟩ = some (.slice (some ⟨db, dof, none⟩) 6 dcap) ∧ w'.cell? ⟨db, dof + n, none⟩ = some (.int .i64 dvn)) (by kernel_rfl) (⟨by simpa using x0, by simpa using x1, by simpa using dn⟩) (fun hHeld => ?_)
      refine takeL 0 (.agg #[.slice (some ⟨fb, fo, none⟩) 4 cap, .slice (some ⟨db, dof, none⟩) 6 dcap]) rfl (by kernel_rfl) (by kernel_rfl) (by kernel_rfl) (fun _ _ _ h => h) (Or.inl ⟨rfl, fun w9 hSw => by have hc0 := hSw.1; have hc1 := hSw.2.1; go_simp⟩) hHeld ?_
      try simp only [Act.put, List.setIfInBounds_toArray, List.set_cons_zero, List.set_cons_succ]
      refine takeL 1 (.int .i64 ((n : Int) + 1)) rfl (by kernel_rfl) (by kernel_rfl) (by kernel_rfl) (fun _ _ _ h => h) (Or.inl ⟨rfl, fun _ _ => rfl⟩) hHeld ?_
      try simp only [Act.put, List.setIfInBounds_toArray, List.set_cons_zero, List.set_cons_succ]
      refine takeL 2 (.pointer (some ⟨w.heap.size, 1, none⟩)) rfl (by kernel_rfl) (by kernel_rfl) (by kernel_rfl) (fun _ _ _ h => h) (Or.inl ⟨rfl, fun w9 hSw => by go_simp⟩) hHeld ?_
      try simp only [Act.put, List.setIfInBounds_toArray, List.set_cons_zero, List.set_cons_succ]
      refine takeL 3 (.slice (some ⟨db, dof, none⟩) 6 dcap) rfl (by kernel_rfl) (by kernel_rfl) (by kernel_rfl) (fun _ _ _ h => h) (Or.inl ⟨rfl, fun w9 hSw => by have hc := hSw.2.1; go_simp⟩) hHeld ?_
      try simp only [Act.put, List.setIfInBounds_toArray, List.set_cons_zero, List.set_cons_succ]
      refine takeL 4 (.int .i64 ((n : Int) + 1)) rfl (by kernel_rfl) (by kernel_rfl) (by kernel_rfl) (fun _ _ _ h => h) (Or.inl ⟨rfl, fun _ _ => rfl⟩) hHeld ?_
      try simp only [Act.put, List.setIfInBounds_toArray, List.set_cons_zero, List.set_cons_succ]
      refine takeL 5 (.int .i64 (n : Nat)) rfl (by kernel_rfl) (by kernel_rfl) (by kernel_rfl) (fun _ _ _ h => h) (Or.inl ⟨rfl, fun w9 hSw => by go_simp⟩) hHeld ?_
      try simp only [Act.put, List.setIfInBounds_toArray, List.set_cons_zero, List.set_cons_succ]
      refine takeL 6 (.pointer (some ⟨db, dof + n, none⟩)) rfl (by kernel_rfl) (by kernel_rfl) (by kernel_rfl) (fun _ _ _ h => h) (Or.inl ⟨rfl, fun w9 hSw => by go_simp⟩) hHeld ?_
      try simp only [Act.put, List.setIfInBounds_toArray, List.set_cons_zero, List.set_cons_succ]
      refine takeL 7 (.int .i64 dvn) rfl (by kernel_rfl) (by kernel_rfl) (by kernel_rfl) (fun _ _ _ h => h) (Or.inl ⟨rfl, fun w9 hSw => by have hc := hSw.2.2; go_simp⟩) hHeld ?_
      try simp only [Act.put, List.setIfInBounds_toArray, List.set_cons_zero, List.set_cons_succ]
      refine oneL 8 rfl (by kernel_rfl) rfl (fun K hK => ?_)
      go_simp
      refine (unhide HWR2 _ B3.drew).mono ?_
      rintro e w4 ⟨v, rfl, hS, b4⟩
      go_wp2_with fail
      have B4 := B3.drew.trans (b4.mono B3.drew.size)
      refine hK.out _ _ ⟨by rw [b4.cell (p := ⟨w.heap.size, 0, none⟩) (by show w.heap.size < w3.heap.size; omega)]; exact hHeld.1, by rw [b4.cell (p := ⟨w.heap.size, 1, none⟩) (by show w.heap.size < w3.heap.size; omega)]; exact hHeld.2.1, by rw [b4.cell (p := ⟨db, dof + n, none⟩) (by show db < w3.heap.size; omega)]; exact hHeld.2.2⟩ (fun hHeld => ?_)
      clear hK K
      try simp only [Act.put, List.setIfInBounds_toArray, List.set_cons_zero, List.set_cons_succ]
      refine takeL 9 (v) rfl (by kernel_rfl) (by kernel_rfl) (by kernel_rfl) (fun _ _ _ h => h) (Or.inl ⟨rfl, fun _ _ => rfl⟩) hHeld ?_
      try simp only [Act.put, List.setIfInBounds_toArray, List.set_cons_zero, List.set_cons_succ]
      refine wpAnyH_done (by kernel_rfl) ?_ _
      refine NoPanic.normal ?_
      go_wp2
      go_ret
      exact ⟨_, rfl, hS.mono (show w.heap.size ≤ w3.heap.size by omega), B4⟩
end Go.Proofs.Ytkikeapfjpnkgaa.FlA

/-
  The specification's doing of a step, in place, on a store that it owns.
-/
namespace Go.Proofs.Ytkikeapfjpnkgaa.DoA
open Go.ChangeShapes Go.WideShapes Go.ChangeAt Go.RowKit Go.Shelf OkA Big Fl ImplB ImplF ImplS _root_.Go.Proofs.Ytkikeapfjpnkgaa.Own ImplT ImplU SpecA SpecB SpecC SpecD SpecW SpecF SpecG SpecH Ok2 Pl FindP SpecX ImplL FindN FindL FindV Kp StA RmA WrA FlA
set_option linter.unusedVariables false
set_option linter.unusedSimpArgs false
attribute [local go_sem ↓] Go.wp_at_zero Go.wp_at_succ

/-- A store in rows of its own. -/
structure St (w : World) (lo g d : Nat) (G : List Nat) (bs : List Bk) (dk : List Int) : Prop where
  own : Own.Own w lo g G bs 4
  disk : CsAt w d (isC dk)
  dlo : lo ≤ d
  dhi : d < w.heap.size
  dn : d ∉ g :: G
  six : dk.length = 6
theorem own_kept {w w' : World} {lo g n : Nat} {G : List Nat} {bs : List Bk} (h : Own.Own w lo g G bs n) {L : List Nat} (k : Kept L w w') (hL : ∀ x ∈ g :: G, x ∉ L) : Own.Own w' lo g G bs n := by
  have hg := h.hi g (by simp)
  have gL := hL g (by simp)
  have hG : ∀ i (hi : i < bs.length), G[i]'(by have := h.len; omega) < w.heap.size ∧ G[i]'(by have := h.len; omega) ∉ L := fun i hi => ⟨h.hi _ (by simp), hL _ (by simp)⟩
  refine ⟨h.len, h.nd, h.lo, fun x hx => Nat.lt_of_lt_of_le (h.hi x hx) k.size, h.fit, k.there h.room hg gL, fun i hi => ?_, fun i hi => ?_, fun i hi => k.range (h.pgs i hi) (hG i hi).1 (hG i hi).2, fun i hi => k.there (h.free i hi) (hG i hi).1 (hG i hi).2, fun i hi a m c hc => h.caps i hi a m c (by rw [k.cell _ hg gL] at hc; exact hc)⟩
  · obtain ⟨cap, hc⟩ := h.out i hi
    exact ⟨cap, by rw [k.cell _ hg gL]; exact hc⟩
  · rw [k.cell _ hg gL]; exact h.worn i hi
theorem csAt_kept {w w' : World} {b : Nat} {cs : List Value} (h : CsAt w b cs) {L : List Nat} (k : Kept L w w') (hb : b < w.heap.size) (hL : b ∉ L) : CsAt w' b cs := ⟨k.range h.cells hb hL, k.there h.free hb hL⟩
theorem St.kept {w w' : World} {lo g d : Nat} {G : List Nat} {bs : List Bk} {dk : List Int} (h : St w lo g d G bs dk) {L : List Nat} (k : Kept L w w') (hL : ∀ x ∈ d :: g :: G, x ∉ L) : St w' lo g d G bs dk :=
  ⟨own_kept h.own k (fun x hx => hL x (by simp [hx])), csAt_kept h.disk k h.dhi (hL d (by simp)), h.dlo, Nat.lt_of_lt_of_le h.dhi k.size, h.dn, h.six⟩
theorem St.below {w w' : World} {lo g d : Nat} {G : List Nat} {bs : List Bk} {dk : List Int} (h : St w lo g d G bs dk) (hb : Below w.heap.size w w') : St w' lo g d G bs dk := h.kept (L := []) (Kept.of hb) (fun _ _ => by simp)
theorem St.all {w : World} {lo g d : Nat} {G : List Nat} {bs : List Bk} {dk : List Int} (h : St w lo g d G bs dk) : ∀ x ∈ d :: g :: G, lo ≤ x ∧ x < w.heap.size := fun x hx => by
  rcases List.mem_cons.1 hx with rfl | hx
  · exact ⟨h.dlo, h.dhi⟩
  · exact ⟨h.own.lo x hx, h.own.hi x hx⟩
/-- Blocks that were made later are none of a store's. -/
theorem St.late {w : World} {lo g d : Nat} {G : List Nat} {bs : List Bk} {dk : List Int} (h : St w lo g d G bs dk) {L : List Nat} (hL : ∀ x ∈ L, w.heap.size ≤ x) : ∀ x ∈ d :: g :: G, x ∉ L := fun x hx hm => by
  have h1 := (h.all x hx).2
  have h2 := hL x hm
  omega
theorem kept_cells (w : World) (b o : Nat) (vs : List Value) : Kept [b] w (w.setCells b o vs) := (Kept.refl [b] w).setCells (.inl (by simp)) o vs
theorem kept_cell (w : World) (b o : Nat) (v : Value) : Kept [b] w (w.setCell ⟨b, o, none⟩ v) := (Kept.refl [b] w).setCell (p := ⟨b, o, none⟩) (.inl (by simp)) v
theorem there_cell {w : World} {b o n : Nat} (h : w.there b o n) (b' o' : Nat) (v : Value) : (w.setCell ⟨b', o', none⟩ v).there b o n := by
  have := World.there_setCells h b' o' [v]
  exact this
def sV (g d cap dcap : Nat) : Value := .agg #[.slice (some ⟨g, 0, none⟩) 4 cap, .slice (some ⟨d, 0, none⟩) 6 dcap]
def DoPost (w : World) (lo g d cap dcap : Nat) (G : List Nat) (bs : List Bk) (dk : List Int) (e : Ending) (w' : World) : Prop :=
  e = .returned (.agg #[.slice (some ⟨g, 0, none⟩) 4 cap, .slice (some ⟨d, 0, none⟩) 6 dcap]) ∧ St w' lo g d G bs dk ∧ Kept (d :: g :: G) w w'

set_option maxRecDepth 100000 in
set_option maxHeartbeats 2000000 in
theorem do_any (lo g d cap dcap : Nat) (G : List Nat) (bs : List Bk) (dk : List Int) (x : Stp) (torn : Bool) (w : World) (hS : St w lo g d G bs dk) (hok : okB bs = true) (hx : stpB x = true) :
    Calls Try.prog 121 #[.agg #[.slice (some ⟨g, 0, none⟩) 4 cap, .slice (some ⟨d, 0, none⟩) 6 dcap], .agg #[.int .i64 x.kind, .int .i64 x.addr, .int .i64 x.val, .int .i64 x.blk, .int .i64 x.r.k, .int .i64 x.r.s, .int .i64 x.r.a, .int .i64 x.r.v], .bool torn] w fun e w' => DoPost w lo g d cap dcap G (doF bs x torn) (doD dk x torn) e w' := by
  have b1 : Below w.heap.size w (((w.alloc (.cells #[.slice (some ⟨g, 0, none⟩) 4 cap, .slice (some ⟨d, 0, none⟩) 6 dcap] 54)).alloc (.cells (stC x).toArray 60)).alloc (.cells #[.slice none 0 0, .slice none 0 0] 54)) := (((Below.refl _ _).alloc (Nat.le_refl _) _).alloc (by simp) _).alloc (by simp; omega) _
  have cS : CsAt (((w.alloc (.cells #[.slice (some ⟨g, 0, none⟩) 4 cap, .slice (some ⟨d, 0, none⟩) 6 dcap] 54)).alloc (.cells (stC x).toArray 60)).alloc (.cells #[.slice none 0 0, .slice none 0 0] 54)) w.heap.size [.slice (some ⟨g, 0, none⟩) 4 cap, .slice (some ⟨d, 0, none⟩) 6 dcap] :=
    ((store_box w (.slice (some ⟨g, 0, none⟩) 4 cap) (.slice (some ⟨d, 0, none⟩) 6 dcap)).alloc (by simp) _).alloc (by simp; omega) _
  have cX : CsAt (((w.alloc (.cells #[.slice (some ⟨g, 0, none⟩) 4 cap, .slice (some ⟨d, 0, none⟩) 6 dcap] 54)).alloc (.cells (stC x).toArray 60)).alloc (.cells #[.slice none 0 0, .slice none 0 0] 54)) (w.heap.size + 1) (stC x) := by
    have := (CsAt.new (w.alloc (.cells #[.slice (some ⟨g, 0, none⟩) 4 cap, .slice (some ⟨d, 0, none⟩) 6 dcap] 54)) (stC x) 60).alloc (by simp) (.cells #[.slice none 0 0, .slice none 0 0] 54)
    rwa [World.size_alloc] at this
  have cR : CsAt (((w.alloc (.cells #[.slice (some ⟨g, 0, none⟩) 4 cap, .slice (some ⟨d, 0, none⟩) 6 dcap] 54)).alloc (.cells (stC x).toArray 60)).alloc (.cells #[.slice none 0 0, .slice none 0 0] 54)) (w.heap.size + 1 + 1) [.slice none 0 0, .slice none 0 0] := by
    have := CsAt.new ((w.alloc (.cells #[.slice (some ⟨g, 0, none⟩) 4 cap, .slice (some ⟨d, 0, none⟩) 6 dcap] 54)).alloc (.cells (stC x).toArray 60)) [.slice none 0 0, .slice none 0 0] 54
    rwa [World.size_alloc, World.size_alloc] at this
  have s1 : (((w.alloc (.cells #[.slice (some ⟨g, 0, none⟩) 4 cap, .slice (some ⟨d, 0, none⟩) 6 dcap] 54)).alloc (.cells (stC x).toArray 60)).alloc (.cells #[.slice none 0 0, .slice none 0 0] 54)).heap.size = w.heap.size + 3 := by simp
  rw [show (stC x).toArray = #[.int .i64 x.kind, .int .i64 x.addr, .int .i64 x.val, .int .i64 x.blk, .int .i64 x.r.k, .int .i64 x.r.s, .int .i64 x.r.a, .int .i64 x.r.v] from rfl] at b1 cS cX cR s1
  have S1 := hS.below b1
  have HF : Hid (doF bs x torn = if x.kind = 2 then wiF bs x.blk.toNat torn else if x.kind = 3 then wrF bs x.blk.toNat x.r torn else bs) := rfl
  have HD : Hid (doD dk x torn = if x.kind = 1 then (if torn then dk else dk.set (x.addr - 1).toNat x.val) else dk) := rfl
  have k1 : Kept [] w (((w.alloc (.cells #[.slice (some ⟨g, 0, none⟩) 4 cap, .slice (some ⟨d, 0, none⟩) 6 dcap] 54)).alloc (.cells #[.int .i64 x.kind, .int .i64 x.addr, .int .i64 x.val, .int .i64 x.blk, .int .i64 x.r.k, .int .i64 x.r.s, .int .i64 x.r.a, .int .i64 x.r.v] 60)).alloc (.cells #[.slice none 0 0, .slice none 0 0] 54)) := Kept.of b1
  have hall := hS.all
  go_enter Try.func121, Try.ntmps121
  go_upto_region 1 with fail
  generalize ((w.alloc (.cells #[.slice (some ⟨g, 0, none⟩) 4 cap, .slice (some ⟨d, 0, none⟩) 6 dcap] 54)).alloc (.cells #[.int .i64 x.kind, .int .i64 x.addr, .int .i64 x.val, .int .i64 x.blk, .int .i64 x.r.k, .int .i64 x.r.s, .int .i64 x.r.a, .int .i64 x.r.v] 60)).alloc (.cells #[.slice none 0 0, .slice none 0 0] 54) = w1 at *
  have z0 := cX.cell 0 _ rfl
  have z1 := cX.cell 1 _ rfl
  have z2 := cX.cell 2 _ rfl
  have z3 := cX.cell 3 _ rfl
  have z4 := cX.cell 4 _ rfl
  have z5 := cX.cell 5 _ rfl
  have z6 := cX.cell 6 _ rfl
  have z7 := cX.cell 7 _ rfl
  have HX := hide hx
  have HOK := hide hok
  clear hx hok b1 hS
  by_cases t1 : x.kind = 1
  · have q1 : (x.kind == 1) = true := by simpa using t1
    have HE1 : Hid (doF bs x torn = bs) := by show _ = _; rw [unhide HF, if_neg (by omega), if_neg (by omega)]
    have hx1 : 1 ≤ x.addr ∧ x.addr ≤ 6 := by have hx := unhide HX; unfold stpB at hx; rw [if_pos t1] at hx; simpa [inB] using hx
    cases torn
    · obtain ⟨n, hn⟩ : ∃ n : Nat, x.addr = (n : Int) + 1 := ⟨(x.addr - 1).toNat, by omega⟩
      have hn6 : n < 6 := by omega
      have HE2 : Hid (doD dk x false = dk.set n x.val) := by
        show _ = _
        rw [unhide HD, if_pos t1, if_neg (by simp), show (x.addr - 1).toNat = n by omega]
      rw [hn] at z1
      clear t1 hx1 hn z3 z4 z5 z6 z7
      have a1 := cS.cell 1 _ rfl
      have hnl : n < (isC dk).length := by rw [len_isC, S1.six]; exact hn6
      obtain ⟨vo, hvo⟩ : ∃ v, w1.cell? ⟨d, n, none⟩ = some v := ⟨_, S1.disk.cell n _ (List.getElem?_eq_getElem hnl)⟩
      have fo := S1.disk.frozen n hnl
      have hn0 : (0 : Int) ≤ (n : Int) := by omega
      have hnk : (n : Int) < 6 := by omega
      have e2 : ((n : Int) + 1 - 1) = (n : Int) := by omega
      have S2 : St (w1.setCell ⟨d, n, none⟩ (.int .i64 x.val)) lo g d G bs (dk.set n x.val) := by
        have kd := kept_cell w1 d n (.int .i64 x.val)
        refine ⟨own_kept S1.own kd (fun y hy => by simp; exact fun e => S1.dn (e ▸ hy)), ?_, S1.dlo, Nat.lt_of_lt_of_le S1.dhi kd.size, S1.dn, by rw [List.length_set]; exact S1.six⟩
        refine ⟨fun j v hv => ?_, fun j hj => ?_⟩
        · rw [Nat.zero_add]
          have hjl : j < dk.length := by
            have := (List.getElem?_eq_some_iff.1 hv).1
            rw [len_isC, List.length_set] at this; exact this
          by_cases e : j = n
          · subst e
            have : v = .int .i64 x.val := by simp [isC, hjl] at hv; exact hv.symm
            rw [this]
            exact World.cell?_setCell_same' _ _ _ (by rw [hvo]; rfl)
          · rw [World.cell?_setCell_other _ _ _ _ (by intro q; cases q; exact e rfl)]
            have hv' : (isC dk)[j]? = some v := by
              unfold isC at hv ⊢
              rw [List.getElem?_map] at hv ⊢
              rw [List.getElem?_set_ne (by omega)] at hv
              exact hv
            exact S1.disk.cell j v hv'
        · have hj' : j < (isC dk).length := by rw [len_isC] at hj ⊢; rw [List.length_set] at hj; exact hj
          have := S1.disk.free j hj'
          exact there_cell S1.disk.free d n (.int .i64 x.val) j hj'
      have kd : Kept (d :: g :: G) w (w1.setCell ⟨d, n, none⟩ (.int .i64 x.val)) := (k1.sub (fun _ h => by cases h)).then (kept_cell w1 d n (.int .i64 x.val)) (fun y hy => by simp at hy; subst hy; left; simp)
      have cS2 := csAt_kept cS (kept_cell w1 d n (.int .i64 x.val)) (by omega) (by simp; have := (hall d (by simp)).2; omega)
      have cR2 := csAt_kept cR (kept_cell w1 d n (.int .i64 x.val)) (by omega) (by simp; have := (hall d (by simp)).2; omega)
      have s2 : (w1.setCell ⟨d, n, none⟩ (.int .i64 x.val)).heap.size = w.heap.size + 3 := by rw [← s1]; simp [World.setCell]
      go_upto_region 9 with fail
      generalize w1.setCell ⟨d, n, none⟩ (.int .i64 x.val) = w2 at *
      clear hvo fo a1
      have d0 := cR2.cell 0 _ rfl
      have d1 := cR2.cell 1 _ rfl
      have f0 := cR2.frozen 0 (by simp)
      have f1 := cR2.frozen 1 (by simp)
      have y0 := cS2.cell 0 _ rfl
      have y1 := cS2.cell 1 _ rfl
      have p1 := cR2.put [.slice (some ⟨g, 0, none⟩) 4 cap, .slice (some ⟨d, 0, none⟩) 6 dcap] rfl
      have kz := kept_cells w2 (w.heap.size + 1 + 1) 0 [.slice (some ⟨g, 0, none⟩) 4 cap, .slice (some ⟨d, 0, none⟩) 6 dcap]
      have SZ := (S2).kept kz (fun y hy => by have := (hall y hy).2; simp; omega)
      have KZ : Kept (d :: g :: G) w (w2.setCells (w.heap.size + 1 + 1) 0 [.slice (some ⟨g, 0, none⟩) 4 cap, .slice (some ⟨d, 0, none⟩) 6 dcap]) := (kd).then kz (fun y hy => by simp at hy; subst hy; right; omega)
      go_wp2
      refine bodyPost_ret (res_cell_mid Try.results121 _ _ (w.heap.size + 1 + 1) [.slice (some ⟨g, 0, none⟩) 4 cap, .slice (some ⟨d, 0, none⟩) 6 dcap] _ rfl p1.cells Try.underlying54 rfl (by kernel_rfl)) rfl ?_
      exact ⟨rfl, by rw [unhide HE1, unhide HE2]; exact SZ, KZ⟩
    · have HE2 : Hid (doD dk x true = dk) := by show _ = _; rw [unhide HD, if_pos t1, if_pos rfl]
      clear t1 hx1 z1 z2 z3 z4 z5 z6 z7
      have d0 := cR.cell 0 _ rfl
      have d1 := cR.cell 1 _ rfl
      have f0 := cR.frozen 0 (by simp)
      have f1 := cR.frozen 1 (by simp)
      have y0 := cS.cell 0 _ rfl
      have y1 := cS.cell 1 _ rfl
      have p1 := cR.put [.slice (some ⟨g, 0, none⟩) 4 cap, .slice (some ⟨d, 0, none⟩) 6 dcap] rfl
      have kz := kept_cells w1 (w.heap.size + 1 + 1) 0 [.slice (some ⟨g, 0, none⟩) 4 cap, .slice (some ⟨d, 0, none⟩) 6 dcap]
      have SZ := (S1).kept kz (fun y hy => by have := (hall y hy).2; simp; omega)
      have KZ : Kept (d :: g :: G) w (w1.setCells (w.heap.size + 1 + 1) 0 [.slice (some ⟨g, 0, none⟩) 4 cap, .slice (some ⟨d, 0, none⟩) 6 dcap]) := (k1.sub (fun _ h => by cases h)).then kz (fun y hy => by simp at hy; subst hy; right; omega)
      go_wp2
      refine bodyPost_ret (res_cell_mid Try.results121 _ _ (w.heap.size + 1 + 1) [.slice (some ⟨g, 0, none⟩) 4 cap, .slice (some ⟨d, 0, none⟩) 6 dcap] _ rfl p1.cells Try.underlying54 rfl (by kernel_rfl)) rfl ?_
      exact ⟨rfl, by rw [unhide HE1, unhide HE2]; exact SZ, KZ⟩
  · have q1 : (x.kind == 1) = false := by simpa using t1
    have HE2 : Hid (doD dk x torn = dk) := by show _ = _; rw [unhide HD, if_neg t1]
    by_cases t2 : x.kind = 2
    · have q2 : (x.kind == 2) = true := by simpa using t2
      have hx1 : 0 ≤ x.blk ∧ x.blk ≤ 3 := by have hx := unhide HX; unfold stpB at hx; rw [if_neg t1, if_pos t2] at hx; simpa [inB] using hx
      obtain ⟨k, hk⟩ : ∃ k : Nat, x.blk = (k : Int) := ⟨x.blk.toNat, by omega⟩
      have hk4 : k < 4 := by omega
      have HE1 : Hid (doF bs x torn = wiF bs k torn) := by show _ = _; rw [unhide HF, if_pos t2, show x.blk.toNat = k by omega]
      rw [hk] at z3
      clear t1 t2 hx1 hk z1 z2 z4 z5 z6 z7
      have a0 := cS.cell 0 _ rfl
      go_wp2_with fail
      refine (wipe_any lo g cap G bs k torn w1 S1.own (unhide HOK) hk4).mono ?_
      rintro e w2 ⟨rfl, o2, k2⟩
      have o2' : Own.Own w2 lo g G (wiF bs k torn) 4 := by unfold wiF; exact o2
      have hd2 : d ∉ g :: G := S1.dn
      have S2 : St w2 lo g d G (wiF bs k torn) dk := ⟨o2', csAt_kept S1.disk k2 S1.dhi hd2, S1.dlo, Nat.lt_of_lt_of_le S1.dhi k2.size, hd2, S1.six⟩
      have cS2 := csAt_kept cS k2 (by omega) (fun hm => by have := (hall _ (List.mem_cons_of_mem _ hm)).2; omega)
      have cR2 := csAt_kept cR k2 (by omega) (fun hm => by have := (hall _ (List.mem_cons_of_mem _ hm)).2; omega)
      have K2 : Kept (d :: g :: G) w w2 := (k1.sub (fun _ h => by cases h)).then k2 (fun y hy => .inl (List.mem_cons_of_mem _ hy))
      have s2 : w.heap.size + 3 ≤ w2.heap.size := by have := k2.size; omega
      clear a0 o2 o2' k2 S1 cS cR z0 z3
      generalize wiF bs k torn = bs2 at *
      generalize (!wiN bs k) = fl at *
      have a0 := cS2.cell 0 _ rfl
      have g0 := cS2.frozen 0 (by simp)
      have kc := kept_cell w2 w.heap.size 0 (.slice (some ⟨g, 0, none⟩) 4 cap)
      have S3 := S2.kept kc (fun y hy => by have := (hall y hy).2; simp; omega)
      have K3 := K2.then kc (fun y hy => by simp at hy; subst hy; right; exact Nat.le_refl _)
      have cR3 := csAt_kept cR2 kc (by omega) (by simp; omega)
      have cS3 : CsAt (w2.setCell ⟨w.heap.size, 0, none⟩ (.slice (some ⟨g, 0, none⟩) 4 cap)) w.heap.size [.slice (some ⟨g, 0, none⟩) 4 cap, .slice (some ⟨d, 0, none⟩) 6 dcap] := by
        refine ⟨fun j v hv => ?_, fun j hj => ?_⟩
        · rw [Nat.zero_add]
          match j, hv with
          | 0, hv => (obtain rfl : v = .slice (some ⟨g, 0, none⟩) 4 cap := by simpa using hv.symm); exact World.cell?_setCell_same' _ _ _ (by rw [a0]; rfl)
          | 1, hv => rw [World.cell?_setCell_other _ _ _ _ (by intro q; cases q)]; exact cS2.cell 1 v hv
          | n + 2, hv => simp at hv
        · exact there_cell cS2.free w.heap.size 0 (.slice (some ⟨g, 0, none⟩) 4 cap) j hj
      have s3 : w.heap.size + 3 ≤ (w2.setCell ⟨w.heap.size, 0, none⟩ (.slice (some ⟨g, 0, none⟩) 4 cap)).heap.size := Nat.le_trans s2 kc.size
      go_upto_region 9 with fail
      generalize w2.setCell ⟨w.heap.size, 0, none⟩ (.slice (some ⟨g, 0, none⟩) 4 cap) = w3 at *
      clear a0 g0 S2 K2 cR2 cS2 kc
      have d0 := cR3.cell 0 _ rfl
      have d1 := cR3.cell 1 _ rfl
      have f0 := cR3.frozen 0 (by simp)
      have f1 := cR3.frozen 1 (by simp)
      have y0 := cS3.cell 0 _ rfl
      have y1 := cS3.cell 1 _ rfl
      have p1 := cR3.put [.slice (some ⟨g, 0, none⟩) 4 cap, .slice (some ⟨d, 0, none⟩) 6 dcap] rfl
      have kz := kept_cells w3 (w.heap.size + 1 + 1) 0 [.slice (some ⟨g, 0, none⟩) 4 cap, .slice (some ⟨d, 0, none⟩) 6 dcap]
      have SZ := (S3).kept kz (fun y hy => by have := (hall y hy).2; simp; omega)
      have KZ : Kept (d :: g :: G) w (w3.setCells (w.heap.size + 1 + 1) 0 [.slice (some ⟨g, 0, none⟩) 4 cap, .slice (some ⟨d, 0, none⟩) 6 dcap]) := (K3).then kz (fun y hy => by simp at hy; subst hy; right; omega)
      go_wp2
      refine bodyPost_ret (res_cell_mid Try.results121 _ _ (w.heap.size + 1 + 1) [.slice (some ⟨g, 0, none⟩) 4 cap, .slice (some ⟨d, 0, none⟩) 6 dcap] _ rfl p1.cells Try.underlying54 rfl (by kernel_rfl)) rfl ?_
      exact ⟨rfl, by rw [unhide HE1, unhide HE2]; exact SZ, KZ⟩
    · have q2 : (x.kind == 2) = false := by simpa using t2
      by_cases t3 : x.kind = 3
      · have q3 : (x.kind == 3) = true := by simpa using t3
        have hx1 : 0 ≤ x.blk ∧ x.blk ≤ 3 := by
          have hx := unhide HX; unfold stpB at hx; rw [if_neg t1, if_neg t2, if_pos t3, Bool.and_eq_true] at hx; simpa [inB] using hx.1
        obtain ⟨k, hk⟩ : ∃ k : Nat, x.blk = (k : Int) := ⟨x.blk.toNat, by omega⟩
        have hk4 : k < 4 := by omega
        have HE1 : Hid (doF bs x torn = wrF bs k x.r torn) := by show _ = _; rw [unhide HF, if_neg t2, if_pos t3, show x.blk.toNat = k by omega]
        rw [hk] at z3
        clear t1 t2 t3 hx1 hk z1 z2
        have a0 := cS.cell 0 _ rfl
        go_wp2_with fail
        refine (write_any lo g cap G bs k torn x.r.k x.r.s x.r.a x.r.v w1 S1.own (unhide HOK) hk4).mono ?_
        rintro e w2 ⟨rfl, o2, k2⟩
        have o2' : Own.Own w2 lo g G (wrF bs k x.r torn) 4 := by unfold wrF; exact o2
        have hd2 : d ∉ g :: G := S1.dn
        have S2 : St w2 lo g d G (wrF bs k x.r torn) dk := ⟨o2', csAt_kept S1.disk k2 S1.dhi hd2, S1.dlo, Nat.lt_of_lt_of_le S1.dhi k2.size, hd2, S1.six⟩
        have cS2 := csAt_kept cS k2 (by omega) (fun hm => by have := (hall _ (List.mem_cons_of_mem _ hm)).2; omega)
        have cR2 := csAt_kept cR k2 (by omega) (fun hm => by have := (hall _ (List.mem_cons_of_mem _ hm)).2; omega)
        have K2 : Kept (d :: g :: G) w w2 := (k1.sub (fun _ h => by cases h)).then k2 (fun y hy => .inl (List.mem_cons_of_mem _ hy))
        have s2 : w.heap.size + 3 ≤ w2.heap.size := by have := k2.size; omega
        clear a0 o2 o2' k2 S1 cS cR z0 z3 z4 z5 z6 z7
        generalize wrF bs k x.r torn = bs2 at *
        generalize (!wrN bs k x.r.s) = fl at *
        have a0 := cS2.cell 0 _ rfl
        have g0 := cS2.frozen 0 (by simp)
        have kc := kept_cell w2 w.heap.size 0 (.slice (some ⟨g, 0, none⟩) 4 cap)
        have S3 := S2.kept kc (fun y hy => by have := (hall y hy).2; simp; omega)
        have K3 := K2.then kc (fun y hy => by simp at hy; subst hy; right; exact Nat.le_refl _)
        have cR3 := csAt_kept cR2 kc (by omega) (by simp; omega)
        have cS3 : CsAt (w2.setCell ⟨w.heap.size, 0, none⟩ (.slice (some ⟨g, 0, none⟩) 4 cap)) w.heap.size [.slice (some ⟨g, 0, none⟩) 4 cap, .slice (some ⟨d, 0, none⟩) 6 dcap] := by
          refine ⟨fun j v hv => ?_, fun j hj => ?_⟩
          · rw [Nat.zero_add]
            match j, hv with
            | 0, hv => (obtain rfl : v = .slice (some ⟨g, 0, none⟩) 4 cap := by simpa using hv.symm); exact World.cell?_setCell_same' _ _ _ (by rw [a0]; rfl)
            | 1, hv => rw [World.cell?_setCell_other _ _ _ _ (by intro q; cases q)]; exact cS2.cell 1 v hv
            | n + 2, hv => simp at hv
          · exact there_cell cS2.free w.heap.size 0 (.slice (some ⟨g, 0, none⟩) 4 cap) j hj
        have s3 : w.heap.size + 3 ≤ (w2.setCell ⟨w.heap.size, 0, none⟩ (.slice (some ⟨g, 0, none⟩) 4 cap)).heap.size := Nat.le_trans s2 kc.size
        go_upto_region 9 with fail
        generalize w2.setCell ⟨w.heap.size, 0, none⟩ (.slice (some ⟨g, 0, none⟩) 4 cap) = w3 at *
        clear a0 g0 S2 K2 cR2 cS2 kc
        have d0 := cR3.cell 0 _ rfl
        have d1 := cR3.cell 1 _ rfl
        have f0 := cR3.frozen 0 (by simp)
        have f1 := cR3.frozen 1 (by simp)
        have y0 := cS3.cell 0 _ rfl
        have y1 := cS3.cell 1 _ rfl
        have p1 := cR3.put [.slice (some ⟨g, 0, none⟩) 4 cap, .slice (some ⟨d, 0, none⟩) 6 dcap] rfl
        have kz := kept_cells w3 (w.heap.size + 1 + 1) 0 [.slice (some ⟨g, 0, none⟩) 4 cap, .slice (some ⟨d, 0, none⟩) 6 dcap]
        have SZ := (S3).kept kz (fun y hy => by have := (hall y hy).2; simp; omega)
        have KZ : Kept (d :: g :: G) w (w3.setCells (w.heap.size + 1 + 1) 0 [.slice (some ⟨g, 0, none⟩) 4 cap, .slice (some ⟨d, 0, none⟩) 6 dcap]) := (K3).then kz (fun y hy => by simp at hy; subst hy; right; omega)
        go_wp2
        refine bodyPost_ret (res_cell_mid Try.results121 _ _ (w.heap.size + 1 + 1) [.slice (some ⟨g, 0, none⟩) 4 cap, .slice (some ⟨d, 0, none⟩) 6 dcap] _ rfl p1.cells Try.underlying54 rfl (by kernel_rfl)) rfl ?_
        exact ⟨rfl, by rw [unhide HE1, unhide HE2]; exact SZ, KZ⟩
      · have q3 : (x.kind == 3) = false := by simpa using t3
        have HE1 : Hid (doF bs x torn = bs) := by show _ = _; rw [unhide HF, if_neg t2, if_neg t3]
        clear t1 t2 t3 z1 z2 z3 z4 z5 z6 z7
        have d0 := cR.cell 0 _ rfl
        have d1 := cR.cell 1 _ rfl
        have f0 := cR.frozen 0 (by simp)
        have f1 := cR.frozen 1 (by simp)
        have y0 := cS.cell 0 _ rfl
        have y1 := cS.cell 1 _ rfl
        have p1 := cR.put [.slice (some ⟨g, 0, none⟩) 4 cap, .slice (some ⟨d, 0, none⟩) 6 dcap] rfl
        have kz := kept_cells w1 (w.heap.size + 1 + 1) 0 [.slice (some ⟨g, 0, none⟩) 4 cap, .slice (some ⟨d, 0, none⟩) 6 dcap]
        have SZ := (S1).kept kz (fun y hy => by have := (hall y hy).2; simp; omega)
        have KZ : Kept (d :: g :: G) w (w1.setCells (w.heap.size + 1 + 1) 0 [.slice (some ⟨g, 0, none⟩) 4 cap, .slice (some ⟨d, 0, none⟩) 6 dcap]) := (k1.sub (fun _ h => by cases h)).then kz (fun y hy => by simp at hy; subst hy; right; omega)
        go_wp2
        refine bodyPost_ret (res_cell_mid Try.results121 _ _ (w.heap.size + 1 + 1) [.slice (some ⟨g, 0, none⟩) 4 cap, .slice (some ⟨d, 0, none⟩) 6 dcap] _ rfl p1.cells Try.underlying54 rfl (by kernel_rfl)) rfl ?_
        exact ⟨rfl, by rw [unhide HE1, unhide HE2]; exact SZ, KZ⟩
end Go.Proofs.Ytkikeapfjpnkgaa.DoA

/-
  The specification's doing of steps, one behind the other, in place.
-/
namespace Go.Proofs.Ytkikeapfjpnkgaa.ToA
open Go.ChangeShapes Go.WideShapes Go.ChangeAt Go.RowKit Go.Shelf OkA Big Fl ImplB ImplF ImplS _root_.Go.Proofs.Ytkikeapfjpnkgaa.Own ImplT ImplU SpecA SpecB SpecC SpecD SpecW SpecF SpecG SpecH Ok2 Pl FindP SpecX ImplL FindN FindL FindV Kp StA RmA WrA FlA DoA
set_option linter.unusedVariables false
set_option linter.unusedSimpArgs false
attribute [local go_sem ↓] Go.wp_at_zero Go.wp_at_succ

theorem toF_app (bs : List Bk) (l m : List Stp) : toF bs (l ++ m) = toF (toF bs l) m := by
  induction l generalizing bs with
  | nil => rfl
  | cons x r ih => exact ih _
theorem toD_app (dk : List Int) (l m : List Stp) : toD dk (l ++ m) = toD (toD dk l) m := by
  induction l generalizing dk with
  | nil => rfl
  | cons x r ih => exact ih _
theorem toF_take (bs : List Bk) (l : List Stp) (n : Nat) (hn : n < l.length) : toF bs (l.take (n + 1)) = doF (toF bs (l.take n)) l[n] false := by
  rw [List.take_succ_eq_append_getElem hn, toF_app]; rfl
theorem toD_take (dk : List Int) (l : List Stp) (n : Nat) (hn : n < l.length) : toD dk (l.take (n + 1)) = doD (toD dk (l.take n)) l[n] false := by
  rw [List.take_succ_eq_append_getElem hn, toD_app]; rfl
theorem okB_toF (l : List Stp) : ∀ bs, okB bs = true → (∀ x ∈ l, stpB x = true) → okB (toF bs l) = true := by
  induction l with
  | nil => intro bs h _; exact h
  | cons x r ih => intro bs h hx; exact ih _ (okB_doF bs x false h (hx x (by simp))) fun y hy => hx y (by simp [hy])
/-- What is there behind so many steps, and one that falls. -/
def fell (L : List Stp) (cut : Int) (torn : Bool) : Bool := torn && inB cut 0 ((L.length : Int) - 1)
def toB (bs : List Bk) (L : List Stp) (cut : Int) (torn : Bool) : List Bk := if fell L cut torn then doF (toF bs (L.take cut.toNat)) (L.getD cut.toNat zSt) true else toF bs (L.take cut.toNat)
def toK (dk : List Int) (L : List Stp) (cut : Int) (torn : Bool) : List Int := if fell L cut torn then doD (toD dk (L.take cut.toNat)) (L.getD cut.toNat zSt) true else toD dk (L.take cut.toNat)
theorem okB_toB (bs : List Bk) (L : List Stp) (cut : Int) (torn : Bool) (h : okB bs = true) (hL : ∀ x ∈ L, stpB x = true) : okB (toB bs L cut torn) = true := by
  have h1 := okB_toF (L.take cut.toNat) bs h (fun x hx => hL x (List.mem_of_mem_take hx))
  unfold toB
  cases hf : fell L cut torn
  · exact h1
  · have hlt : cut.toNat < L.length := by
      unfold fell at hf
      simp [inB] at hf
      omega
    refine okB_doF _ _ _ h1 (hL _ ?_)
    rw [List.getD_eq_getElem?_getD, List.getElem?_eq_getElem hlt]
    exact List.getElem_mem hlt
theorem stp_part (l : List Stp) (i : Nat) (hi : i < l.length) : ((stsC l).drop (i * 8)).take 8 = stC l[i] := part_of stC 8 l (fun _ _ => rfl) i hi
theorem stp_at {w : World} {gs so : Nat} {L : List Stp} (h : w.rangeAt gs so (stsC L)) (n : Nat) (hn : n < L.length) : w.rangeAt gs (so + n * 8) (stC L[n]) := by
  have := rangeAt_sub h (n * 8) 8
  rwa [stp_part L n hn] at this

set_option maxRecDepth 100000 in
set_option maxHeartbeats 4000000 in
theorem to_any (lo g d cap dcap : Nat) (G : List Nat) (bs : List Bk) (dk : List Int) (sa : Option Addr) (sc : Nat) (L : List Stp) (cut : Int) (torn : Bool) (w : World) (hS : St w lo g d G bs dk) (hok : okB bs = true) (hL : ∀ x ∈ L, stpB x = true) (hlen : L.length ≤ 1048576)
    (hsa : L = [] ∨ ∃ gs so, sa = some ⟨gs, so, none⟩ ∧ gs ∉ d :: g :: G ∧ gs < w.heap.size ∧ w.rangeAt gs so (stsC L)) :
    Calls Try.prog 111 #[.agg #[.slice (some ⟨g, 0, none⟩) 4 cap, .slice (some ⟨d, 0, none⟩) 6 dcap], .slice sa L.length sc, .int .i64 cut, .bool torn] w fun e w' => DoPost w lo g d cap dcap G (toB bs L cut torn) (toK dk L cut torn) e w' := by
  have b1 : Below w.heap.size w ((w.alloc (.cells #[.slice (some ⟨g, 0, none⟩) 4 cap, .slice (some ⟨d, 0, none⟩) 6 dcap] 54)).alloc (.cells #[.slice none 0 0, .slice none 0 0] 54)) := ((Below.refl _ _).alloc (Nat.le_refl _) _).alloc (by simp) _
  have cS := (store_box w (.slice (some ⟨g, 0, none⟩) 4 cap) (.slice (some ⟨d, 0, none⟩) 6 dcap)).alloc (by simp) (.cells #[.slice none 0 0, .slice none 0 0] 54)
  have cR := CsAt.new (w.alloc (.cells #[.slice (some ⟨g, 0, none⟩) 4 cap, .slice (some ⟨d, 0, none⟩) 6 dcap] 54)) [.slice none 0 0, .slice none 0 0] 54
  rw [World.size_alloc] at cR
  have s1 : ((w.alloc (.cells #[.slice (some ⟨g, 0, none⟩) 4 cap, .slice (some ⟨d, 0, none⟩) 6 dcap] 54)).alloc (.cells #[.slice none 0 0, .slice none 0 0] 54)).heap.size = w.heap.size + 2 := by simp
  have S1 := hS.below b1
  have k1 : Kept (d :: g :: G) w ((w.alloc (.cells #[.slice (some ⟨g, 0, none⟩) 4 cap, .slice (some ⟨d, 0, none⟩) 6 dcap] 54)).alloc (.cells #[.slice none 0 0, .slice none 0 0] 54)) := Kept.of b1
  have hall := hS.all
  have HB : Hid (toB bs L cut torn = if fell L cut torn then doF (toF bs (L.take cut.toNat)) (L.getD cut.toNat zSt) true else toF bs (L.take cut.toNat)) := rfl
  have HK : Hid (toK dk L cut torn = if fell L cut torn then doD (toD dk (L.take cut.toNat)) (L.getD cut.toNat zSt) true else toD dk (L.take cut.toNat)) := rfl
  have HOK := hide (fun n => okB_toF (L.take n) bs hok (fun x hx => hL x (List.mem_of_mem_take hx)))
  have HST := hide hL
  have HSA := hide hsa
  have HSZ : Hid (L.length = L.length) := rfl
  have hli : (L.length : Int) ≤ 1048576 := by omega
  clear hS hok hL hsa
  go_enter Try.func111, Try.ntmps111
  go_upto_region 1 with fail
  generalize (w.alloc (.cells #[.slice (some ⟨g, 0, none⟩) 4 cap, .slice (some ⟨d, 0, none⟩) 6 dcap] 54)).alloc (.cells #[.slice none 0 0, .slice none 0 0] 54) = w1 at *
  have HT0 : Hid (toF bs (L.take 0) = bs) := rfl
  have HD0 : Hid (toD dk (L.take 0) = dk) := rfl
  go_wp2
  go_loopw [9] (fun i w' => ∃ n : Nat, n ≤ L.length ∧ (n : Int) ≤ max cut 0 ∧ i = .int .i64 n ∧ St w' lo g d G (toF bs (L.take n)) (toD dk (L.take n)) ∧ CsAt w' w.heap.size [.slice (some ⟨g, 0, none⟩) 4 cap, .slice (some ⟨d, 0, none⟩) 6 dcap] ∧ CsAt w' (w.heap.size + 1) [.slice none 0 0, .slice none 0 0] ∧ w.heap.size + 2 ≤ w'.heap.size ∧ Kept (d :: g :: G) w w') (fun i _ => L.length - (intOf i).toNat)
  case atStart => exact ⟨0, by omega, by omega, rfl, by rw [unhide HT0, unhide HD0]; exact S1, cS, cR, by omega, k1⟩
  case round =>
    clear S1 cS cR s1 k1
    obtain ⟨n, hn, hnc, rfl, hS, hC, hR, hsz, hK⟩ := hrel
    have hn0 : (0 : Int) ≤ (n : Int) := by omega
    by_cases h0 : n < L.length ∧ (n : Int) < cut
    · obtain ⟨h1, h2⟩ := h0
      have hnl : (n : Int) < (L.length : Int) := by omega
      obtain ⟨gs, so, rfl, hg1, hg2, hgr⟩ : ∃ gs so, sa = some ⟨gs, so, none⟩ ∧ gs ∉ d :: g :: G ∧ gs < w.heap.size ∧ w.rangeAt gs so (stsC L) := by
        rcases unhide HSA with h | h
        · rw [h] at h1; simp at h1
        · exact h
      have hx := hide (unhide HST _ (List.getElem_mem h1))
      have HTF := hide (toF_take bs L n h1)
      have HTD := hide (toD_take dk L n h1)
      have hxr := hK.range (stp_at hgr n h1) hg2 hg1
      have HO := hide (unhide HOK n)
      generalize L[n] = x at *
      generalize toF bs (L.take n) = B at *
      generalize toD dk (L.take n) = D at *
      have HSS := hide (show (Try.prog.info? 54).map (·.size) = some 2 by kernel_rfl)
      have HS8 := hide (show (Try.prog.info? 60).map (·.size) = some (stC x).length by show _ = some 8; kernel_rfl)
      clear hgr
      go_wp2_with fail
      refine wp_region_noPanic ?_
      refine wp_region_held_drew (S := fun w' => (CsAt w' w.heap.size [.slice (some ⟨g, 0, none⟩) 4 cap, .slice (some ⟨d, 0, none⟩) 6 dcap] ∧ w'.rangeAt gs (so + n * 8) (stC x)) ∧ w.heap.size + 2 ≤ w'.heap.size) (by kernel_rfl) (⟨⟨⟨fun j v hv => hC.cells j v hv, fun j hj => hC.free j hj⟩, fun j v hv => hxr j v hv⟩, hsz⟩) (fun hHeld => ?_)
      refine takeL 0 (.agg #[.slice (some ⟨g, 0, none⟩) 4 cap, .slice (some ⟨d, 0, none⟩) 6 dcap]) rfl (by kernel_rfl) (by kernel_rfl) (by kernel_rfl) (fun _ _ _ h => h) (yieldsIf_load_mid rfl 54 _ rfl w.heap.size 0 rfl [.slice (some ⟨g, 0, none⟩) 4 cap, .slice (some ⟨d, 0, none⟩) 6 dcap] _ (fun _ h => h.1.1.cells) Try.underlying54 rfl (unhide HSS)) hHeld ?_
      try simp only [Act.put, List.setIfInBounds_toArray, List.set_cons_zero, List.set_cons_succ]
      refine takeL 1 (.slice (some ⟨gs, so, none⟩) L.length sc) rfl (by kernel_rfl) (by kernel_rfl) (by kernel_rfl) (fun _ _ _ h => h) (Or.inl ⟨rfl, fun _ _ => rfl⟩) hHeld ?_
      try simp only [Act.put, List.setIfInBounds_toArray, List.set_cons_zero, List.set_cons_succ]
      refine takeL 2 (.int .i64 (n : Nat)) rfl (by kernel_rfl) (by kernel_rfl) (by kernel_rfl) (fun _ _ _ h => h) (Or.inl ⟨rfl, fun _ _ => rfl⟩) hHeld ?_
      try simp only [Act.put, List.setIfInBounds_toArray, List.set_cons_zero, List.set_cons_succ]
      refine takeL 3 (.pointer (some ⟨gs, so + n * 8, none⟩)) rfl (by kernel_rfl) (by kernel_rfl) (by kernel_rfl) (fun _ _ _ h => h) (Or.inl ⟨rfl, fun w9 hSw => by go_simp⟩) hHeld ?_
      try simp only [Act.put, List.setIfInBounds_toArray, List.set_cons_zero, List.set_cons_succ]
      refine takeL 4 (.agg #[.int .i64 x.kind, .int .i64 x.addr, .int .i64 x.val, .int .i64 x.blk, .int .i64 x.r.k, .int .i64 x.r.s, .int .i64 x.r.a, .int .i64 x.r.v]) rfl (by kernel_rfl) (by kernel_rfl) (by kernel_rfl) (fun _ _ _ h => h) (yieldsIf_load_mid rfl 60 _ rfl gs (so + n * 8) rfl (stC x) _ (fun _ h => h.1.2) Try.underlying60 rfl (unhide HS8)) hHeld ?_
      try simp only [Act.put, List.setIfInBounds_toArray, List.set_cons_zero, List.set_cons_succ]
      refine oneL 5 rfl (by kernel_rfl) rfl (fun K hK2 => ?_)
      go_simp
      refine (do_any lo g d cap dcap G B D x false _ (hS.kept (L := []) (Kept.refl [] wr).drew (fun _ _ => by simp)) (unhide HO) (unhide hx)).mono ?_
      rintro e w4 ⟨rfl, S4, k4⟩
      go_wp2_with fail
      have hgL : w.heap.size ∉ d :: g :: G := fun hm => by have := (hall _ hm).2; omega
      have hrL : w.heap.size + 1 ∉ d :: g :: G := fun hm => by have := (hall _ hm).2; omega
      have rR4 := csAt_kept (csAt_kept hR (L := []) (Kept.refl [] wr).drew (by omega) (by simp)) k4 (by show w.heap.size + 1 < wr.heap.size; omega) hrL
      have kR4 := hK.drew.trans k4
      have sR4 : w.heap.size + 2 ≤ w4.heap.size := Nat.le_trans hsz k4.size
      have cR4 := csAt_kept hHeld.1.1 k4 (by show w.heap.size < wr.heap.size; omega) hgL
      refine hK2.out _ _ ⟨⟨cR4, k4.range hHeld.1.2 (by show gs < wr.heap.size; omega) hg1⟩, sR4⟩ (fun hHeld => ?_)
      clear hK2 K
      try simp only [Act.put, List.setIfInBounds_toArray, List.set_cons_zero, List.set_cons_succ]
      refine oneL 6 rfl (by kernel_rfl) rfl (fun K hK2 => ?_)
      refine wp_store_mid 54 _ _ rfl w.heap.size 0 [.slice (some ⟨g, 0, none⟩) 4 cap, .slice (some ⟨d, 0, none⟩) 6 dcap].toArray rfl rfl cR4.free (unhide HSS) (by kernel_rfl) ?_
      have kz := kept_cells w4 w.heap.size 0 [.slice (some ⟨g, 0, none⟩) 4 cap, .slice (some ⟨d, 0, none⟩) 6 dcap]
      have SF := S4.kept kz (fun y hy => by have := (hall y hy).2; simp; omega)
      have cF := cR4.put [.slice (some ⟨g, 0, none⟩) 4 cap, .slice (some ⟨d, 0, none⟩) 6 dcap] rfl
      have rF := csAt_kept rR4 kz (by omega) (by simp)
      have sF : w.heap.size + 2 ≤ (w4.setCells w.heap.size 0 [.slice (some ⟨g, 0, none⟩) 4 cap, .slice (some ⟨d, 0, none⟩) 6 dcap]).heap.size := Nat.le_trans sR4 kz.size
      have kF := kR4.then kz (fun y hy => by simp at hy; subst hy; right; exact Nat.le_refl _)
      refine hK2.out _ _ ⟨⟨cF, kz.range hHeld.1.2 (by have := k4.size; show gs < w4.heap.size; simp at this; omega) (by simp; omega)⟩, sF⟩ (fun hHeld => ?_)
      clear hK2 K
      try simp only [Act.put, List.setIfInBounds_toArray, List.set_cons_zero, List.set_cons_succ]
      refine wpAnyH_done (by kernel_rfl) ?_ _
      refine NoPanic.normal ?_
      clear hHeld S4 k4 kz rR4 kR4 sR4 cR4
      generalize w4.setCells w.heap.size 0 [.slice (some ⟨g, 0, none⟩) 4 cap, .slice (some ⟨d, 0, none⟩) 6 dcap] = w5 at *
      go_wp2
      go_roundw
      case rel => exact ⟨n + 1, by omega, by omega, by first | rfl | go_num, by rw [unhide HTF, unhide HTD]; exact SF, cF, rF, sF, kF⟩
      case measure => simp [intOf]; omega
    · have hnn : (n : Int) = min (max cut 0) L.length := by omega
      have HTK : Hid (L.take cut.toNat = L.take n) := by
        show _ = _
        by_cases hc : (n : Int) < L.length
        · rw [show cut.toNat = n by omega]
        · rw [List.take_of_length_le (by omega), List.take_of_length_le (by omega)]
      have hstop : ¬ ((n : Int) < (L.length : Int) ∧ (n : Int) < cut) := by omega
      have hq : ¬ (n : Int) < (L.length : Int) ∨ ((n : Int) < (L.length : Int) ∧ ¬ (n : Int) < cut) := by omega
      have HTB : Hid (toF bs (L.take cut.toNat) = toF bs (L.take n)) := by show _ = _; rw [unhide HTK]
      have HTD : Hid (toD dk (L.take cut.toNat) = toD dk (L.take n)) := by show _ = _; rw [unhide HTK]
      clear HTK hstop
      have HSS := hide (show (Try.prog.info? 54).map (·.size) = some 2 by kernel_rfl)
      by_cases hf : torn = true ∧ 0 ≤ cut ∧ cut ≤ (L.length : Int) - 1
      · obtain ⟨rfl, hc0, hc1⟩ := hf
        obtain rfl : cut = (n : Int) := by omega
        have h1 : n < L.length := by omega
        have hnl : (n : Int) < (L.length : Int) := by omega
        have hnn2 : ¬ (n : Int) < (n : Int) := by omega
        have hE : inB (n : Int) 0 ((L.length : Int) - 1) = true := inB_t hc0 hc1
        have HFL : Hid (fell L (n : Int) true = true) := by show _ = _; unfold fell; rw [hE]; rfl
        obtain ⟨gs, so, rfl, hg1, hg2, hgr⟩ : ∃ gs so, sa = some ⟨gs, so, none⟩ ∧ gs ∉ d :: g :: G ∧ gs < w.heap.size ∧ w.rangeAt gs so (stsC L) := by
          rcases unhide HSA with h | h
          · rw [h] at h1; simp at h1
          · exact h
        have hx := hide (unhide HST _ (List.getElem_mem h1))
        have hxr := hK.range (stp_at hgr n h1) hg2 hg1
        have HO := hide (unhide HOK n)
        have HGD : Hid (L.getD (n : Int).toNat zSt = L[n]) := by show _ = _; rw [List.getD_eq_getElem?_getD, Int.toNat_natCast, List.getElem?_eq_getElem h1]; rfl
        have HB2 : Hid (toB bs L (n : Int) true = doF (toF bs (L.take n)) L[n] true) := by show _ = _; rw [unhide HB, if_pos (unhide HFL), unhide HTB, unhide HGD]
        have HK2 : Hid (toK dk L (n : Int) true = doD (toD dk (L.take n)) L[n] true) := by show _ = _; rw [unhide HK, if_pos (unhide HFL), unhide HTD, unhide HGD]
        clear HB HK HFL HGD HTB HTD HOK HST HSA
        generalize L[n] = x at *
        generalize toF bs (L.take n) = B at *
        generalize toD dk (L.take n) = D at *
        have HS8 := hide (show (Try.prog.info? 60).map (·.size) = some (stC x).length by show _ = some 8; kernel_rfl)
        clear hgr hq hnn hc0 hc1 h0
        go_wp2_with fail
        refine (l6In_any (n : Int) 0 ((L.length : Int) - 1) wr).mono ?_
        rintro e w2 ⟨rfl, hw⟩
        obtain rfl := hw.symm
        rw [hE]
        go_wp2_with fail
        refine wp_region_noPanic ?_
        refine wp_region_held_drew (S := fun w' => (CsAt w' w.heap.size [.slice (some ⟨g, 0, none⟩) 4 cap, .slice (some ⟨d, 0, none⟩) 6 dcap] ∧ w'.rangeAt gs (so + n * 8) (stC x)) ∧ w.heap.size + 2 ≤ w'.heap.size) (by kernel_rfl) (⟨⟨⟨fun j v hv => hC.cells j v hv, fun j hj => hC.free j hj⟩, fun j v hv => hxr j v hv⟩, hsz⟩) (fun hHeld => ?_)
        refine takeL 0 (.agg #[.slice (some ⟨g, 0, none⟩) 4 cap, .slice (some ⟨d, 0, none⟩) 6 dcap]) rfl (by kernel_rfl) (by kernel_rfl) (by kernel_rfl) (fun _ _ _ h => h) (yieldsIf_load_mid rfl 54 _ rfl w.heap.size 0 rfl [.slice (some ⟨g, 0, none⟩) 4 cap, .slice (some ⟨d, 0, none⟩) 6 dcap] _ (fun _ h => h.1.1.cells) Try.underlying54 rfl (unhide HSS)) hHeld ?_
        try simp only [Act.put, List.setIfInBounds_toArray, List.set_cons_zero, List.set_cons_succ]
        refine takeL 1 (.slice (some ⟨gs, so, none⟩) L.length sc) rfl (by kernel_rfl) (by kernel_rfl) (by kernel_rfl) (fun _ _ _ h => h) (Or.inl ⟨rfl, fun _ _ => rfl⟩) hHeld ?_
        try simp only [Act.put, List.setIfInBounds_toArray, List.set_cons_zero, List.set_cons_succ]
        refine takeL 2 (.int .i64 (n : Nat)) rfl (by kernel_rfl) (by kernel_rfl) (by kernel_rfl) (fun _ _ _ h => h) (Or.inl ⟨rfl, fun _ _ => rfl⟩) hHeld ?_
        try simp only [Act.put, List.setIfInBounds_toArray, List.set_cons_zero, List.set_cons_succ]
        refine takeL 3 (.pointer (some ⟨gs, so + n * 8, none⟩)) rfl (by kernel_rfl) (by kernel_rfl) (by kernel_rfl) (fun _ _ _ h => h) (Or.inl ⟨rfl, fun w9 hSw => by go_simp⟩) hHeld ?_
        try simp only [Act.put, List.setIfInBounds_toArray, List.set_cons_zero, List.set_cons_succ]
        refine takeL 4 (.agg #[.int .i64 x.kind, .int .i64 x.addr, .int .i64 x.val, .int .i64 x.blk, .int .i64 x.r.k, .int .i64 x.r.s, .int .i64 x.r.a, .int .i64 x.r.v]) rfl (by kernel_rfl) (by kernel_rfl) (by kernel_rfl) (fun _ _ _ h => h) (yieldsIf_load_mid rfl 60 _ rfl gs (so + n * 8) rfl (stC x) _ (fun _ h => h.1.2) Try.underlying60 rfl (unhide HS8)) hHeld ?_
        try simp only [Act.put, List.setIfInBounds_toArray, List.set_cons_zero, List.set_cons_succ]
        refine oneL 5 rfl (by kernel_rfl) rfl (fun K hK2 => ?_)
        go_simp
        refine (do_any lo g d cap dcap G B D x true _ (hS.kept (L := []) (Kept.refl [] wr).drew (fun _ _ => by simp)) (unhide HO) (unhide hx)).mono ?_
        rintro e w4 ⟨rfl, S4, k4⟩
        go_wp2_with fail
        have hgL : w.heap.size ∉ d :: g :: G := fun hm => by have := (hall _ hm).2; omega
        have hrL : w.heap.size + 1 ∉ d :: g :: G := fun hm => by have := (hall _ hm).2; omega
        have rR4 := csAt_kept (csAt_kept hR (L := []) (Kept.refl [] wr).drew (by omega) (by simp)) k4 (by show w.heap.size + 1 < wr.heap.size; omega) hrL
        have kR4 := hK.drew.trans k4
        have sR4 : w.heap.size + 2 ≤ w4.heap.size := Nat.le_trans hsz k4.size
        have cR4 := csAt_kept hHeld.1.1 k4 (by show w.heap.size < wr.heap.size; omega) hgL
        refine hK2.out _ _ ⟨⟨cR4, k4.range hHeld.1.2 (by show gs < wr.heap.size; omega) hg1⟩, sR4⟩ (fun hHeld => ?_)
        clear hK2 K
        try simp only [Act.put, List.setIfInBounds_toArray, List.set_cons_zero, List.set_cons_succ]
        refine oneL 6 rfl (by kernel_rfl) rfl (fun K hK2 => ?_)
        refine wp_store_mid 54 _ _ rfl w.heap.size 0 [.slice (some ⟨g, 0, none⟩) 4 cap, .slice (some ⟨d, 0, none⟩) 6 dcap].toArray rfl rfl cR4.free (unhide HSS) (by kernel_rfl) ?_
        have kz := kept_cells w4 w.heap.size 0 [.slice (some ⟨g, 0, none⟩) 4 cap, .slice (some ⟨d, 0, none⟩) 6 dcap]
        have SF := S4.kept kz (fun y hy => by have := (hall y hy).2; simp; omega)
        have cF := cR4.put [.slice (some ⟨g, 0, none⟩) 4 cap, .slice (some ⟨d, 0, none⟩) 6 dcap] rfl
        have rF := csAt_kept rR4 kz (by omega) (by simp)
        have sF : w.heap.size + 2 ≤ (w4.setCells w.heap.size 0 [.slice (some ⟨g, 0, none⟩) 4 cap, .slice (some ⟨d, 0, none⟩) 6 dcap]).heap.size := Nat.le_trans sR4 kz.size
        have kF := kR4.then kz (fun y hy => by simp at hy; subst hy; right; exact Nat.le_refl _)
        refine hK2.out _ _ ⟨⟨cF, kz.range hHeld.1.2 (by have := k4.size; show gs < w4.heap.size; simp at this; omega) (by simp; omega)⟩, sF⟩ (fun hHeld => ?_)
        clear hK2 K
        try simp only [Act.put, List.setIfInBounds_toArray, List.set_cons_zero, List.set_cons_succ]
        refine wpAnyH_done (by kernel_rfl) ?_ _
        refine NoPanic.normal ?_
        clear hHeld S4 k4 kz rR4 kR4 sR4 cR4
        generalize w4.setCells w.heap.size 0 [.slice (some ⟨g, 0, none⟩) 4 cap, .slice (some ⟨d, 0, none⟩) 6 dcap] = w5 at *
        have d0 := rF.cell 0 _ rfl
        have d1 := rF.cell 1 _ rfl
        have f0 := rF.frozen 0 (by simp)
        have f1 := rF.frozen 1 (by simp)
        have y0 := cF.cell 0 _ rfl
        have y1 := cF.cell 1 _ rfl
        have p1 := rF.put [.slice (some ⟨g, 0, none⟩) 4 cap, .slice (some ⟨d, 0, none⟩) 6 dcap] rfl
        have kz := kept_cells w5 (w.heap.size + 1) 0 [.slice (some ⟨g, 0, none⟩) 4 cap, .slice (some ⟨d, 0, none⟩) 6 dcap]
        have SZ := SF.kept kz (fun y hy => by have := (hall y hy).2; simp; omega)
        have KZ : Kept (d :: g :: G) w (w5.setCells (w.heap.size + 1) 0 [.slice (some ⟨g, 0, none⟩) 4 cap, .slice (some ⟨d, 0, none⟩) 6 dcap]) := kF.then kz (fun y hy => by simp at hy; subst hy; right; omega)
        go_wp2
        refine bodyPost_ret (res_cell_mid Try.results111 _ _ (w.heap.size + 1) [.slice (some ⟨g, 0, none⟩) 4 cap, .slice (some ⟨d, 0, none⟩) 6 dcap] _ rfl p1.cells Try.underlying54 rfl (by kernel_rfl)) rfl ?_
        exact ⟨rfl, by rw [unhide HB2, unhide HK2]; exact SZ, KZ⟩
      · have HFL : Hid (fell L cut torn = false) := by
          show _ = _
          unfold fell
          cases torn
          · rfl
          · rw [show inB cut 0 ((L.length : Int) - 1) = false by unfold inB; rw [decide_eq_false_iff_not]; exact fun h => hf ⟨rfl, h⟩]; rfl
        have HB2 : Hid (toB bs L cut torn = toF bs (L.take n)) := by show _ = _; rw [unhide HB, if_neg (by rw [unhide HFL]; simp), unhide HTB]
        have HK2 : Hid (toK dk L cut torn = toD dk (L.take n)) := by show _ = _; rw [unhide HK, if_neg (by rw [unhide HFL]; simp), unhide HTD]
        have HE : Hid (torn = true → inB cut 0 ((L.length : Int) - 1) = false) := fun h => by unfold inB; rw [decide_eq_false_iff_not]; exact fun g => hf ⟨h, g⟩
        clear HB HK HFL HTB HTD HOK HST HSA hf
        generalize toF bs (L.take n) = B at *
        generalize toD dk (L.take n) = D at *
        cases torn
        · clear HE
          rcases hq with hq | ⟨hq, hq'⟩
          · go_upto_region 7 with fail
            have d0 := hR.cell 0 _ rfl
            have d1 := hR.cell 1 _ rfl
            have f0 := hR.frozen 0 (by simp)
            have f1 := hR.frozen 1 (by simp)
            have y0 := hC.cell 0 _ rfl
            have y1 := hC.cell 1 _ rfl
            have p1 := hR.put [.slice (some ⟨g, 0, none⟩) 4 cap, .slice (some ⟨d, 0, none⟩) 6 dcap] rfl
            have kz := kept_cells wr (w.heap.size + 1) 0 [.slice (some ⟨g, 0, none⟩) 4 cap, .slice (some ⟨d, 0, none⟩) 6 dcap]
            have SZ := hS.kept kz (fun y hy => by have := (hall y hy).2; simp; omega)
            have KZ : Kept (d :: g :: G) w (wr.setCells (w.heap.size + 1) 0 [.slice (some ⟨g, 0, none⟩) 4 cap, .slice (some ⟨d, 0, none⟩) 6 dcap]) := hK.then kz (fun y hy => by simp at hy; subst hy; right; omega)
            go_wp2
            refine bodyPost_ret (res_cell_mid Try.results111 _ _ (w.heap.size + 1) [.slice (some ⟨g, 0, none⟩) 4 cap, .slice (some ⟨d, 0, none⟩) 6 dcap] _ rfl p1.cells Try.underlying54 rfl (by kernel_rfl)) rfl ?_
            exact ⟨rfl, by rw [unhide HB2, unhide HK2]; exact SZ, KZ⟩
          · go_upto_region 7 with fail
            have d0 := hR.cell 0 _ rfl
            have d1 := hR.cell 1 _ rfl
            have f0 := hR.frozen 0 (by simp)
            have f1 := hR.frozen 1 (by simp)
            have y0 := hC.cell 0 _ rfl
            have y1 := hC.cell 1 _ rfl
            have p1 := hR.put [.slice (some ⟨g, 0, none⟩) 4 cap, .slice (some ⟨d, 0, none⟩) 6 dcap] rfl
            have kz := kept_cells wr (w.heap.size + 1) 0 [.slice (some ⟨g, 0, none⟩) 4 cap, .slice (some ⟨d, 0, none⟩) 6 dcap]
            have SZ := hS.kept kz (fun y hy => by have := (hall y hy).2; simp; omega)
            have KZ : Kept (d :: g :: G) w (wr.setCells (w.heap.size + 1) 0 [.slice (some ⟨g, 0, none⟩) 4 cap, .slice (some ⟨d, 0, none⟩) 6 dcap]) := hK.then kz (fun y hy => by simp at hy; subst hy; right; omega)
            go_wp2
            refine bodyPost_ret (res_cell_mid Try.results111 _ _ (w.heap.size + 1) [.slice (some ⟨g, 0, none⟩) 4 cap, .slice (some ⟨d, 0, none⟩) 6 dcap] _ rfl p1.cells Try.underlying54 rfl (by kernel_rfl)) rfl ?_
            exact ⟨rfl, by rw [unhide HB2, unhide HK2]; exact SZ, KZ⟩
        · have hE := unhide HE rfl
          clear HE
          rcases hq with hq | ⟨hq, hq'⟩
          · go_wp2_with fail
            refine (l6In_any cut 0 ((L.length : Int) - 1) wr).mono ?_
            rintro e w2 ⟨rfl, hw⟩
            obtain rfl := hw.symm
            rw [hE]
            have d0 := hR.cell 0 _ rfl
            have d1 := hR.cell 1 _ rfl
            have f0 := hR.frozen 0 (by simp)
            have f1 := hR.frozen 1 (by simp)
            have y0 := hC.cell 0 _ rfl
            have y1 := hC.cell 1 _ rfl
            have p1 := hR.put [.slice (some ⟨g, 0, none⟩) 4 cap, .slice (some ⟨d, 0, none⟩) 6 dcap] rfl
            have kz := kept_cells wr (w.heap.size + 1) 0 [.slice (some ⟨g, 0, none⟩) 4 cap, .slice (some ⟨d, 0, none⟩) 6 dcap]
            have SZ := hS.kept kz (fun y hy => by have := (hall y hy).2; simp; omega)
            have KZ : Kept (d :: g :: G) w (wr.setCells (w.heap.size + 1) 0 [.slice (some ⟨g, 0, none⟩) 4 cap, .slice (some ⟨d, 0, none⟩) 6 dcap]) := hK.then kz (fun y hy => by simp at hy; subst hy; right; omega)
            go_wp2
            refine bodyPost_ret (res_cell_mid Try.results111 _ _ (w.heap.size + 1) [.slice (some ⟨g, 0, none⟩) 4 cap, .slice (some ⟨d, 0, none⟩) 6 dcap] _ rfl p1.cells Try.underlying54 rfl (by kernel_rfl)) rfl ?_
            exact ⟨rfl, by rw [unhide HB2, unhide HK2]; exact SZ, KZ⟩
          · go_wp2_with fail
            refine (l6In_any cut 0 ((L.length : Int) - 1) wr).mono ?_
            rintro e w2 ⟨rfl, hw⟩
            obtain rfl := hw.symm
            rw [hE]
            have d0 := hR.cell 0 _ rfl
            have d1 := hR.cell 1 _ rfl
            have f0 := hR.frozen 0 (by simp)
            have f1 := hR.frozen 1 (by simp)
            have y0 := hC.cell 0 _ rfl
            have y1 := hC.cell 1 _ rfl
            have p1 := hR.put [.slice (some ⟨g, 0, none⟩) 4 cap, .slice (some ⟨d, 0, none⟩) 6 dcap] rfl
            have kz := kept_cells wr (w.heap.size + 1) 0 [.slice (some ⟨g, 0, none⟩) 4 cap, .slice (some ⟨d, 0, none⟩) 6 dcap]
            have SZ := hS.kept kz (fun y hy => by have := (hall y hy).2; simp; omega)
            have KZ : Kept (d :: g :: G) w (wr.setCells (w.heap.size + 1) 0 [.slice (some ⟨g, 0, none⟩) 4 cap, .slice (some ⟨d, 0, none⟩) 6 dcap]) := hK.then kz (fun y hy => by simp at hy; subst hy; right; omega)
            go_wp2
            refine bodyPost_ret (res_cell_mid Try.results111 _ _ (w.heap.size + 1) [.slice (some ⟨g, 0, none⟩) 4 cap, .slice (some ⟨d, 0, none⟩) 6 dcap] _ rfl p1.cells Try.underlying54 rfl (by kernel_rfl)) rfl ?_
            exact ⟨rfl, by rw [unhide HB2, unhide HK2]; exact SZ, KZ⟩
end Go.Proofs.Ytkikeapfjpnkgaa.ToA
