/-
  Texts that belong together, one behind the other: FlA, LawU.
-/
import Derived.Test.YtogfelpdgeionaaGreatHbA
import Derived.Test.YtogfelpdgeionaaGreatHaZ

/-
  The specification's steps by which the slow disk is told a value, and by which a value is filled.
-/
namespace Go.Proofs.YtogfelpdgeionaaGreat.FlA
open Go.ChangeShapes Go.WideShapes Go.ChangeAt Go.RowKit Go.Shelf OkA Big Fl ImplB ImplF ImplS _root_.Go.Proofs.YtogfelpdgeionaaGreat.Own ImplT ImplU SpecA SpecB SpecC SpecD SpecW SpecF SpecG SpecH Ok2 Pl FindP SpecX ImplL FindN FindL FindV Kp StA RmA WrA
set_option linter.unusedVariables false
set_option linter.unusedSimpArgs false
attribute [local go_sem ↓] Go.wp_at_zero Go.wp_at_succ

theorem stsForm {w : World} {lo : Nat} {v : Value} {l : List Stp} (h : Sts w lo v l) : ∃ a cap, v = .slice a l.length cap ∧ (l = [] ∨ ∃ g, a = some ⟨g, 0, none⟩ ∧ lo ≤ g ∧ g < w.heap.size ∧ w.rangeAt g 0 (stsC l)) := by
  obtain ⟨h1, h2⟩ := h.row
  rcases h2 with ⟨e, hn⟩ | ⟨g, cap, cur, e, hb, hh, r⟩
  · exact ⟨none, 0, by rw [e, hn], .inl (List.eq_nil_of_length_eq_zero hn)⟩
  · refine ⟨_, cap, e, ?_⟩
    cases l with
    | nil => exact .inl rfl
    | cons x r' =>
      subst e
      have hl := h.lt g rfl
      exact .inr ⟨g, rfl, hl.1, hl.2, (row_pages (by simp) h.row).1⟩
theorem writeP_len (bs : List Bk) (hF : Fours bs) (h4 : bs.length = 4) (k a v : Int) : (writeP bs k a v).length ≤ 6 := by
  unfold writeP
  split
  · have := roomL_len bs hF h4
    rw [List.length_append]; simp; omega
  · simp

set_option maxRecDepth 100000 in
set_option maxHeartbeats 2000000 in
theorem flush_steps (fb fo cap db dof dcap : Nat) (dk : List Int) (h6 : dk.length = 6) (addr : Int) (bs : List Bk) (w : World) (hok : okB bs = true) (hf : ∀ i (hi : i < bs.length), BkAt w fb (fo + i * 2) bs[i]) (hd : w.rangeAt db dof (isC dk)) :
    Calls Tryz.prog 105 #[.agg #[.slice (some ⟨fb, fo, none⟩) 4 cap, .slice (some ⟨db, dof, none⟩) 6 dcap], .int .i64 addr] w fun e w' => StpPost w (flushP bs dk addr) e w' := by
  have h4 := ok_len hok
  have hF := ok_fours hok
  have hfs : FsAt w (some ⟨fb, fo, none⟩) bs := .inr ⟨fb, fo, rfl, hf⟩
  have hdl : db < w.heap.size := cell_lt (isC_at hd 0 (by omega))
  have HDI : Hid (∀ w', Below w.heap.size w w' → Calls Tryz.prog 121 #[.agg #[.slice (some ⟨fb, fo, none⟩) 4 cap, .slice (some ⟨db, dof, none⟩) 6 dcap], .int .i64 addr] w' fun e w'' => e = .returned (.bool (dirtyB bs addr)) ∧ Below w'.heap.size w' w'') := fun w' hb => by
    have := dirty_any (some ⟨fb, fo, none⟩) cap (.slice (some ⟨db, dof, none⟩) 6 dcap) addr bs w' (hfs.below hb) (by omega) (fun b hb => by rw [hF b hb]; omega)
    rw [h4] at this; exact this
  have HRD : Hid (1 ≤ addr → addr ≤ 6 → ∀ w', Below w.heap.size w w' → Calls Tryz.prog 177 #[.agg #[.slice (some ⟨fb, fo, none⟩) 4 cap, .slice (some ⟨db, dof, none⟩) 6 dcap], .int .i64 addr] w' fun e w'' => e = .returned (.int .i64 (readI bs dk addr)) ∧ Below w'.heap.size w' w'') := fun a1 a2 w' hb => by
    have := read_any (some ⟨fb, fo, none⟩) cap db dof dcap dk h6 addr a1 a2 bs w' (hfs.below hb) (rangeAt_below hd hb hdl) (by omega) (fun b hb => by rw [hF b hb]; omega)
    rw [h4] at this; exact this
  have HWR := hide (fun (v : Int) (w' : World) (hb : Below w.heap.size w w') => write_steps fb fo cap (.slice (some ⟨db, dof, none⟩) 6 dcap) 2 addr v bs w' hok (fun i hi => (hf i hi).below hb))
  have HFP : Hid (flushP bs dk addr = if inB addr 1 6 && dirtyB bs addr then (if (writeP bs 2 addr (readI bs dk addr)).isEmpty then [] else diskS addr (readI bs dk addr) :: writeP bs 2 addr (readI bs dk addr)) else []) := rfl
  have HWL := hide (writeP_len bs hF h4 2 addr (readI bs dk addr))
  have HIN := hide (fun (w' : World) => l6In_any addr 1 6 w')
  have B0 : Below w.heap.size w (w.alloc (.cells #[.slice (some ⟨fb, fo, none⟩) 4 cap, .slice (some ⟨db, dof, none⟩) 6 dcap] 26)) := (Below.refl _ _).alloc (Nat.le_refl _) _
  have cS := store_box w (.slice (some ⟨fb, fo, none⟩) 4 cap) (.slice (some ⟨db, dof, none⟩) 6 dcap)
  have hs0 : w.heap.size + 1 = (w.alloc (.cells #[.slice (some ⟨fb, fo, none⟩) 4 cap, .slice (some ⟨db, dof, none⟩) 6 dcap] 26)).heap.size := by simp
  clear hf hfs hd hok
  generalize readI bs dk addr = rv at *
  go_enter Tryz.func105, Tryz.ntmps105
  cases hin : inB addr 1 6
  · have HE : Hid (flushP bs dk addr = []) := by show _ = _; rw [unhide HFP, hin]; rfl
    rw [hin] at HIN
    have nl := Sts.nil (w.alloc (.cells #[.slice (some ⟨fb, fo, none⟩) 4 cap, .slice (some ⟨db, dof, none⟩) 6 dcap] 26)) w.heap.size (by omega)
    rw [World.size_alloc] at nl
    have nB := B0.alloc B0.size (.cells #[] 50)
    clear hs0
    go_wp2_with fail
    refine (unhide HIN _).mono ?_
    rintro e w2 ⟨rfl, hw2⟩
    obtain rfl := hw2.symm
    go_wp2
    go_ret
    exact ⟨_, rfl, by rw [unhide HE]; exact nl, nB⟩
  · have HIR : 1 ≤ addr ∧ addr ≤ 6 := by simpa [inB] using hin
    have HRD2 := hide (unhide HRD HIR.1 HIR.2)
    have HIRh := hide HIR
    clear HRD HIR
    rw [hin] at HIN HFP
    rw [Bool.true_and] at HFP
    clear hin
    have x0 := cS.cell 0 _ rfl
    have x1 := cS.cell 1 _ rfl
    go_wp2_with fail
    refine (unhide HIN _).mono ?_
    rintro e w2 ⟨rfl, hw2⟩
    obtain rfl := hw2.symm
    go_wp2_with fail
    generalize w.alloc (.cells #[.slice (some ⟨fb, fo, none⟩) 4 cap, .slice (some ⟨db, dof, none⟩) 6 dcap] 26) = w1 at *
    refine (unhide HDI _ B0).mono ?_
    rintro e w2 ⟨rfl, b2⟩
    have B2 := B0.trans (b2.mono B0.size)
    have cS2 := cS.below b2 (by omega)
    have s2 : w.heap.size + 1 ≤ w2.heap.size := by have := b2.size; omega
    clear x0 x1 B0 b2 cS HDI
    have x0 := cS2.cell 0 _ rfl
    have x1 := cS2.cell 1 _ rfl
    generalize dirtyB bs addr = di at *
    cases di
    · have HE : Hid (flushP bs dk addr = []) := HFP
      have nl := Sts.nil w2 w.heap.size (by omega)
      have nB := B2.alloc B2.size (.cells #[] 50)
      go_wp2
      go_ret
      exact ⟨_, rfl, by rw [unhide HE]; exact nl, nB⟩
    · go_wp2_with fail
      refine (unhide HRD2 _ B2).mono ?_
      rintro e w3 ⟨rfl, b3⟩
      have B3 := B2.trans (b3.mono B2.size)
      have cS3 := cS2.below b3 (by omega)
      have s3 : w.heap.size + 1 ≤ w3.heap.size := by have := b3.size; omega
      clear x0 x1 B2 b3 cS2 HRD2
      have x0 := cS3.cell 0 _ rfl
      have x1 := cS3.cell 1 _ rfl
      go_wp2_with fail
      refine (unhide HWR rv _ B3).mono ?_
      rintro e w4 ⟨v, rfl, hS, b4⟩
      have B4 := B3.trans (b4.mono B3.size)
      have hS4 := hS.mono (show w.heap.size ≤ w3.heap.size by omega)
      clear x0 x1 B3 b4 cS3 hS HWR
      obtain ⟨va, vc, rfl, hform⟩ := stsForm hS4
      generalize writeP bs 2 addr rv = L at *
      by_cases hl0 : L.length = 0
      · have hL : L = [] := List.eq_nil_of_length_eq_zero hl0
        subst hL
        have HE : Hid (flushP bs dk addr = []) := HFP
        go_wp2
        go_ret
        exact ⟨_, rfl, by rw [unhide HE]; exact hS4, B4⟩
      · obtain ⟨g, rfl, hg1, hg2, hgr⟩ : ∃ g, va = some ⟨g, 0, none⟩ ∧ w.heap.size ≤ g ∧ g < w4.heap.size ∧ w4.rangeAt g 0 (stsC L) := by
          rcases hform with h | h
          · rw [h] at hl0; simp at hl0
          · exact h
        have HE : Hid (flushP bs dk addr = [diskS addr rv] ++ L) := by
          show _ = _
          have e1 : L.isEmpty = false := by cases L with
            | nil => simp at hl0
            | cons => rfl
          have := unhide HFP
          rw [e1] at this
          exact this
        have g0 : ((L.length : Int) == 0) = false := beq_eq_false_iff_ne.2 (by omega)
        have hlL := unhide HWL
        clear hform hl0
        have hB6 := B4.alloc B4.size (.cells (stC (diskS addr rv)).toArray 50)
        have hR6 : (w4.alloc (.cells (stC (diskS addr rv)).toArray 50)).ownsRow w4.heap.size 50 8 (.slice (some ⟨w4.heap.size, 0, none⟩) 1 1) 1 (stC (diskS addr rv)) := World.ownsRow_lit w4 (stC (diskS addr rv)).toArray 1 (Nat.le_refl _) (by simp [maxLen]) rfl
        have hgr6 := rangeAt_below hgr ((Below.refl w4.heap.size w4).alloc (Nat.le_refl _) (.cells (stC (diskS addr rv)).toArray 50)) hg2
        have hnw := src_mid hgr6
        have hlo : w4.heap.size ≤ (w4.alloc (.cells (stC (diskS addr rv)).toArray 50)).heap.size := by simp
        have hlen : (stsC L).length = L.length * 8 := len_stsC L
        have hone : ∀ u ∈ stsC L, u.oneCell' = true := by
          intro u hu
          simp only [stsC, List.mem_flatMap] at hu
          obtain ⟨y, _, hy⟩ := hu
          exact one_stC y u hy
        obtain ⟨iS, hiS, hzS, hsS, hbS⟩ := infoS
        have h4z := B4.size
        rw [show (stC (diskS addr rv)).toArray = #[.int .i64 1, .int .i64 addr, .int .i64 rv, .int .i64 0, .int .i64 0, .int .i64 0, .int .i64 0, .int .i64 0] from rfl] at *
        go_wp2_with (refine wpList_append_own _ rfl _ _ 29 rfl w4.heap.size 50 iS (.agg (stC zSt).toArray) 8 64 Tryz.underlying29 hiS hzS hsS hbS rfl (by omega) _ 1 (stC (diskS addr rv)) rfl hR6 ⟨g, 0, none⟩ L.length vc (stsC L) rfl hlen hnw hone (by simp [maxLen]; omega) (by omega) hlo ?_; intro v' w7 ho7 hg7 _)
        have P7 : Sts w7 w4.heap.size v' ([diskS addr rv] ++ L) ∧ Below w4.heap.size (w4.alloc (.cells #[.int .i64 1, .int .i64 addr, .int .i64 rv, .int .i64 0, .int .i64 0, .int .i64 0, .int .i64 0, .int .i64 0] 50)) w7 := by
          refine ⟨⟨?_, fun q e => ?_⟩, (Below.refl _ _).grown hg7 hlo (fun k e => by cases e; exact Nat.le_refl _)⟩
          · have e1 : stsC ([diskS addr rv] ++ L) = stC (diskS addr rv) ++ stsC L := by simp [stsC]
            rw [e1, List.length_append]; exact ho7
          · obtain ⟨_, h2⟩ := ho7
            rcases h2 with ⟨_, h2⟩ | ⟨g', cap', cur, rfl, hb, hh, _⟩
            · omega
            · simp [Value.ownBlock] at e
              subst e
              refine ⟨hb, ?_⟩
              by_cases hlt : g' < w7.heap.size
              · exact hlt
              · have : w7.heap[g']? = none := by simp; omega
                rw [this] at hh; cases hh
        go_ret
        exact ⟨_, rfl, by rw [unhide HE]; exact P7.1.mono h4z, hB6.trans (P7.2.mono h4z)⟩

set_option maxRecDepth 100000 in
set_option maxHeartbeats 2000000 in
theorem fill_steps (fb fo cap db dof dcap : Nat) (dk : List Int) (h6 : dk.length = 6) (addr : Int) (bs : List Bk) (w : World) (hok : okB bs = true) (hf : ∀ i (hi : i < bs.length), BkAt w fb (fo + i * 2) bs[i]) (hd : w.rangeAt db dof (isC dk)) :
    Calls Tryz.prog 110 #[.agg #[.slice (some ⟨fb, fo, none⟩) 4 cap, .slice (some ⟨db, dof, none⟩) 6 dcap], .int .i64 addr] w fun e w' => StpPost w (fillP bs dk addr) e w' := by
  have h4 := ok_len hok
  have hF := ok_fours hok
  have hfs : FsAt w (some ⟨fb, fo, none⟩) bs := .inr ⟨fb, fo, rfl, hf⟩
  have hdl : db < w.heap.size := cell_lt (isC_at hd 0 (by omega))
  have HLA : Hid (∀ w', Below w.heap.size w w' → Calls Tryz.prog 112 #[.slice (some ⟨fb, fo, none⟩) 4 cap, .int .i64 addr] w' fun e w'' => SpecL.LastPost w' bs addr e w'') := fun w' hb => by
    have := SpecL.last_any (some ⟨fb, fo, none⟩) cap bs addr w' (hfs.below hb) (by omega) (fun b hb => by rw [hF b hb]; omega)
    rw [h4] at this; exact this
  have HWR := hide (fun (v : Int) (w' : World) (hb : Below w.heap.size w w') => write_steps fb fo cap (.slice (some ⟨db, dof, none⟩) 6 dcap) 2 addr v bs w' hok (fun i hi => (hf i hi).below hb))
  have HFP : Hid (fillP bs dk addr = if inB addr 1 6 && !lastO bs addr then writeP bs 2 addr (dk.getD (addr - 1).toNat 0) else []) := rfl
  have HIN := hide (fun (w' : World) => l6In_any addr 1 6 w')
  have B0 : Below w.heap.size w (w.alloc (.cells #[.slice (some ⟨fb, fo, none⟩) 4 cap, .slice (some ⟨db, dof, none⟩) 6 dcap] 26)) := (Below.refl _ _).alloc (Nat.le_refl _) _
  have cS := store_box w (.slice (some ⟨fb, fo, none⟩) 4 cap) (.slice (some ⟨db, dof, none⟩) 6 dcap)
  have hs0 : w.heap.size + 1 = (w.alloc (.cells #[.slice (some ⟨fb, fo, none⟩) 4 cap, .slice (some ⟨db, dof, none⟩) 6 dcap] 26)).heap.size := by simp
  have HD := hide hd
  clear hf hfs hd hok
  go_enter Tryz.func110, Tryz.ntmps110
  cases hin : inB addr 1 6
  · have HE : Hid (fillP bs dk addr = []) := by show _ = _; rw [unhide HFP, hin]; rfl
    rw [hin] at HIN
    have nl := Sts.nil (w.alloc (.cells #[.slice (some ⟨fb, fo, none⟩) 4 cap, .slice (some ⟨db, dof, none⟩) 6 dcap] 26)) w.heap.size (by omega)
    rw [World.size_alloc] at nl
    have nB := B0.alloc B0.size (.cells #[] 50)
    clear hs0
    go_wp2_with fail
    refine (unhide HIN _).mono ?_
    rintro e w2 ⟨rfl, hw2⟩
    obtain rfl := hw2.symm
    go_wp2
    go_ret
    exact ⟨_, rfl, by rw [unhide HE]; exact nl, nB⟩
  · have HIR : 1 ≤ addr ∧ addr ≤ 6 := by simpa [inB] using hin
    rw [hin] at HIN HFP
    rw [Bool.true_and] at HFP
    clear hin
    obtain ⟨n, rfl⟩ : ∃ n : Nat, addr = (n : Int) + 1 := ⟨(addr - 1).toNat, by omega⟩
    have e1 : ((n : Int) + 1 - 1).toNat = n := by omega
    rw [e1] at HFP
    have HN6 : Hid (n < 6) := by show n < 6; omega
    clear HIR e1
    have x0 := cS.cell 0 _ rfl
    go_wp2_with fail
    refine (unhide HIN _).mono ?_
    rintro e w2 ⟨rfl, hw2⟩
    obtain rfl := hw2.symm
    go_wp2_with fail
    generalize w.alloc (.cells #[.slice (some ⟨fb, fo, none⟩) 4 cap, .slice (some ⟨db, dof, none⟩) 6 dcap] 26) = w1 at *
    refine (unhide HLA _ B0).mono ?_
    rintro e w2 ⟨rfl, b2⟩
    have B2 := B0.trans (b2.mono B0.size)
    have cS2 := cS.below b2 (by omega)
    have s2 : w.heap.size + 1 ≤ w2.heap.size := by have := b2.size; omega
    clear x0 B0 b2 cS HLA
    generalize lastO bs ((n : Int) + 1) = o at *
    generalize lastR bs ((n : Int) + 1) = r at *
    rw [show (rcC r).toArray = #[.int .i64 r.k, .int .i64 r.s, .int .i64 r.a, .int .i64 r.v] from rfl]
    have bn : Below w2.heap.size w2 (w2.alloc (.cells #[.int .i64 r.k, .int .i64 r.s, .int .i64 r.a, .int .i64 r.v] 35)) := (Below.refl _ _).alloc (Nat.le_refl _) _
    have cS3 := cS2.below bn (by omega)
    have B3 := B2.trans (bn.mono B2.size)
    have s3 : w.heap.size + 2 ≤ (w2.alloc (.cells #[.int .i64 r.k, .int .i64 r.s, .int .i64 r.a, .int .i64 r.v] 35)).heap.size := by simp; omega
    clear bn cS2 B2
    cases o
    rotate_left
    · have HE : Hid (fillP bs dk ((n : Int) + 1) = []) := HFP
      have nl := Sts.nil (w2.alloc (.cells #[.int .i64 r.k, .int .i64 r.s, .int .i64 r.a, .int .i64 r.v] 35)) w.heap.size (by omega)
      rw [World.size_alloc] at nl
      have nB := B3.alloc B3.size (.cells #[] 50)
      go_wp2
      go_ret
      exact ⟨_, rfl, by rw [unhide HE]; exact nl, nB⟩
    · have HE : Hid (fillP bs dk ((n : Int) + 1) = writeP bs 2 ((n : Int) + 1) (dk.getD n 0)) := HFP
      have dn := isC_at (unhide HD) n (by have := unhide HN6; omega)
      rw [← B3.cell (p := ⟨db, dof + n, none⟩) hdl] at dn
      have HWR2 := hide (unhide HWR (dk.getD n 0))
      rw [← unhide HE] at HWR2
      generalize dk.getD n 0 = dvn at *
      have hn0 : (0 : Int) ≤ (n : Int) := by omega
      have hn6 : (n : Int) < 6 := by have := unhide HN6; omega
      have e2 : ((n : Int) + 1 - 1) = (n : Int) := by omega
      have hwr : IntKind.i64.wrap (n : Int) = (n : Int) := by rw [IntKind.wrap_i64]; omega
      have x0 := cS3.cell 0 _ rfl
      have x1 := cS3.cell 1 _ rfl
      go_wp2_with fail
      generalize w2.alloc (.cells #[.int .i64 r.k, .int .i64 r.s, .int .i64 r.a, .int .i64 r.v] 35) = w3 at *
      refine wp_region_noPanic ?_
      refine wp_region_held_drew (S := fun w' => w'.cell? ⟨w.heap.size, 0, none⟩ = some (.slice (some ⟨fb, fo, none⟩) 4 cap) ∧ w'.cell? ⟨w.heap.size, 1, none⟩ = some (.slice (some ⟨db, dof, none⟩) 6 dcap) ∧ w'.cell? ⟨db, dof + n, none⟩ = some (.int .i64 dvn)) (by kernel_rfl) (⟨by simpa using x0, by simpa using x1, by simpa using dn⟩) (fun hHeld => ?_)
      refine takeL 0 (.agg #[.slice (some ⟨fb, fo, none⟩) 4 cap, .slice (some ⟨db, dof, none⟩) 6 dcap]) rfl (by kernel_rfl) (by kernel_rfl) (by kernel_rfl) (fun _ _ _ h => h) (Or.inl ⟨rfl, fun w9 hSw => by have hc0 := hSw.1; have hc1 := hSw.2.1; go_simp⟩) hHeld ?_
      try simp only [Act.put, List.setIfInBounds_toArray, List.set_cons_zero, List.set_cons_succ]
      refine takeL 1 (.int .i64 ((n : Int) + 1)) rfl (by kernel_rfl) (by kernel_rfl) (by kernel_rfl) (fun _ _ _ h => h) (Or.inl ⟨rfl, fun _ _ => rfl⟩) hHeld ?_
      try simp only [Act.put, List.setIfInBounds_toArray, List.set_cons_zero, List.set_cons_succ]
      refine takeL 2 (.pointer (some ⟨w.heap.size, 1, none⟩)) rfl (by kernel_rfl) (by kernel_rfl) (by kernel_rfl) (fun _ _ _ h => h) (Or.inl ⟨rfl, fun w9 hSw => by go_simp⟩) hHeld ?_
      try simp only [Act.put, List.setIfInBounds_toArray, List.set_cons_zero, List.set_cons_succ]
      refine takeL 3 (.slice (some ⟨db, dof, none⟩) 6 dcap) rfl (by kernel_rfl) (by kernel_rfl) (by kernel_rfl) (fun _ _ _ h => h) (Or.inl ⟨rfl, fun w9 hSw => by have hc := hSw.2.1; go_simp⟩) hHeld ?_
      try simp only [Act.put, List.setIfInBounds_toArray, List.set_cons_zero, List.set_cons_succ]
      refine takeL 4 (.int .i64 ((n : Int) + 1)) rfl (by kernel_rfl) (by kernel_rfl) (by kernel_rfl) (fun _ _ _ h => h) (Or.inl ⟨rfl, fun _ _ => rfl⟩) hHeld ?_
      try simp only [Act.put, List.setIfInBounds_toArray, List.set_cons_zero, List.set_cons_succ]
      refine takeL 5 (.int .i64 (n : Nat)) rfl (by kernel_rfl) (by kernel_rfl) (by kernel_rfl) (fun _ _ _ h => h) (Or.inl ⟨rfl, fun w9 hSw => by go_simp⟩) hHeld ?_
      try simp only [Act.put, List.setIfInBounds_toArray, List.set_cons_zero, List.set_cons_succ]
      refine takeL 6 (.pointer (some ⟨db, dof + n, none⟩)) rfl (by kernel_rfl) (by kernel_rfl) (by kernel_rfl) (fun _ _ _ h => h) (Or.inl ⟨rfl, fun w9 hSw => by go_simp⟩) hHeld ?_
      try simp only [Act.put, List.setIfInBounds_toArray, List.set_cons_zero, List.set_cons_succ]
      refine takeL 7 (.int .i64 dvn) rfl (by kernel_rfl) (by kernel_rfl) (by kernel_rfl) (fun _ _ _ h => h) (Or.inl ⟨rfl, fun w9 hSw => by have hc := hSw.2.2; go_simp⟩) hHeld ?_
      try simp only [Act.put, List.setIfInBounds_toArray, List.set_cons_zero, List.set_cons_succ]
      refine oneL 8 rfl (by kernel_rfl) rfl (fun K hK => ?_)
      go_simp
      refine (unhide HWR2 _ B3.drew).mono ?_
      rintro e w4 ⟨v, rfl, hS, b4⟩
      go_wp2_with fail
      have B4 := B3.drew.trans (b4.mono B3.drew.size)
      refine hK.out _ _ ⟨by rw [b4.cell (p := ⟨w.heap.size, 0, none⟩) (by show w.heap.size < w3.heap.size; omega)]; exact hHeld.1, by rw [b4.cell (p := ⟨w.heap.size, 1, none⟩) (by show w.heap.size < w3.heap.size; omega)]; exact hHeld.2.1, by rw [b4.cell (p := ⟨db, dof + n, none⟩) (by show db < w3.heap.size; omega)]; exact hHeld.2.2⟩ (fun hHeld => ?_)
      clear hK K
      try simp only [Act.put, List.setIfInBounds_toArray, List.set_cons_zero, List.set_cons_succ]
      refine takeL 9 (v) rfl (by kernel_rfl) (by kernel_rfl) (by kernel_rfl) (fun _ _ _ h => h) (Or.inl ⟨rfl, fun _ _ => rfl⟩) hHeld ?_
      try simp only [Act.put, List.setIfInBounds_toArray, List.set_cons_zero, List.set_cons_succ]
      refine wpAnyH_done (by kernel_rfl) ?_ _
      refine NoPanic.normal ?_
      go_wp2
      go_ret
      exact ⟨_, rfl, hS.mono (show w.heap.size ≤ w3.heap.size by omega), B4⟩
end Go.Proofs.YtogfelpdgeionaaGreat.FlA

/-
  The laws' helpers over lists of steps: how many; the same in memory of its own; whether two are the same; marks.
-/
namespace Go.Proofs.YtogfelpdgeionaaGreat.LawU
open Go.ChangeShapes Go.WideShapes Go.ChangeAt Go.RowKit Go.Shelf OkA Big Fl ImplB ImplF ImplS _root_.Go.Proofs.YtogfelpdgeionaaGreat.Own ImplT ImplU SpecA SpecB SpecC SpecD SpecW Ok2 Pl ImplL Kp StA StB StD StF StG RmA FlA LawsA LawsB LawsE LawV MarkB LawI LawT
set_option linter.unusedVariables false
set_option linter.unusedSimpArgs false
attribute [local go_sem ↓] Go.wp_at_zero Go.wp_at_succ

/-- A list of steps lies there. -/
def SsAt (w : World) (a : Option Addr) (l : List Stp) : Prop := l = [] ∨ ∃ b o, a = some ⟨b, o, none⟩ ∧ w.rangeAt b o (stsC l)
theorem stp_part (l : List Stp) (i : Nat) (hi : i < l.length) : ((stsC l).drop (i * 8)).take 8 = stC l[i] := part_of stC 8 l (fun _ _ => rfl) i hi
theorem stp_at {w : World} {gs so : Nat} {L : List Stp} (h : w.rangeAt gs so (stsC L)) (n : Nat) (hn : n < L.length) : w.rangeAt gs (so + n * 8) (stC L[n]) := by
  have := rangeAt_sub h (n * 8) 8
  rwa [stp_part L n hn] at this
theorem stsC_lt {w : World} {b o : Nat} {l : List Stp} (h : w.rangeAt b o (stsC l)) (hl : 0 < l.length) : b < w.heap.size := by
  cases l with
  | nil => simp at hl
  | cons x r => exact cell_lt (h 0 (.int .i64 x.kind) rfl)
theorem SsAt.below {w w' : World} {a : Option Addr} {l : List Stp} (h : SsAt w a l) (hb : Below w.heap.size w w') : SsAt w' a l := by
  rcases h with h | ⟨b, o, rfl, h⟩
  · exact .inl h
  · by_cases q : 0 < l.length
    · exact .inr ⟨b, o, rfl, rangeAt_below h hb (stsC_lt h q)⟩
    · exact .inl (List.length_eq_zero_iff.1 (by omega))
theorem SsAt.at {w : World} {a : Option Addr} {l : List Stp} (h : SsAt w a l) (k : Nat) (hk : k < l.length) : ∃ b o, a = some ⟨b, o, none⟩ ∧ w.rangeAt b (o + k * 8) (stC l[k]) ∧ b < w.heap.size := by
  rcases h with rfl | ⟨b, o, rfl, h⟩
  · simp at hk
  · exact ⟨b, o, rfl, stp_at h k hk, stsC_lt h (by omega)⟩
theorem size_st8 (x : Stp) : (Tryz.prog.info? 50).map (·.size) = some (stC x).length := by show _ = some 8; kernel_rfl
theorem size_st8a (x : Stp) : (Tryz.prog.info? 50).map (·.size) = some (stC x).toArray.size := by show _ = some 8; kernel_rfl
theorem one_st (x : Stp) : (stC x).toArray.all (·.oneCell') = true := all_oneCell_toArray (one_stC x)

set_option maxHeartbeats 400000 in
theorem eqStep_any (x : Stp) (w : World) :
    Calls Tryz.prog 130 #[.agg (stC x).toArray, .agg (stC x).toArray] w fun e w' => e = .returned (.bool true) ∧ Below w.heap.size w w' := by
  show Calls Tryz.prog 130 #[.agg #[.int .i64 x.kind, .int .i64 x.addr, .int .i64 x.val, .int .i64 x.blk, .int .i64 x.r.k, .int .i64 x.r.s, .int .i64 x.r.a, .int .i64 x.r.v], .agg #[.int .i64 x.kind, .int .i64 x.addr, .int .i64 x.val, .int .i64 x.blk, .int .i64 x.r.k, .int .i64 x.r.s, .int .i64 x.r.a, .int .i64 x.r.v]] w _
  go_enter Tryz.func130, Tryz.ntmps130
  go_wp2_with fail
  refine (eqRec_any _ _ _ _ _).mono ?_
  rintro e w1 ⟨rfl, b1⟩
  have B0 : ∀ x y, Below w.heap.size w ((w.alloc x).alloc y) := fun x y => ((Below.refl _ _).alloc (Nat.le_refl _) _).alloc (by simp) _
  have B1 := (B0 _ _).trans (b1.mono (B0 _ _).size)
  clear b1 B0
  go_wp2
  go_ret
  exact ⟨rfl, B1⟩

set_option maxHeartbeats 1000000 in
theorem eqStepS_any (a1 a2 : Option Addr) (cap1 cap2 : Nat) (l : List Stp) (w : World) (h1 : SsAt w a1 l) (h2 : SsAt w a2 l) (hl : l.length ≤ 1048576) :
    Calls Tryz.prog 55 #[.slice a1 l.length cap1, .slice a2 l.length cap2] w fun e w' => e = .returned (.bool true) ∧ Below w.heap.size w w' := by
  have hli : (l.length : Int) ≤ 1048576 := by omega
  have H1 := hide h1
  have H2 := hide h2
  clear h1 h2
  go_enter Tryz.func55, Tryz.ntmps55
  go_wp2
  go_loopw [5] (fun i w' => ∃ k : Nat, k ≤ l.length ∧ i = .int .i64 k ∧ Below w.heap.size w w') (fun i _ => l.length - (intOf i).toNat)
  case atStart => exact ⟨0, by omega, rfl, Below.refl _ _⟩
  case round =>
    obtain ⟨k, hk, rfl, bw⟩ := hrel
    by_cases h0 : k = l.length
    · subst h0
      go_wp2
      go_ret
      exact ⟨rfl, bw⟩
    · have hlt : (k : Int) < (l.length : Int) := by omega
      have hkb : k < l.length := by omega
      have hlo : (0 : Int) ≤ (k : Int) := by omega
      obtain ⟨b1, o1, rfl, x1, l1⟩ := ((unhide H1).below bw).at k hkb
      obtain ⟨b2, o2, rfl, x2, l2⟩ := ((unhide H2).below bw).at k hkb
      have HC := hide (eqStep_any l[k])
      have HS1 := hide (size_st8 l[k])
      have HS2 := hide (size_st8 l[k])
      generalize stC l[k] = pc at *
      go_wp2_with fail
      refine wp_region_noPanic ?_
      refine wp_region_held_drew (S := fun w' => w'.rangeAt b1 (o1 + k * 8) pc ∧ w'.rangeAt b2 (o2 + k * 8) pc) (by kernel_rfl) (⟨by simpa using x1, by simpa using x2⟩) (fun hHeld => ?_)
      refine takeL 0 (.slice (some ⟨b1, o1, none⟩) l.length cap1) rfl (by kernel_rfl) (by kernel_rfl) (by kernel_rfl) (fun _ _ _ h => h) (Or.inl ⟨rfl, fun _ _ => rfl⟩) hHeld ?_
      try simp only [Act.put, List.setIfInBounds_toArray, List.set_cons_zero, List.set_cons_succ]
      refine takeL 1 (.int .i64 k) rfl (by kernel_rfl) (by kernel_rfl) (by kernel_rfl) (fun _ _ _ h => h) (Or.inl ⟨rfl, fun _ _ => rfl⟩) hHeld ?_
      try simp only [Act.put, List.setIfInBounds_toArray, List.set_cons_zero, List.set_cons_succ]
      refine takeL 2 (.pointer (some ⟨b1, o1 + k * 8, none⟩)) rfl (by kernel_rfl) (by kernel_rfl) (by kernel_rfl) (fun _ _ _ h => h) (Or.inl ⟨rfl, fun w9 hSw => by go_simp⟩) hHeld ?_
      try simp only [Act.put, List.setIfInBounds_toArray, List.set_cons_zero, List.set_cons_succ]
      refine takeL 3 (_) rfl (by kernel_rfl) (by kernel_rfl) (by kernel_rfl) (fun _ _ _ h => h) (yieldsIf_load_mid rfl 50 _ rfl b1 (o1 + k * 8) rfl pc _ (fun _ h => h.1) Tryz.underlying50 rfl (unhide HS1)) hHeld ?_
      try simp only [Act.put, List.setIfInBounds_toArray, List.set_cons_zero, List.set_cons_succ]
      refine takeL 4 (.slice (some ⟨b2, o2, none⟩) l.length cap2) rfl (by kernel_rfl) (by kernel_rfl) (by kernel_rfl) (fun _ _ _ h => h) (Or.inl ⟨rfl, fun _ _ => rfl⟩) hHeld ?_
      try simp only [Act.put, List.setIfInBounds_toArray, List.set_cons_zero, List.set_cons_succ]
      refine takeL 5 (.int .i64 k) rfl (by kernel_rfl) (by kernel_rfl) (by kernel_rfl) (fun _ _ _ h => h) (Or.inl ⟨rfl, fun _ _ => rfl⟩) hHeld ?_
      try simp only [Act.put, List.setIfInBounds_toArray, List.set_cons_zero, List.set_cons_succ]
      refine takeL 6 (.pointer (some ⟨b2, o2 + k * 8, none⟩)) rfl (by kernel_rfl) (by kernel_rfl) (by kernel_rfl) (fun _ _ _ h => h) (Or.inl ⟨rfl, fun w9 hSw => by go_simp⟩) hHeld ?_
      try simp only [Act.put, List.setIfInBounds_toArray, List.set_cons_zero, List.set_cons_succ]
      refine takeL 7 (_) rfl (by kernel_rfl) (by kernel_rfl) (by kernel_rfl) (fun _ _ _ h => h) (yieldsIf_load_mid rfl 50 _ rfl b2 (o2 + k * 8) rfl pc _ (fun _ h => h.2) Tryz.underlying50 rfl (unhide HS2)) hHeld ?_
      try simp only [Act.put, List.setIfInBounds_toArray, List.set_cons_zero, List.set_cons_succ]
      refine oneL 8 rfl (by kernel_rfl) rfl (fun K hK => ?_)
      go_simp
      refine (unhide HC _).mono ?_
      rintro e wz ⟨rfl, bz⟩
      go_wp2_with fail
      refine hK.out _ _ ⟨rangeAt_below hHeld.1 bz (by simpa using l1), rangeAt_below hHeld.2 bz (by simpa using l2)⟩ (fun hHeld => ?_)
      clear hK K
      try simp only [Act.put, List.setIfInBounds_toArray, List.set_cons_zero, List.set_cons_succ]
      refine takeL 9 (.bool false) rfl (by kernel_rfl) (by kernel_rfl) (by kernel_rfl) (fun _ _ _ h => h) (Or.inl ⟨rfl, fun w9 hSw => by go_simp⟩) hHeld ?_
      try simp only [Act.put, List.setIfInBounds_toArray, List.set_cons_zero, List.set_cons_succ]
      refine wpAnyH_done (by kernel_rfl) ?_ _
      refine NoPanic.normal ?_
      have B2 := bw.drew.trans (bz.mono bw.size)
      clear bz bw x1 x2
      go_wp2
      go_roundw
      case rel => exact ⟨k + 1, by omega, by first | rfl | go_num, B2⟩
      case measure => simp [intOf]; omega

/-! Marks. -/
def mkS (m : Int) : Stp := ⟨m, m + 1, m + 2, m + 3, ⟨m + 4, m + 5, m + 6, m + 7⟩⟩
def mkSs (n : Nat) (k : Int) : List Stp := (List.range n).map fun i => mkS (k + 8 * (i : Nat))
theorem mkSs_len (n : Nat) (k : Int) : (mkSs n k).length = n := by simp [mkSs]
theorem mkSs_succ (n : Nat) (k : Int) : mkSs (n + 1) k = mkSs n k ++ [mkS (k + 8 * (n : Nat))] := by simp [mkSs, List.range_succ]
theorem mkSs_at (n : Nat) (k : Int) (i : Nat) (hi : i < (mkSs n k).length) : (mkSs n k)[i] = mkS (k + 8 * (i : Nat)) := by simp [mkSs]
theorem mark_step (w : World) (pb j : Nat) (k : Int) : w.setCells pb 0 (stsC (mkSs (j + 1) k)) =
    ((((((((w.setCells pb 0 (stsC (mkSs j k))).setCell ⟨pb, j * 8, none⟩ (.int .i64 (k + 8 * (j : Nat)))).setCell ⟨pb, j * 8 + 1, none⟩ (.int .i64 (k + 8 * (j : Nat) + 1))).setCell ⟨pb, j * 8 + 2, none⟩ (.int .i64 (k + 8 * (j : Nat) + 2))).setCell ⟨pb, j * 8 + 3, none⟩ (.int .i64 (k + 8 * (j : Nat) + 3))).setCell ⟨pb, j * 8 + 4, none⟩ (.int .i64 (k + 8 * (j : Nat) + 4))).setCell ⟨pb, j * 8 + 5, none⟩ (.int .i64 (k + 8 * (j : Nat) + 5))).setCell ⟨pb, j * 8 + 6, none⟩ (.int .i64 (k + 8 * (j : Nat) + 6))).setCell ⟨pb, j * 8 + 7, none⟩ (.int .i64 (k + 8 * (j : Nat) + 7)) := by
  have e : stsC (mkSs (j + 1) k) = stsC (mkSs j k) ++ stC (mkS (k + 8 * (j : Nat))) := by rw [mkSs_succ, stsC_one]
  rw [e, setCells_append, len_stsC, mkSs_len, Nat.zero_add]
  rfl

set_option maxRecDepth 100000 in
set_option maxHeartbeats 4000000 in
theorem markStepS_any (pb cap n : Nat) (k : Int) (w : World) (hk0 : 0 ≤ k) (hk1 : k ≤ 6000000000000) (hn : n ≤ 1048576) (ht : w.there pb 0 (n * 8)) :
    Calls Tryz.prog 58 #[.slice (some ⟨pb, 0, none⟩) n cap, .int .i64 k] w fun e w' => e = .returned (.int .i64 (k + 8 * (n : Nat))) ∧ w' = w.setCells pb 0 (stsC (mkSs n k)) := by
  have HT := hide ht
  have hni : (n : Int) ≤ 1048576 := by omega
  clear ht
  go_enter Tryz.func58, Tryz.ntmps58
  go_wp2
  go_loopw [5, 1] (fun i m w' => ∃ (j : Nat) (M : Int), j ≤ n ∧ i = .int .i64 j ∧ m = .int .i64 M ∧ M = k + 8 * (j : Nat) ∧ Hid (w' = w.setCells pb 0 (stsC (mkSs j k)))) (fun i _ _ => n - (intOf i).toNat)
  case atStart => exact ⟨0, k, by omega, rfl, rfl, by omega, rfl⟩
  case round =>
    obtain ⟨j, M, hj, rfl, rfl, hM, hw⟩ := hrel
    by_cases h0 : j = n
    · subst h0
      have HW := hw
      go_wp2
      go_ret
      exact ⟨by rw [hM]; rfl, unhide HW⟩
    · have hlt : (j : Int) < (n : Int) := by omega
      have hlo : (0 : Int) ≤ (j : Int) := by omega
      have tr : wr.there pb 0 (n * 8) := by rw [unhide hw]; exact World.there_setCells (unhide HT) _ _ _
      obtain ⟨v0, c0⟩ := there_some tr (j * 8) (by omega)
      obtain ⟨v1, c1⟩ := there_some tr (j * 8 + 1) (by omega)
      obtain ⟨v2, c2⟩ := there_some tr (j * 8 + 2) (by omega)
      obtain ⟨v3, c3⟩ := there_some tr (j * 8 + 3) (by omega)
      obtain ⟨v4, c4⟩ := there_some tr (j * 8 + 4) (by omega)
      obtain ⟨v5, c5⟩ := there_some tr (j * 8 + 5) (by omega)
      obtain ⟨v6, c6⟩ := there_some tr (j * 8 + 6) (by omega)
      obtain ⟨v7, c7⟩ := there_some tr (j * 8 + 7) (by omega)
      have f0 := (tr (j * 8) (by omega)).2
      have f1 := (tr (j * 8 + 1) (by omega)).2
      have f2 := (tr (j * 8 + 2) (by omega)).2
      have f3 := (tr (j * 8 + 3) (by omega)).2
      have f4 := (tr (j * 8 + 4) (by omega)).2
      have f5 := (tr (j * 8 + 5) (by omega)).2
      have f6 := (tr (j * 8 + 6) (by omega)).2
      have f7 := (tr (j * 8 + 7) (by omega)).2
      simp only [Nat.zero_add] at c0 c1 c2 c3 c4 c5 c6 c7 f0 f1 f2 f3 f4 f5 f6 f7
      have HM := hide (mark_step w pb j k)
      rw [← unhide hw, ← hM] at HM
      have hM0 : 0 ≤ M := by omega
      have hM1 : M ≤ 6000010000000 := by omega
      clear tr hw
      go_wp2
      go_roundw
      case rel =>
        refine ⟨j + 1, M + 8, by omega, by first | rfl | go_num, by first | rfl | go_num, by omega, ?_⟩
        show _ = _
        rw [unhide HM, hM]
        simp only [Nat.add_assoc, Int.add_assoc, Int.reduceAdd, Nat.reduceAdd]
      case measure => simp [intOf]; omega

theorem stC_cells {w : World} {b o : Nat} {x : Stp} (h : w.rangeAt b o (stC x)) :
    w.cell? ⟨b, o, none⟩ = some (.int .i64 x.kind) ∧ w.cell? ⟨b, o + 1, none⟩ = some (.int .i64 x.addr) ∧ w.cell? ⟨b, o + 2, none⟩ = some (.int .i64 x.val) ∧ w.cell? ⟨b, o + 3, none⟩ = some (.int .i64 x.blk) ∧ w.cell? ⟨b, o + 4, none⟩ = some (.int .i64 x.r.k) ∧ w.cell? ⟨b, o + 5, none⟩ = some (.int .i64 x.r.s) ∧ w.cell? ⟨b, o + 6, none⟩ = some (.int .i64 x.r.a) ∧ w.cell? ⟨b, o + 7, none⟩ = some (.int .i64 x.r.v) :=
  ⟨h 0 _ rfl, h 1 _ rfl, h 2 _ rfl, h 3 _ rfl, h 4 _ rfl, h 5 _ rfl, h 6 _ rfl, h 7 _ rfl⟩

set_option maxRecDepth 100000 in
set_option maxHeartbeats 2000000 in
theorem heldStepS_any (a : Option Addr) (cap n : Nat) (k : Int) (w : World) (hk0 : 0 ≤ k) (hk1 : k ≤ 6000000000000) (hn : n ≤ 1048576) (hr : SsAt w a (mkSs n k)) :
    Calls Tryz.prog 59 #[.slice a n cap, .int .i64 k] w fun e w' => e = .returned (.int .i64 (k + 8 * (n : Nat))) ∧ w' = w := by
  have HR := hide hr
  have hni : (n : Int) ≤ 1048576 := by omega
  clear hr
  go_enter Tryz.func59, Tryz.ntmps59
  go_wp2
  go_loop [5, 1] (fun i m => ∃ (j : Nat) (M : Int), j ≤ n ∧ i = .int .i64 j ∧ m = .int .i64 M ∧ M = k + 8 * (j : Nat)) (fun i _ => n - (intOf i).toNat)
  case atStart => exact ⟨0, k, by omega, rfl, rfl, by omega⟩
  case round =>
    obtain ⟨j, M, hj, rfl, rfl, hM⟩ := hrel
    by_cases h0 : j = n
    · subst h0
      go_wp2
      go_ret
      exact ⟨by first | rfl | (rw [hM]; rfl), rfl⟩
    · have hlt : (j : Int) < (n : Int) := by omega
      have hlo : (0 : Int) ≤ (j : Int) := by omega
      obtain ⟨b1, o1, rfl, x1, l1⟩ := (unhide HR).at j (by rw [mkSs_len]; omega)
      obtain ⟨c0, c1, c2, c3, c4, c5, c6, c7⟩ := stC_cells x1
      rw [mkSs_at, ← hM] at c0 c1 c2 c3 c4 c5 c6 c7
      simp only [mkS] at c0 c1 c2 c3 c4 c5 c6 c7
      have hM0 : 0 ≤ M := by omega
      have hM1 : M ≤ 6000010000000 := by omega
      have HM := hide hM
      clear hM x1
      go_wp2
      go_round
      case rel => exact ⟨j + 1, M + 8, by omega, by first | rfl | go_num, by first | rfl | go_num, by have := unhide HM; omega⟩
      case measure => simp [intOf]; omega
end Go.Proofs.YtogfelpdgeionaaGreat.LawU
