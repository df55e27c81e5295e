/-
  Texts that belong together, one behind the other: FindV, ImplN, ImplM, FindN.
-/
import Derived.Test.YtcmklcfedeeahaaQ11

/-
  FindLive, of the program and of the specification: both answer the same.
-/
namespace Go.Proofs.Ytcmklcfedeeahaa.FindV
open Go.ChangeShapes Go.WideShapes Go.ChangeAt Go.RowKit Go.Shelf OkA Big Fl ImplB ImplF ImplS _root_.Go.Proofs.Ytcmklcfedeeahaa.Own ImplT ImplU SpecA SpecB SpecC SpecD SpecW SpecF SpecG SpecH Ok2 Pl FindP SpecX ImplL FindL
set_option linter.unusedVariables false
set_option linter.unusedSimpArgs false
attribute [local go_sem ↓] Go.wp_at_zero Go.wp_at_succ

def pgAt (bs : List Bk) (blk pg : Int) : Pg := (bs.getD blk.toNat zBk).ps.getD pg.toNat zPg
/-- What FindLive answers. -/
def lvR (bs : List Bk) (blk pg : Int) : Bool := okB bs && inB blk 0 3 && inB pg 0 3 && liveB bs (pgAt bs blk pg)
theorem liveB_eq (bs : List Bk) (p : Pg) : liveB bs p = (p.st == 1 && ((lastR bs p.a).k == p.k && (lastR bs p.a).s == p.s && (lastR bs p.a).a == p.a && (lastR bs p.a).v == p.v)) := rfl

set_option maxRecDepth 100000 in
set_option maxHeartbeats 1000000 in
theorem live_any (a : Option Addr) (cap : Nat) (bs : List Bk) (p : Pg) (w : World) (hf : FsAt w a bs) (hm : bs.length ≤ 1048576) (hp : ∀ b ∈ bs, b.ps.length ≤ 1048576) :
    Calls Try.prog 115 #[.slice a bs.length cap, .agg #[.int .i64 p.st, .int .i64 p.k, .int .i64 p.s, .int .i64 p.a, .int .i64 p.v]] w fun e w' => e = .returned (.bool (liveB bs p)) ∧ Below w.heap.size w w' := by
  have B0 : Below w.heap.size w (w.alloc (.cells #[.int .i64 p.st, .int .i64 p.k, .int .i64 p.s, .int .i64 p.a, .int .i64 p.v] 75)) := (Below.refl _ _).alloc (Nat.le_refl _) _
  have cP : CsAt (w.alloc (.cells #[.int .i64 p.st, .int .i64 p.k, .int .i64 p.s, .int .i64 p.a, .int .i64 p.v] 75)) w.heap.size (pgC p) := CsAt.new w (pgC p) 75
  have hs0 : w.heap.size < (w.alloc (.cells #[.int .i64 p.st, .int .i64 p.k, .int .i64 p.s, .int .i64 p.a, .int .i64 p.v] 75)).heap.size := by simp
  have HLA := hide (SpecL.last_any a cap bs p.a _ (hf.below B0) hm hp)
  have HV := hide (liveB_eq bs p)
  clear hf
  generalize liveB bs p = R at *
  go_enter Try.func115, Try.ntmps115
  by_cases hst : p.st = 1
  · have g1 : (p.st != 1) = false := by simp [hst]
    have HST := hide hst
    clear hst
    go_wp2_with fail
    refine (unhide HLA).mono ?_
    rintro e w1 ⟨rfl, b1⟩
    generalize lastO bs p.a = o at *
    generalize lastR bs p.a = r at *
    have c1 := (cP.below b1 hs0).alloc (Nat.lt_of_lt_of_le hs0 b1.size) (.cells #[.int .i64 r.k, .int .i64 r.s, .int .i64 r.a, .int .i64 r.v] 59)
    have B1 := (B0.trans (b1.mono B0.size)).alloc (B0.trans (b1.mono B0.size)).size (.cells #[.int .i64 r.k, .int .i64 r.s, .int .i64 r.a, .int .i64 r.v] 59)
    clear b1 B0 cP hs0 HLA
    have x1 := c1.cell 1 _ rfl
    have x2 := c1.cell 2 _ rfl
    have x3 := c1.cell 3 _ rfl
    have x4 := c1.cell 4 _ rfl
    rw [show (rcC r).toArray = #[.int .i64 r.k, .int .i64 r.s, .int .i64 r.a, .int .i64 r.v] from rfl]
    rw [unhide HST] at HV
    obtain ⟨rk, rs, ra, rv⟩ := r
    dsimp only at *
    by_cases h1 : rk = p.k
    · subst h1
      by_cases h2 : rs = p.s
      · subst h2
        by_cases h3 : ra = p.a
        · subst h3
          by_cases h4 : rv = p.v
          · subst h4
            have HE : Hid (R = true) := by show _ = _; rw [unhide HV]; simp
            go_wp2
            go_ret
            exact ⟨by rw [unhide HE]; rfl, B1⟩
          · have HE : Hid (R = false) := by show _ = _; rw [unhide HV]; simp [h4]
            go_wp2
            go_ret
            exact ⟨by rw [unhide HE]; rfl, B1⟩
        · have HE : Hid (R = false) := by show _ = _; rw [unhide HV]; simp [h3]
          go_wp2
          go_ret
          exact ⟨by rw [unhide HE]; rfl, B1⟩
      · have HE : Hid (R = false) := by show _ = _; rw [unhide HV]; simp [h2]
        go_wp2
        go_ret
        exact ⟨by rw [unhide HE]; rfl, B1⟩
    · have HE : Hid (R = false) := by show _ = _; rw [unhide HV]; simp [h1]
      go_wp2
      go_ret
      exact ⟨by rw [unhide HE]; rfl, B1⟩
  · have g1 : (p.st != 1) = true := by simp [hst]
    have HE : Hid (R = false) := by show _ = _; rw [unhide HV]; simp [hst]
    clear hst
    go_wp2
    go_ret
    exact ⟨by rw [unhide HE]; rfl, B0⟩

set_option maxRecDepth 100000 in
set_option maxHeartbeats 1000000 in
theorem specLive_any (a : Option Addr) (cap : Nat) (blk pg : Int) (bs : List Bk) (w : World) (hf : FsAt w a bs) (hm : bs.length ≤ 1048576) (hp : ∀ b ∈ bs, b.ps.length ≤ 1048576) :
    Calls Try.prog 68 #[.slice a bs.length cap, .int .i64 blk, .int .i64 pg] w fun e w' => e = .returned (.bool (lvR bs blk pg)) ∧ Below w.heap.size w w' := by
  have HC := hide (specFlashOk_any a cap bs w hf hm)
  have HF := hide hf
  have HI := hide (fun (n : Int) (w' : World) => l6In_any n 0 3 w')
  have HV := hide (fun (p : Pg) (w' : World) (h : FsAt w' a bs) => live_any a cap bs p w' h hm hp)
  have HR : Hid (lvR bs blk pg = (okB bs && inB blk 0 3 && inB pg 0 3 && liveB bs (pgAt bs blk pg))) := rfl
  clear hf
  generalize lvR bs blk pg = R at *
  go_enter Try.func68, Try.ntmps68
  cases hok : okB bs
  · have HE : Hid (R = false) := by show _ = _; rw [unhide HR, hok]; rfl
    rw [hok] at HC
    go_wp2_with fail
    refine (unhide HC).mono ?_
    rintro e w1 ⟨rfl, b1⟩
    go_wp2
    go_ret
    exact ⟨by rw [unhide HE]; rfl, b1⟩
  · have HH := hide hok
    rw [hok] at HC
    cases hb : inB blk 0 3
    · have HE : Hid (R = false) := by show _ = _; rw [unhide HR, hok, hb]; rfl
      have HIB := hide (fun w' => unhide HI blk w')
      rw [hb] at HIB
      clear hok
      go_wp2_with fail
      refine (unhide HC).mono ?_
      rintro e w1 ⟨rfl, b1⟩
      go_wp2_with fail
      refine (unhide HIB _).mono ?_
      rintro e w2 ⟨rfl, hw2⟩
      obtain rfl := hw2.symm
      go_wp2
      go_ret
      exact ⟨by rw [unhide HE]; rfl, b1⟩
    · cases hg : inB pg 0 3
      · have HE : Hid (R = false) := by show _ = _; rw [unhide HR, hok, hb, hg]; rfl
        have HIB := hide (fun w' => unhide HI blk w')
        rw [hb] at HIB
        have HIG := hide (fun w' => unhide HI pg w')
        rw [hg] at HIG
        clear hok
        go_wp2_with fail
        refine (unhide HC).mono ?_
        rintro e w1 ⟨rfl, b1⟩
        go_wp2_with fail
        refine (unhide HIB _).mono ?_
        rintro e w2 ⟨rfl, hw2⟩
        obtain rfl := hw2.symm
        go_wp2_with fail
        refine (unhide HIG _).mono ?_
        rintro e w2 ⟨rfl, hw2⟩
        obtain rfl := hw2.symm
        go_wp2
        go_ret
        exact ⟨by rw [unhide HE]; rfl, b1⟩
      · have HE : Hid (R = liveB bs (pgAt bs blk pg)) := by show _ = _; rw [unhide HR, hok, hb, hg]; rfl
        have HIB := hide (fun w' => unhide HI blk w')
        rw [hb] at HIB
        have HIG := hide (fun w' => unhide HI pg w')
        rw [hg] at HIG
        simp only [inB, decide_eq_true_eq] at hb hg
        obtain ⟨hb0, hb3⟩ := hb
        obtain ⟨hg0, hg3⟩ := hg
        obtain ⟨k, rfl⟩ : ∃ k : Nat, blk = (k : Int) := ⟨blk.toNat, by omega⟩
        obtain ⟨j, rfl⟩ : ∃ j : Nat, pg = (j : Int) := ⟨pg.toNat, by omega⟩
        have h4 := ok_len hok
        have hF := ok_fours hok
        have hkb : k < bs.length := by omega
        have hb4 : bs[k].ps.length = 4 := hF.at k hkb
        have hjb : j < bs[k].ps.length := by omega
        have HPG : Hid (pgAt bs k j = bs[k].ps[j]) := by
          show _ = _
          unfold pgAt
          rw [Int.toNat_natCast, Int.toNat_natCast, getD_at bs k hkb, List.getD_eq_getElem?_getD, List.getElem?_eq_getElem hjb]; rfl
        obtain ⟨fb, fo, rfl, hfa⟩ := fs_at (unhide HF) h4
        obtain ⟨pa, pc, c0, c1, hps⟩ := hfa k hkb
        obtain ⟨pb, po, rfl, hr⟩ : ∃ pb po, pa = some ⟨pb, po, none⟩ ∧ w.rangeAt pb po (psC bs[k].ps) := by
          rcases hps with h | h
          · rw [h] at hb4; simp at hb4
          · exact h
        obtain ⟨m0, m1, m2, m3, m4⟩ := PsAt.cells hr j hjb
        rw [hb4] at c0
        rw [unhide HPG] at HE
        have H4 := hide h4
        have hlk : ((k : Nat) : Int) < (bs.length : Int) := by omega
        have hlj : ((j : Nat) : Int) < 4 := by omega
        clear hps hr c1 hfa hok HPG HR hF hb4 h4
        have lb : fb < w.heap.size := cell_lt c0
        have lp : pb < w.heap.size := cell_lt m0
        generalize bs[k].ps[j] = p at *
        go_wp2_with fail
        refine (unhide HC).mono ?_
        rintro e w1 ⟨rfl, b1⟩
        rw [← b1.cell (p := ⟨fb, fo + k * 2, none⟩) lb] at c0
        rw [← b1.cell (p := ⟨pb, po + j * 5, none⟩) lp] at m0
        rw [← b1.cell (p := ⟨pb, po + j * 5 + 1, none⟩) lp] at m1
        rw [← b1.cell (p := ⟨pb, po + j * 5 + 2, none⟩) lp] at m2
        rw [← b1.cell (p := ⟨pb, po + j * 5 + 3, none⟩) lp] at m3
        rw [← b1.cell (p := ⟨pb, po + j * 5 + 4, none⟩) lp] at m4
        have F1 := hide ((unhide HF).below b1)
        go_wp2_with fail
        refine (unhide HIB _).mono ?_
        rintro e w2 ⟨rfl, hw2⟩
        obtain rfl := hw2.symm
        go_wp2_with fail
        refine (unhide HIG _).mono ?_
        rintro e w2 ⟨rfl, hw2⟩
        obtain rfl := hw2.symm
        go_wp2_with fail
        refine (unhide HV p _ (unhide F1)).mono ?_
        rintro e w3 ⟨rfl, b3⟩
        rw [← unhide HE]
        go_wp2
        go_ret
        exact ⟨rfl, b1.trans (b3.mono b1.size)⟩

theorem range_pgV {w : World} {b o : Nat} {ps : List Pg} (h : w.rangeAt b o (psC ps)) (k : Nat) (hk : k < ps.length) : w.rangeAt b (o + k * 5) (pgC ps[k]) := by
  have := rangeAt_sub h (k * 5) 5
  rwa [part_ps ps k hk] at this
theorem size_pgV (p : Pg) : (Try.prog.info? 75).map (·.size) = some (pgC p).length := by rw [len_pgC]; kernel_rfl
set_option maxRecDepth 100000 in
set_option maxHeartbeats 2000000 in
theorem lives_any (ks : List Bk) (hk4 : ks.length = 4) (hkF : Fours ks) (p : Pg) (w : World) :
    Calls Try.prog 116 #[.agg (fsC ks).toArray, .agg (pgC p).toArray] w fun e w' => e = .returned (.bool (liveB ks p)) ∧ Below w.heap.size w w' := by
  rw [show (pgC p).toArray = #[.int .i64 p.st, .int .i64 p.k, .int .i64 p.s, .int .i64 p.a, .int .i64 p.v] from rfl]
  have HE := hide (liveB_eq ks p)
  generalize liveB ks p = R at *
  have HLA := hide (fun (w' : World) => callsIn_wide.1 (last_in ks p.a hk4 hkF w'))
  have HSF := hide (size_fsl hkF hk4)
  generalize lastR ks p.a = r at *
  have r1 := rangeAt_new w (fsC ks) 82
  have rK := rangeAt_below r1 ((Below.refl (w.alloc (.cells (fsC ks).toArray 82)).heap.size _).alloc (Nat.le_refl _) (.cells #[.int .i64 p.st, .int .i64 p.k, .int .i64 p.s, .int .i64 p.a, .int .i64 p.v] 75)) (by simp)
  have B2 : Below w.heap.size w ((w.alloc (.cells (fsC ks).toArray 82)).alloc (.cells #[.int .i64 p.st, .int .i64 p.k, .int .i64 p.s, .int .i64 p.a, .int .i64 p.v] 75)) := ((Below.refl _ _).alloc (Nat.le_refl _) _).alloc (by simp) _
  have cP : CsAt ((w.alloc (.cells (fsC ks).toArray 82)).alloc (.cells #[.int .i64 p.st, .int .i64 p.k, .int .i64 p.s, .int .i64 p.a, .int .i64 p.v] 75)) (w.heap.size + 1) (pgC p) := by
    have := CsAt.new (w.alloc (.cells (fsC ks).toArray 82)) (pgC p) 75
    rwa [World.size_alloc] at this
  have hsw : w.heap.size + 1 < ((w.alloc (.cells (fsC ks).toArray 82)).alloc (.cells #[.int .i64 p.st, .int .i64 p.k, .int .i64 p.s, .int .i64 p.a, .int .i64 p.v] 75)).heap.size := by simp
  go_enter Try.func116, Try.ntmps116
  go_wp2_with (refine wpList_box_big rfl _ _ rfl (fsC ks).toArray rfl ?_)
  clear r1
  generalize (w.alloc (.cells (fsC ks).toArray 82)).alloc (.cells #[.int .i64 p.st, .int .i64 p.k, .int .i64 p.s, .int .i64 p.a, .int .i64 p.v] 75) = w3 at *
  generalize hkb : w.heap.size = kb at *
  by_cases hst : p.st = 1
  · have g1 : (p.st == 1) = true := by simpa using hst
    have HS4 := hide (SpecL.size_rc (pgRc p))
    have HE2 : Hid (R = eqRc (pgRc p) r) := by
      show _ = _
      rw [unhide HE, hst]
      simp only [eqRc, pgRc, BEq.comm (a := r.k), BEq.comm (a := r.s), BEq.comm (a := r.a), BEq.comm (a := r.v)]
      simp
    clear hst HE
    refine wp_region_noPanic ?_
    refine wp_region_held_drew (S := fun w' => (CsAt w' (kb + 1) (pgC p) ∧ w'.rangeAt kb 0 (fsC ks)) ∧ kb + 1 < w'.heap.size) (by kernel_rfl) (⟨⟨⟨fun j v hv => cP.cells j v hv, fun j hj => cP.free j hj⟩, fun j v hv => rK j v hv⟩, hsw⟩) (fun hHeld => ?_)
    refine takeL 0 (.pointer (some ⟨kb + 1, 0, none⟩)) rfl (by kernel_rfl) (by kernel_rfl) (by kernel_rfl) (fun _ _ _ h => h) (Or.inl ⟨rfl, fun w9 hSw => by go_simp⟩) hHeld ?_
    try simp only [Act.put, List.setIfInBounds_toArray, List.set_cons_zero, List.set_cons_succ]
    refine takeL 1 (.int .i64 p.st) rfl (by kernel_rfl) (by kernel_rfl) (by kernel_rfl) (fun _ _ _ h => h) (Or.inl ⟨rfl, fun w9 hSw => by have hc := hSw.1.1.cell 0 _ rfl; go_simp⟩) hHeld ?_
    try simp only [Act.put, List.setIfInBounds_toArray, List.set_cons_zero, List.set_cons_succ]
    refine takeL 2 (.bool true) rfl (by kernel_rfl) (by kernel_rfl) (by kernel_rfl) (fun _ _ _ h => h) (Or.inl ⟨rfl, fun w9 hSw => by go_simp⟩) hHeld ?_
    try simp only [Act.put, List.setIfInBounds_toArray, List.set_cons_zero, List.set_cons_succ]
    refine takeL 3 (.bool true) rfl (by kernel_rfl) (by kernel_rfl) (by kernel_rfl) (fun _ _ _ h => h) (Or.inl ⟨rfl, fun _ _ => rfl⟩) hHeld ?_
    try simp only [Act.put, List.setIfInBounds_toArray, List.set_cons_zero, List.set_cons_succ]
    refine takeL 4 (.pointer (some ⟨kb + 1, 1, none⟩)) rfl (by kernel_rfl) (by kernel_rfl) (by kernel_rfl) (fun _ _ _ h => h) (Or.inl ⟨rfl, fun w9 hSw => by go_simp⟩) hHeld ?_
    try simp only [Act.put, List.setIfInBounds_toArray, List.set_cons_zero, List.set_cons_succ]
    refine takeL 5 (_) rfl (by kernel_rfl) (by kernel_rfl) (by kernel_rfl) (fun _ _ _ h => h) (yieldsIf_load_mid rfl 59 _ rfl (kb + 1) 1 rfl (rcC (pgRc p)) _ (fun _ h j v hv => by have := h.1.1.cells (1 + j) v (by simpa [pgC, rcC, pgRc, Nat.add_comm] using hv); simpa using this) Try.underlying59 rfl (unhide HS4)) hHeld ?_
    try simp only [Act.put, List.setIfInBounds_toArray, List.set_cons_zero, List.set_cons_succ]
    refine takeL 6 (_) rfl (by kernel_rfl) (by kernel_rfl) (by kernel_rfl) (fun _ _ _ h => h) (yieldsIf_load_mid rfl 82 _ rfl kb 0 rfl (fsC ks) _ (fun _ h => h.1.2) Try.underlying82 rfl (unhide HSF)) hHeld ?_
    try simp only [Act.put, List.setIfInBounds_toArray, List.set_cons_zero, List.set_cons_succ]
    refine takeL 7 (.pointer (some ⟨kb + 1, 1, none⟩)) rfl (by kernel_rfl) (by kernel_rfl) (by kernel_rfl) (fun _ _ _ h => h) (Or.inl ⟨rfl, fun w9 hSw => by go_simp⟩) hHeld ?_
    try simp only [Act.put, List.setIfInBounds_toArray, List.set_cons_zero, List.set_cons_succ]
    refine takeL 8 (.pointer (some ⟨kb + 1, 3, none⟩)) rfl (by kernel_rfl) (by kernel_rfl) (by kernel_rfl) (fun _ _ _ h => h) (Or.inl ⟨rfl, fun w9 hSw => by go_simp⟩) hHeld ?_
    try simp only [Act.put, List.setIfInBounds_toArray, List.set_cons_zero, List.set_cons_succ]
    refine takeL 9 (.int .i64 p.a) rfl (by kernel_rfl) (by kernel_rfl) (by kernel_rfl) (fun _ _ _ h => h) (Or.inl ⟨rfl, fun w9 hSw => by have hc := hSw.1.1.cell 3 _ rfl; go_simp⟩) hHeld ?_
    try simp only [Act.put, List.setIfInBounds_toArray, List.set_cons_zero, List.set_cons_succ]
    refine oneL 10 rfl (by kernel_rfl) rfl (fun K hK => ?_)
    go_simp
    refine (unhide HLA _).mono ?_
    rintro e w4 ⟨rfl, b4⟩
    go_wp2_with fail
    refine hK.out _ _ ⟨⟨hHeld.1.1.below b4 hHeld.2, rangeAt_below hHeld.1.2 b4 (Nat.lt_trans (Nat.lt_succ_self _) hHeld.2)⟩, Nat.lt_of_lt_of_le hHeld.2 b4.size⟩ (fun hHeld => ?_)
    clear hK K
    try simp only [Act.put, List.setIfInBounds_toArray, List.set_cons_zero, List.set_cons_succ]
    refine takeL 11 (.bool (eqRc (pgRc p) r)) rfl (by kernel_rfl) (by kernel_rfl) (by kernel_rfl) (fun _ _ _ h => h) (Or.inl ⟨rfl, fun w9 hSw => by unfold eqRc rcC pgRc; go_simp; by_cases q1 : p.k = r.k <;> by_cases q2 : p.s = r.s <;> by_cases q3 : p.a = r.a <;> by_cases q4 : p.v = r.v <;> simp [q1, q2, q3, q4]⟩) hHeld ?_
    try simp only [Act.put, List.setIfInBounds_toArray, List.set_cons_zero, List.set_cons_succ]
    refine takeL 12 (.bool (eqRc (pgRc p) r)) rfl (by kernel_rfl) (by kernel_rfl) (by kernel_rfl) (fun _ _ _ h => h) (Or.inl ⟨rfl, fun w9 hSw => by go_simp⟩) hHeld ?_
    try simp only [Act.put, List.setIfInBounds_toArray, List.set_cons_zero, List.set_cons_succ]
    refine takeL 13 (.bool (eqRc (pgRc p) r)) rfl (by kernel_rfl) (by kernel_rfl) (by kernel_rfl) (fun _ _ _ h => h) (Or.inl ⟨rfl, fun _ _ => rfl⟩) hHeld ?_
    try simp only [Act.put, List.setIfInBounds_toArray, List.set_cons_zero, List.set_cons_succ]
    refine wpAnyH_done (by kernel_rfl) ?_ _
    refine NoPanic.normal ?_
    go_wp2
    go_ret
    exact ⟨by rw [unhide HE2]; rfl, by rw [hkb]; exact B2.drew.trans (b4.mono (by rw [← hkb]; exact (hkb ▸ B2.drew).size))⟩
  · have g1 : (p.st == 1) = false := by simpa using hst
    have HE2 : Hid (R = false) := by show _ = _; rw [unhide HE, g1]; rfl
    clear hst HE
    refine wp_region_noPanic ?_
    refine wp_region_held_drew (S := fun w' => (CsAt w' (kb + 1) (pgC p) ∧ w'.rangeAt kb 0 (fsC ks)) ∧ kb + 1 < w'.heap.size) (by kernel_rfl) (⟨⟨⟨fun j v hv => cP.cells j v hv, fun j hj => cP.free j hj⟩, fun j v hv => rK j v hv⟩, hsw⟩) (fun hHeld => ?_)
    refine takeL 0 (.pointer (some ⟨kb + 1, 0, none⟩)) rfl (by kernel_rfl) (by kernel_rfl) (by kernel_rfl) (fun _ _ _ h => h) (Or.inl ⟨rfl, fun w9 hSw => by go_simp⟩) hHeld ?_
    try simp only [Act.put, List.setIfInBounds_toArray, List.set_cons_zero, List.set_cons_succ]
    refine takeL 1 (.int .i64 p.st) rfl (by kernel_rfl) (by kernel_rfl) (by kernel_rfl) (fun _ _ _ h => h) (Or.inl ⟨rfl, fun w9 hSw => by have hc := hSw.1.1.cell 0 _ rfl; go_simp⟩) hHeld ?_
    try simp only [Act.put, List.setIfInBounds_toArray, List.set_cons_zero, List.set_cons_succ]
    refine takeL 2 (.bool false) rfl (by kernel_rfl) (by kernel_rfl) (by kernel_rfl) (fun _ _ _ h => h) (Or.inl ⟨rfl, fun w9 hSw => by go_simp⟩) hHeld ?_
    try simp only [Act.put, List.setIfInBounds_toArray, List.set_cons_zero, List.set_cons_succ]
    refine takeL 3 (.bool false) rfl (by kernel_rfl) (by kernel_rfl) (by kernel_rfl) (fun _ _ _ h => h) (Or.inl ⟨rfl, fun _ _ => rfl⟩) hHeld ?_
    try simp only [Act.put, List.setIfInBounds_toArray, List.set_cons_zero, List.set_cons_succ]
    refine takeL 4 (undef) rfl (by kernel_rfl) (by kernel_rfl) (by kernel_rfl) (fun _ _ _ h => h) (Or.inr ⟨rfl, rfl⟩) hHeld ?_
    try simp only [Act.put, List.setIfInBounds_toArray, List.set_cons_zero, List.set_cons_succ]
    refine takeL 5 (undef) rfl (by kernel_rfl) (by kernel_rfl) (by kernel_rfl) (fun _ _ _ h => h) (Or.inr ⟨rfl, rfl⟩) hHeld ?_
    try simp only [Act.put, List.setIfInBounds_toArray, List.set_cons_zero, List.set_cons_succ]
    refine takeL 6 (undef) rfl (by kernel_rfl) (by kernel_rfl) (by kernel_rfl) (fun _ _ _ h => h) (Or.inr ⟨rfl, rfl⟩) hHeld ?_
    try simp only [Act.put, List.setIfInBounds_toArray, List.set_cons_zero, List.set_cons_succ]
    refine takeL 7 (undef) rfl (by kernel_rfl) (by kernel_rfl) (by kernel_rfl) (fun _ _ _ h => h) (Or.inr ⟨rfl, rfl⟩) hHeld ?_
    try simp only [Act.put, List.setIfInBounds_toArray, List.set_cons_zero, List.set_cons_succ]
    refine takeL 8 (undef) rfl (by kernel_rfl) (by kernel_rfl) (by kernel_rfl) (fun _ _ _ h => h) (Or.inr ⟨rfl, rfl⟩) hHeld ?_
    try simp only [Act.put, List.setIfInBounds_toArray, List.set_cons_zero, List.set_cons_succ]
    refine takeL 9 (undef) rfl (by kernel_rfl) (by kernel_rfl) (by kernel_rfl) (fun _ _ _ h => h) (Or.inr ⟨rfl, rfl⟩) hHeld ?_
    try simp only [Act.put, List.setIfInBounds_toArray, List.set_cons_zero, List.set_cons_succ]
    refine takeL 10 (undef) rfl (by kernel_rfl) (by kernel_rfl) (by kernel_rfl) (fun _ _ _ h => h) (Or.inr ⟨rfl, rfl⟩) hHeld ?_
    try simp only [Act.put, List.setIfInBounds_toArray, List.set_cons_zero, List.set_cons_succ]
    refine takeL 11 (undef) rfl (by kernel_rfl) (by kernel_rfl) (by kernel_rfl) (fun _ _ _ h => h) (Or.inr ⟨rfl, rfl⟩) hHeld ?_
    try simp only [Act.put, List.setIfInBounds_toArray, List.set_cons_zero, List.set_cons_succ]
    refine takeL 12 (.bool false) rfl (by kernel_rfl) (by kernel_rfl) (by kernel_rfl) (fun _ _ _ h => h) (Or.inl ⟨rfl, fun w9 hSw => by go_simp⟩) hHeld ?_
    try simp only [Act.put, List.setIfInBounds_toArray, List.set_cons_zero, List.set_cons_succ]
    refine takeL 13 (.bool false) rfl (by kernel_rfl) (by kernel_rfl) (by kernel_rfl) (fun _ _ _ h => h) (Or.inl ⟨rfl, fun _ _ => rfl⟩) hHeld ?_
    try simp only [Act.put, List.setIfInBounds_toArray, List.set_cons_zero, List.set_cons_succ]
    refine wpAnyH_done (by kernel_rfl) ?_ _
    refine NoPanic.normal ?_
    go_wp2
    go_ret
    exact ⟨by rw [unhide HE2]; rfl, by rw [hkb]; exact B2.drew⟩

set_option maxRecDepth 100000 in
set_option maxHeartbeats 2000000 in
theorem implLive_any (a : Option Addr) (cap : Nat) (blk pg : Int) (bs : List Bk) (w : World) (hf : FsAt w a bs) (hm : bs.length ≤ 9223372036854775807) :
    Calls Try.prog 69 #[.slice a bs.length cap, .int .i64 blk, .int .i64 pg] w fun e w' => e = .returned (.bool (lvR bs blk pg)) ∧ Below w.heap.size w w' := by
  obtain ⟨zf, hz, hz84⟩ := zrow
  have HZ := hide hz
  clear hz
  have HR : Hid (lvR bs blk pg = (okB bs && inB blk 0 3 && inB pg 0 3 && liveB bs (pgAt bs blk pg))) := rfl
  generalize lvR bs blk pg = R at *
  have HIG := hide (fun (w' : World) => within_any pg 0 3 w')
  go_enter Try.func69, Try.ntmps69
  go_wp2_with fail
  refine (at_any a cap blk bs _ hf hm).mono ?_
  rintro e w1 ⟨ks, rfl, hk4, hkF, hke, b1⟩
  have hsz : zf.size = (fsC ks).toArray.size := by rw [hz84, List.size_toArray, len_fsC _ hkF, hk4]
  have r1 := rangeAt_new w1 (fsC ks) 82
  have B1 := b1.alloc b1.size (.cells (fsC ks).toArray 82)
  clear b1
  cases hs : okB bs && inB blk 0 3
  · have HE : Hid (R = false) := by show _ = _; rw [unhide HR, hs]; rfl
    clear hs hke r1
    go_wp2_with (first | (refine wpList_alloc_big rfl 82 rfl zf (unhide HZ) ?_) | (refine wpList_store_new rfl 82 _ _ rfl w1 zf (fsC ks).toArray rfl rfl rfl (size_fsa hkF hk4) hsz (one_fs ks) ?_))
    go_ret
    exact ⟨by rw [unhide HE]; rfl, B1⟩
  · obtain rfl := hke hs
    cases hg : inB pg 0 3
    · have HE : Hid (R = false) := by show _ = _; rw [unhide HR, hs, hg]; rfl
      rw [hg] at HIG
      clear hs hke r1
      go_wp2_with (first | (refine wpList_alloc_big rfl 82 rfl zf (unhide HZ) ?_) | (refine wpList_store_new rfl 82 _ _ rfl w1 zf (fsC ks).toArray rfl rfl rfl (size_fsa hkF hk4) hsz (one_fs ks) ?_) | (go_at_call 84; refine (unhide HIG _).mono ?_; rintro e w' ⟨rfl, hw'⟩; obtain rfl := hw'.symm))
      go_ret
      exact ⟨by rw [unhide HE]; rfl, B1⟩
    · have HE : Hid (R = liveB ks (pgAt ks blk pg)) := by show _ = _; rw [unhide HR, hs, hg]; rfl
      rw [hg] at HIG
      have hs2 := hs
      rw [Bool.and_eq_true] at hs2
      obtain ⟨k, rfl, hk⟩ := in_range hs2.2
      obtain ⟨j, rfl, hj⟩ := in_range hg
      have hkb : k < ks.length := by omega
      have hb4 : ks[k].ps.length = 4 := hkF.at k hkb
      have hjb : j < ks[k].ps.length := by omega
      have HPG : Hid (pgAt ks k j = ks[k].ps[j]) := by
        show _ = _
        unfold pgAt
        rw [Int.toNat_natCast, Int.toNat_natCast, getD_at ks k hkb, List.getD_eq_getElem?_getD, List.getElem?_eq_getElem hjb]; rfl
      rw [unhide HPG] at HE
      have hk0 : (0 : Int) ≤ (k : Int) := by omega
      have hk3 : (k : Int) < 4 := by omega
      have hj0 : (0 : Int) ≤ (j : Int) := by omega
      have hj3 : (j : Int) < 4 := by omega
      generalize HPJ : ks[k].ps[j] = p at *
      have HLV := hide (lives_any ks hk4 hkF p)
      rw [← unhide HE] at HLV
      have HSF := hide (size_fsl hkF hk4)
      have HSP := hide (size_pgV p)
      have rP := range_pgV (range_bk (sub_fs hkF r1 k hkb)) j hjb
      rw [HPJ] at rP
      clear hs hs2 hke hg HPG HR
      go_wp2_with (first | (refine wpList_alloc_big rfl 82 rfl zf (unhide HZ) ?_) | (refine wpList_store_new rfl 82 _ _ rfl w1 zf (fsC ks).toArray rfl rfl rfl (size_fsa hkF hk4) hsz (one_fs ks) ?_) | (go_at_call 84; refine (unhide HIG _).mono ?_; rintro e w' ⟨rfl, hw'⟩; obtain rfl := hw'.symm))
      have hsw : w1.heap.size < (w1.alloc (.cells (fsC ks).toArray 82)).heap.size := by simp
      generalize w1.alloc (.cells (fsC ks).toArray 82) = w3 at *
      generalize w1.heap.size = kb at *
      refine wp_region_noPanic ?_
      refine wp_region_held_drew (S := fun w' => w'.rangeAt kb 0 (fsC ks) ∧ w'.rangeAt kb (k * 21 + j * 5) (pgC p)) (by kernel_rfl) (⟨fun j v hv => r1 j v hv, fun j v hv => rP j v hv⟩) (fun hHeld => ?_)
      refine takeL 0 (_) rfl (by kernel_rfl) (by kernel_rfl) (by kernel_rfl) (fun _ _ _ h => h) (yieldsIf_load_mid rfl 82 _ rfl kb 0 rfl (fsC ks) _ (fun _ h => h.1) Try.underlying82 rfl (unhide HSF)) hHeld ?_
      try simp only [Act.put, List.setIfInBounds_toArray, List.set_cons_zero, List.set_cons_succ]
      refine takeL 1 (.int .i64 k) rfl (by kernel_rfl) (by kernel_rfl) (by kernel_rfl) (fun _ _ _ h => h) (Or.inl ⟨rfl, fun _ _ => rfl⟩) hHeld ?_
      try simp only [Act.put, List.setIfInBounds_toArray, List.set_cons_zero, List.set_cons_succ]
      refine takeL 2 (.int .i64 j) rfl (by kernel_rfl) (by kernel_rfl) (by kernel_rfl) (fun _ _ _ h => h) (Or.inl ⟨rfl, fun _ _ => rfl⟩) hHeld ?_
      try simp only [Act.put, List.setIfInBounds_toArray, List.set_cons_zero, List.set_cons_succ]
      refine takeL 3 (.pointer (some ⟨kb, k * 21, none⟩)) rfl (by kernel_rfl) (by kernel_rfl) (by kernel_rfl) (fun _ _ _ h => h) (Or.inl ⟨rfl, fun w9 hSw => by go_simp⟩) hHeld ?_
      try simp only [Act.put, List.setIfInBounds_toArray, List.set_cons_zero, List.set_cons_succ]
      refine takeL 4 (.pointer (some ⟨kb, k * 21, none⟩)) rfl (by kernel_rfl) (by kernel_rfl) (by kernel_rfl) (fun _ _ _ h => h) (Or.inl ⟨rfl, fun w9 hSw => by go_simp⟩) hHeld ?_
      try simp only [Act.put, List.setIfInBounds_toArray, List.set_cons_zero, List.set_cons_succ]
      refine takeL 5 (.pointer (some ⟨kb, k * 21, none⟩)) rfl (by kernel_rfl) (by kernel_rfl) (by kernel_rfl) (fun _ _ _ h => h) (Or.inl ⟨rfl, fun w9 hSw => by go_simp⟩) hHeld ?_
      try simp only [Act.put, List.setIfInBounds_toArray, List.set_cons_zero, List.set_cons_succ]
      refine takeL 6 (.pointer (some ⟨kb, k * 21 + j * 5, none⟩)) rfl (by kernel_rfl) (by kernel_rfl) (by kernel_rfl) (fun _ _ _ h => h) (Or.inl ⟨rfl, fun w9 hSw => by go_simp⟩) hHeld ?_
      try simp only [Act.put, List.setIfInBounds_toArray, List.set_cons_zero, List.set_cons_succ]
      refine takeL 7 (_) rfl (by kernel_rfl) (by kernel_rfl) (by kernel_rfl) (fun _ _ _ h => h) (yieldsIf_load_mid rfl 75 _ rfl kb (k * 21 + j * 5) rfl (pgC p) _ (fun _ h => h.2) Try.underlying75 rfl (unhide HSP)) hHeld ?_
      try simp only [Act.put, List.setIfInBounds_toArray, List.set_cons_zero, List.set_cons_succ]
      refine oneL 8 rfl (by kernel_rfl) rfl (fun K hK => ?_)
      go_simp
      refine (unhide HLV _).mono ?_
      rintro e w4 ⟨rfl, b4⟩
      go_wp2_with fail
      refine hK.out _ _ ⟨rangeAt_below hHeld.1 b4 hsw, rangeAt_below hHeld.2 b4 hsw⟩ (fun hHeld => ?_)
      clear hK K
      try simp only [Act.put, List.setIfInBounds_toArray, List.set_cons_zero, List.set_cons_succ]
      refine takeL 9 (.bool R) rfl (by kernel_rfl) (by kernel_rfl) (by kernel_rfl) (fun _ _ _ h => h) (Or.inl ⟨rfl, fun _ _ => rfl⟩) hHeld ?_
      try simp only [Act.put, List.setIfInBounds_toArray, List.set_cons_zero, List.set_cons_succ]
      refine wpAnyH_done (by kernel_rfl) ?_ _
      refine NoPanic.normal ?_
      go_wp2
      go_ret
      exact ⟨rfl, B1.drew.trans (b4.mono B1.drew.size)⟩
end Go.Proofs.Ytcmklcfedeeahaa.FindV

/-
  The program's spans: the least and the greatest number of each block's records.
-/
namespace Go.Proofs.Ytcmklcfedeeahaa.ImplN
open Go.ChangeShapes Go.WideShapes Go.ChangeAt Go.RowKit Go.Shelf OkA Big Fl ImplB ImplF ImplS _root_.Go.Proofs.Ytcmklcfedeeahaa.Own ImplT ImplU SpecA SpecB SpecC SpecD SpecW SpecF SpecG SpecH Ok2 Pl FindP Rnd Iter ImplL ImplO
set_option linter.unusedVariables false
set_option linter.unusedSimpArgs false
attribute [local go_sem] Oper.semAt_some
attribute [local go_sem ↓] Go.wp_at_zero Go.wp_at_succ

set_option maxHeartbeats 400000 in
theorem none_any (x : Sp) (w : World) :
    Calls Try.prog 159 #[.agg #[.int .i64 x.1, .int .i64 x.2]] w fun e w' => e = .returned (.bool (x.2 == 0)) ∧ Below w.heap.size w w' := by
  go_enter Try.func159, Try.ntmps159
  go_wp2
  go_ret
  exact ⟨rfl, (Below.refl _ _).alloc (Nat.le_refl _) _⟩

def SpPost (w : World) (x : Sp) (e : Ending) (w' : World) : Prop := e = .returned (.agg #[.int .i64 x.1, .int .i64 x.2]) ∧ Below w.heap.size w w'
set_option maxHeartbeats 400000 in
theorem with_any (x : Sp) (s : Int) (w : World) :
    Calls Try.prog 157 #[.agg #[.int .i64 x.1, .int .i64 x.2], .int .i64 s] w fun e w' => SpPost w (withS x s) e w' := by
  have HW : Hid (withS x s = if x.2 = 0 then (s, s) else (if s < x.1 then s else x.1, if x.2 < s then s else x.2)) := rfl
  generalize withS x s = R at *
  obtain ⟨a, b⟩ := x
  simp only at HW
  have HN := hide (fun (w' : World) => none_any (a, b) w')
  have z0 := CsAt.new w [.int .i64 a, .int .i64 b] 147
  have z1 := CsAt.new (w.alloc (.cells #[.int .i64 a, .int .i64 b] 147)) [.int .i64 0, .int .i64 0] 147
  rw [World.size_alloc] at z1
  have y0 := z0.alloc (by simp) (.cells #[.int .i64 0, .int .i64 0] 147)
  have B0 : Below w.heap.size w ((w.alloc (.cells #[.int .i64 a, .int .i64 b] 147)).alloc (.cells #[.int .i64 0, .int .i64 0] 147)) := ((Below.refl _ _).alloc (Nat.le_refl _) _).alloc (by simp) _
  have s0 : ((w.alloc (.cells #[.int .i64 a, .int .i64 b] 147)).alloc (.cells #[.int .i64 0, .int .i64 0] 147)).heap.size = w.heap.size + 2 := by simp
  clear z0
  go_enter Try.func157, Try.ntmps157
  have hb : (b == 0) = true ∨ (b == 0) = false := by cases (b == 0) <;> simp
  rcases hb with hb | hb
  · have hb0 : b = 0 := by simpa using hb
    rw [if_pos hb0] at HW
    simp only [hb] at HN
    clear hb0 hb
    go_wp2_with fail
    refine (unhide HN _).mono ?_
    rintro e w1 ⟨rfl, b1⟩
    have x1 := CsAt.below (w' := w1) (b := w.heap.size + 1) z1 b1 (by omega)
    have B1 := B0.trans (b1.mono B0.size)
    clear b1 z1 y0 B0
    have d0 := x1.cell 0 _ rfl
    have d1 := x1.cell 1 _ rfl
    have f0 := x1.frozen 0 (by simp)
    have f1 := x1.frozen 1 (by simp)
    have p1 := x1.put [.int .i64 s, .int .i64 s] rfl
    have pB := below_setCells (w.heap.size + 1) (show w.heap.size ≤ w.heap.size + 1 by omega) [.int .i64 s, .int .i64 s] 0 w1 B1
    go_wp2
    refine bodyPost_ret (res_cell_mid Try.results157 _ _ (w.heap.size + 1) [.int .i64 s, .int .i64 s] _ rfl p1.cells Try.underlying147 rfl (by kernel_rfl)) rfl ?_
    exact ⟨by rw [unhide HW], pB⟩
  · have hb0 : ¬ b = 0 := by simpa using hb
    rw [if_neg hb0] at HW
    simp only [hb] at HN
    clear hb0 hb
    go_wp2_with fail
    refine (unhide HN _).mono ?_
    rintro e w1 ⟨rfl, b1⟩
    have x1 := CsAt.below (w' := w1) (b := w.heap.size + 1) z1 b1 (by omega)
    have x0 := CsAt.below (w' := w1) (b := w.heap.size) y0 b1 (by omega)
    have B1 := B0.trans (b1.mono B0.size)
    clear b1 z1 y0 B0
    have e0 := x0.cell 0 _ rfl
    have e1 := x0.cell 1 _ rfl
    have d0 := x1.cell 0 _ rfl
    have d1 := x1.cell 1 _ rfl
    have f0 := x1.frozen 0 (by simp)
    have f1 := x1.frozen 1 (by simp)
    by_cases h1 : s < a
    · rw [if_pos h1] at HW
      by_cases h2 : b < s
      · rw [if_pos h2] at HW
        have p1 := x1.put [.int .i64 s, .int .i64 s] rfl
        have pB := below_setCells (w.heap.size + 1) (show w.heap.size ≤ w.heap.size + 1 by omega) [.int .i64 s, .int .i64 s] 0 w1 B1
        go_wp2
        refine bodyPost_ret (res_cell_mid Try.results157 _ _ (w.heap.size + 1) [.int .i64 s, .int .i64 s] _ rfl p1.cells Try.underlying147 rfl (by kernel_rfl)) rfl ?_
        exact ⟨by rw [unhide HW], pB⟩
      · rw [if_neg h2] at HW
        have p1 := x1.put [.int .i64 s, .int .i64 b] rfl
        have pB := below_setCells (w.heap.size + 1) (show w.heap.size ≤ w.heap.size + 1 by omega) [.int .i64 s, .int .i64 b] 0 w1 B1
        go_wp2
        refine bodyPost_ret (res_cell_mid Try.results157 _ _ (w.heap.size + 1) [.int .i64 s, .int .i64 b] _ rfl p1.cells Try.underlying147 rfl (by kernel_rfl)) rfl ?_
        exact ⟨by rw [unhide HW], pB⟩
    · rw [if_neg h1] at HW
      by_cases h2 : b < s
      · rw [if_pos h2] at HW
        have p1 := x1.put [.int .i64 a, .int .i64 s] rfl
        have pB := below_setCells (w.heap.size + 1) (show w.heap.size ≤ w.heap.size + 1 by omega) [.int .i64 a, .int .i64 s] 0 w1 B1
        go_wp2
        refine bodyPost_ret (res_cell_mid Try.results157 _ _ (w.heap.size + 1) [.int .i64 a, .int .i64 s] _ rfl p1.cells Try.underlying147 rfl (by kernel_rfl)) rfl ?_
        exact ⟨by rw [unhide HW], pB⟩
      · rw [if_neg h2] at HW
        have p1 := x1.put [.int .i64 a, .int .i64 b] rfl
        have pB := below_setCells (w.heap.size + 1) (show w.heap.size ≤ w.heap.size + 1 by omega) [.int .i64 a, .int .i64 b] 0 w1 B1
        go_wp2
        refine bodyPost_ret (res_cell_mid Try.results157 _ _ (w.heap.size + 1) [.int .i64 a, .int .i64 b] _ rfl p1.cells Try.underlying147 rfl (by kernel_rfl)) rfl ?_
        exact ⟨by rw [unhide HW], pB⟩
end Go.Proofs.Ytcmklcfedeeahaa.ImplN

/-
  The program's spans of all blocks: the written pages, gone by by the iterator.
-/
namespace Go.Proofs.Ytcmklcfedeeahaa.ImplM
open Go.ChangeShapes Go.WideShapes Go.ChangeAt Go.RowKit Go.Shelf OkA Big Fl ImplB ImplF ImplS _root_.Go.Proofs.Ytcmklcfedeeahaa.Own ImplT ImplU SpecA SpecB SpecC SpecD SpecW SpecF SpecG SpecH Ok2 Pl FindP Rnd Iter ImplL ImplO ImplN
set_option linter.unusedVariables false
set_option linter.unusedSimpArgs false
attribute [local go_sem] Oper.semAt_some
attribute [local go_sem ↓] Go.wp_at_zero Go.wp_at_succ

theorem csAt_drew {w : World} {b : Nat} {cs : List Value} (h : CsAt w b cs) : CsAt w.drew b cs := ⟨fun j v hv => h.cells j v hv, fun j hj => h.free j hj⟩
theorem keeps_below {w w' : World} (h : Below w.heap.size w w') : KeepsOthers w w' := ⟨h.size, fun k o hk ho => (h.block k (Array.getElem?_eq_some_iff.1 hk).1).trans hk⟩
theorem keeps_drew (w : World) : KeepsOthers w w.drew := ⟨Nat.le_refl _, fun k o hk ho => hk⟩
theorem part_sps (l : List Sp) (i : Nat) (hi : i < l.length) : ((spsC l).drop (i * 2)).take 2 = spC l[i] := part_of spC 2 l (fun _ _ => rfl) i hi
theorem ext_sps (l : List Sp) (k : Nat) (hk : k < l.length) : (spsC l).toArray.extract ((k : Int).toNat * 2) ((k : Int).toNat * 2 + 2) = #[.int .i64 l[k].1, .int .i64 l[k].2] := by
  rw [Int.toNat_natCast]; exact extract_of _ _ _ _ (part_sps l k hk)
theorem csSpan {w : World} {b : Nat} {l : List Sp} (h : CsAt w b (spsC l)) (i : Nat) (hi : i < l.length) : w.rangeAt b (i * 2) (spC l[i]) := by
  have := rangeAt_sub h.cells (i * 2) 2
  rw [part_sps l i hi, Nat.zero_add] at this
  exact this
theorem csSpot {w : World} {b : Nat} {l : List Sp} (h : CsAt w b (spsC l)) (i : Nat) (hi : i < l.length) : w.there b (i * 2) 2 := by
  have := there_sub h.free (i * 2) 2 (by rw [len_spsC]; omega)
  rwa [Nat.zero_add] at this
theorem csLay {w : World} {b : Nat} {l : List Sp} (h : CsAt w b (spsC l)) (i : Nat) (hi : i < l.length) (y : Sp) : CsAt (w.setCells b (i * 2) (spC y)) b (spsC (l.set i y)) := by
  have := range_set spC 2 (fun _ _ => rfl) i hi y rfl h.cells (by rw [Nat.zero_add]; exact csSpot h i hi)
  rw [Nat.zero_add] at this
  refine ⟨this, ?_⟩
  rw [len_spsC, List.length_set, ← len_spsC]
  exact World.there_setCells h.free _ _ _
theorem size_sps {l : List Sp} (h : l.length = 4) : (Try.prog.info? 148).map (·.size) = some (spsC l).length := by rw [len_spsC, h]; kernel_rfl
theorem one_sps (l : List Sp) : (spsC l).toArray.all (·.oneCell') = true := all_oneCell_toArray (by
  intro v hv
  simp only [spsC, List.mem_flatMap, spC, List.mem_cons, List.not_mem_nil, or_false] at hv
  obtain ⟨y, _, rfl | rfl⟩ := hv <;> rfl)
def SsPost (w : World) (l : List Sp) (e : Ending) (w' : World) : Prop := e = .returned (.agg (spsC l).toArray) ∧ Below w.heap.size w w'

set_option maxRecDepth 100000 in
set_option maxHeartbeats 2000000 in
theorem spans_in (bs : List Bk) (h4 : bs.length = 4) (hF : Fours bs) (w : World) :
    CallsIn Fence.wide 9 Try.prog 146 #[.agg (fsC bs).toArray] w fun e w' => SsPost w (bs.map spB) e w' := by
  have HLR : Hid (spW zSp (wrA (blks bs)) = bs.map spB) := spW_all bs h4
  have HLL : Hid ((bs.map spB).length = 4) := by show _ = _; rw [List.length_map, h4]
  generalize bs.map spB = R at *
  refine callsIn_of_wp_marks Try.func146 rfl trivial ?_ rfl
  simp only [Try.ntmps146, List.size_toArray, List.length_cons, List.length_nil, Nat.reduceAdd, Nat.reduceSub, Array.replicate_succ, Array.replicate_zero, List.push_toArray, List.append_toArray, List.nil_append, List.cons_append]
  have HS := hide (size_fsl hF h4)
  have r0 := rangeAt_new w (fsC bs) 82
  have B1 : Below w.heap.size w (((w.alloc (.cells (fsC bs).toArray 82)).alloc (.cells (spsC zSp).toArray 148)).alloc (.cells (spsC zSp).toArray 148)) := (((Below.refl _ _).alloc (Nat.le_refl _) _).alloc (by simp) _).alloc (by simp; omega) _
  have r1 : (((w.alloc (.cells (fsC bs).toArray 82)).alloc (.cells (spsC zSp).toArray 148)).alloc (.cells (spsC zSp).toArray 148)).rangeAt w.heap.size 0 (fsC bs) := by
    refine rangeAt_below r0 (B := w.heap.size + 1) ?_ (by omega)
    exact ((Below.refl _ _).alloc (by simp) _).alloc (by simp) _
  have cR : CsAt (((w.alloc (.cells (fsC bs).toArray 82)).alloc (.cells (spsC zSp).toArray 148)).alloc (.cells (spsC zSp).toArray 148)) (w.heap.size + 1) (spsC zSp) := by
    have := (CsAt.new (w.alloc (.cells (fsC bs).toArray 82)) (spsC zSp) 148).alloc (by simp) (.cells (spsC zSp).toArray 148)
    rwa [World.size_alloc] at this
  have cL : CsAt (((w.alloc (.cells (fsC bs).toArray 82)).alloc (.cells (spsC zSp).toArray 148)).alloc (.cells (spsC zSp).toArray 148)) (w.heap.size + 1 + 1) (spsC zSp) := by
    have := CsAt.new ((w.alloc (.cells (fsC bs).toArray 82)).alloc (.cells (spsC zSp).toArray 148)) (spsC zSp) 148
    rwa [World.size_alloc, World.size_alloc] at this
  have s1 : (((w.alloc (.cells (fsC bs).toArray 82)).alloc (.cells (spsC zSp).toArray 148)).alloc (.cells (spsC zSp).toArray 148)).heap.size = w.heap.size + 1 + 1 + 1 := by simp
  rw [show (spsC zSp).toArray = #[Value.int .i64 0, .int .i64 0, .int .i64 0, .int .i64 0, .int .i64 0, .int .i64 0, .int .i64 0, .int .i64 0] from rfl] at B1 r1 cR cL s1
  gi_wp2_with (first | (refine one_in wide_in rfl (by intro c h; cases h) (fun Q' hq => wpList_box_big rfl _ _ rfl (fsC bs).toArray rfl hq) ?_) | (refine one_in wide_in rfl (by intro c h; cases h) (fun Q' hq => wpList_load_mid rfl 82 _ rfl w.heap.size 0 rfl (fsC bs) _ r1 Try.underlying82 rfl (unhide HS) hq) ?_))
  clear r0
  generalize ((w.alloc (.cells (fsC bs).toArray 82)).alloc (.cells #[Value.int .i64 0, .int .i64 0, .int .i64 0, .int .i64 0, .int .i64 0, .int .i64 0, .int .i64 0, .int .i64 0] 148)).alloc (.cells #[Value.int .i64 0, .int .i64 0, .int .i64 0, .int .i64 0, .int .i64 0, .int .i64 0, .int .i64 0, .int .i64 0] 148) = w1 at *
  refine ⟨trivial, (callsIn_wide.2 (written_any bs _)).mono ?_⟩
  rintro e w' ⟨rfl, rfl⟩
  gi_wp2
  have rK := rangeAt_new w1 (fsC bs) 82
  have B2 := B1.alloc B1.size (.cells (fsC bs).toArray 82)
  have cR2 := cR.alloc (by omega) (.cells (fsC bs).toArray 82)
  have cL2 := cL.alloc (by omega) (.cells (fsC bs).toArray 82)
  have s2 : (w1.alloc (.cells (fsC bs).toArray 82)).heap.size = w.heap.size + 4 := by rw [World.size_alloc, s1]
  have hk : w1.heap.size < (w1.alloc (.cells (fsC bs).toArray 82)).heap.size := by rw [World.size_alloc]; omega
  rw [s1] at rK hk
  clear B1 cR cL r1
  generalize w1.alloc (.cells (fsC bs).toArray 82) = w2 at *
  generalize hsz : w.heap.size = sz at *
  refine wpIn_rangeFunc_ownH (α := Wr) rfl (by omega) (gf := 156) (lb := #[.pointer (some ⟨sz + 1 + 1 + 1, 0, none⟩)]) rfl trivial (enters_of Try.func156 (by kernel_rfl) rfl)
    (written_stops 8 (sz + 1 + 1 + 1) bs h4 hF w2 hk rK) (fun _ _ => trivial) (fun _ _ _ _ _ _ _ _ => trivial) (Below.refl _ _) (fun _ => rfl)
    (fun pre W => CsAt W (sz + 1 + 1) (spsC (spW zSp pre)) ∧ CsAt W (sz + 1) (spsC zSp) ∧ Below sz w W ∧ sz + 4 ≤ W.heap.size)
    (fun _ _ _ => False)
    (OwnFrom.and (Own.from (own_cs (sz + 1 + 1) (fun pre => spsC (spW zSp pre))) _) (OwnFrom.and (Own.from (own_cs (sz + 1) (fun _ => spsC zSp)) _) (OwnFrom.and (ownFrom_below (by omega) (by omega)) (ownFrom_size (sz + 4)))))
    (fun _ _ _ _ _ hs _ _ => hs)
    ⟨cL2, cR2, B2, by omega⟩
    (fun x a' W => ∃ Bx, sz + 4 ≤ Bx ∧ CsAt W Bx (rcC x.2) ∧ a' = { tmps := #[.agg (fsC bs).toArray, .pointer (some ⟨sz, 0, none⟩), .pointer (some ⟨sz + 1, 0, none⟩), .pointer (some ⟨sz + 1 + 1, 0, none⟩), .int .i64 (x.1 : Nat), .pointer (some ⟨Bx, 0, none⟩), .agg (fsC bs).toArray, .func (.func 156) #[] #[.pointer (some ⟨sz + 1 + 1 + 1, 0, none⟩)], .int .i64 (x.1 : Nat), .agg (rcC x.2).toArray, undef, undef, undef, undef, undef, undef, undef, undef, undef], defers := [] })
    (fun x a' => Own.from (fun _ A B row hs hg hr => by obtain ⟨Bx, h1, h2, h3⟩ := hs; exact ⟨Bx, h1, h2.kept hg hr, h3⟩) _) ?assign ?body ?done ?stop
  case assign =>
    rintro l pre x W K ⟨hL, hR, hB, hs⟩ hK
    rw [show encW x = #[.int .i64 (x.1 : Nat), .agg #[.int .i64 x.2.k, .int .i64 x.2.s, .int .i64 x.2.a, .int .i64 x.2.v]] from rfl]
    gi_wp2
    exact hK _ _ ((KeepsOthers.alloc _ _).from _) trivial ⟨hL.alloc (by omega) _, hR.alloc (by omega) _, hB.alloc (by omega) _, by rw [World.size_alloc]; omega⟩ ⟨W.heap.size, hs, CsAt.new W (rcC x.2) 59, rfl⟩
  case body =>
    rintro l pre x a' W hl _ ⟨hL, hR, hB, hs⟩ ⟨Bx, hBx, hX, rfl⟩ hlt
    have HN := hide (spW_one zSp pre x)
    have hl4 : (spW zSp pre).length = 4 := by rw [spW_len]; rfl
    generalize spW zSp pre = L at *
    have hxl : (x.1 : Nat) < L.length := by omega
    have hx0 : (0 : Int) ≤ ((x.1 : Nat) : Int) := by omega
    have hx4 : ((x.1 : Nat) : Int) < 4 := by omega
    have HD : Hid (L.getD x.1 (0, 0) = L[(x.1 : Nat)]) := by show _ = _; rw [List.getD_eq_getElem?_getD, List.getElem?_eq_getElem hxl]; rfl
    have HC := hide (fun (w' : World) => with_any L[(x.1 : Nat)] x.2.s w')
    have hXl := hX.lt (by simp [rcC])
    have HSP := hide (show (Try.prog.info? 147).map (·.size) = some (spC L[(x.1 : Nat)]).length by show _ = some 2; kernel_rfl)
    gi_wp2_with fail
    refine region_held_in (S := fun w' => CsAt w' Bx (rcC x.2)) (by kernel_rfl) (by kernel_rfl) (by rintro ⟨_, _, h⟩; exact h) (csAt_drew hX) (fun hHeld => ?_)
    refine takeL 0 (.int .i64 (x.1 : Nat)) rfl (by kernel_rfl) (by kernel_rfl) (by kernel_rfl) (fun _ _ _ h => h) (Or.inl ⟨rfl, fun _ _ => rfl⟩) hHeld ?_
    try simp only [Act.put, List.setIfInBounds_toArray, List.set_cons_zero, List.set_cons_succ]
    refine takeL 1 (.int .i64 (x.1 : Nat)) rfl (by kernel_rfl) (by kernel_rfl) (by kernel_rfl) (fun _ _ _ h => h) (Or.inl ⟨rfl, fun _ _ => rfl⟩) hHeld ?_
    try simp only [Act.put, List.setIfInBounds_toArray, List.set_cons_zero, List.set_cons_succ]
    refine takeL 2 (.pointer (some ⟨sz + 1 + 1, (x.1 : Nat) * 2, none⟩)) rfl (by kernel_rfl) (by kernel_rfl) (by kernel_rfl) (fun _ _ _ h => h) (Or.inl ⟨rfl, fun w9 hSw => by go_simp⟩) hHeld ?_
    try simp only [Act.put, List.setIfInBounds_toArray, List.set_cons_zero, List.set_cons_succ]
    refine takeL 4 (.pointer (some ⟨Bx, 1, none⟩)) rfl (by kernel_rfl) (by kernel_rfl) (by kernel_rfl) (fun _ _ _ h => h) (Or.inl ⟨rfl, fun w9 hSw => by go_simp⟩) hHeld ?_
    try simp only [Act.put, List.setIfInBounds_toArray, List.set_cons_zero, List.set_cons_succ]
    refine takeL 5 (.int .i64 x.2.s) rfl (by kernel_rfl) (by kernel_rfl) (by kernel_rfl) (fun _ _ _ h => h) (Or.inl ⟨rfl, fun w9 hSw => by have hc := hSw.cell 1 _ rfl; go_simp⟩) hHeld ?_
    try simp only [Act.put, List.setIfInBounds_toArray, List.set_cons_zero, List.set_cons_succ]
    refine oneL 3 rfl (by kernel_rfl) rfl (fun K hK => ?_)
    refine wp_load_mid 147 _ rfl (sz + 1 + 1) ((x.1 : Nat) * 2) rfl (spC L[(x.1 : Nat)]) _ (csSpan (csAt_drew hL) x.1 hxl) Try.underlying147 rfl (unhide HSP) ?_
    refine hK.out _ _ hHeld (fun hHeld => ?_)
    clear hK K
    try simp only [Act.put, List.setIfInBounds_toArray, List.set_cons_zero, List.set_cons_succ]
    refine oneL 6 rfl (by kernel_rfl) rfl (fun K hK => ?_)
    go_simp
    refine (unhide HC _).mono ?_
    rintro e w4 ⟨rfl, b4⟩
    go_wp2_with fail
    refine hK.out _ _ (hHeld.below b4 (by simpa using hXl)) (fun hHeld => ?_)
    clear hK K
    try simp only [Act.put, List.setIfInBounds_toArray, List.set_cons_zero, List.set_cons_succ]
    refine takeL 7 (.pointer (some ⟨sz + 1 + 1, (x.1 : Nat) * 2, none⟩)) rfl (by kernel_rfl) (by kernel_rfl) (by kernel_rfl) (fun _ _ _ h => h) (Or.inl ⟨rfl, fun w9 hSw => by go_simp⟩) hHeld ?_
    try simp only [Act.put, List.setIfInBounds_toArray, List.set_cons_zero, List.set_cons_succ]
    refine oneL 8 rfl (by kernel_rfl) rfl (fun K hK => ?_)
    have hL4 := (csAt_drew hL).below b4 (show sz + 1 + 1 < W.heap.size by omega)
    have hR4 := (csAt_drew hR).below b4 (show sz + 1 < W.heap.size by omega)
    refine wp_store_mid 147 _ _ rfl (sz + 1 + 1) ((x.1 : Nat) * 2) (spC (withS L[(x.1 : Nat)] x.2.s)).toArray rfl rfl (csSpot hL4 x.1 hxl) (by show _ = some 2; kernel_rfl) (by kernel_rfl) ?_
    refine hK.out _ _ (hHeld.other (by omega) _ _) (fun hHeld => ?_)
    clear hK K
    try simp only [Act.put, List.setIfInBounds_toArray, List.set_cons_zero, List.set_cons_succ]
    refine wpAnyH_done (by kernel_rfl) ?_ _
    refine ⟨(((keeps_drew W).trans (keeps_below b4)).trans (keeps_setCells _ _ _ _)).from _, trivial, ?_, hR4.other (by omega) _ _, ?_, ?_⟩
    · rw [unhide HN, spS, unhide HD]; exact csLay hL4 x.1 hxl _
    · exact below_setCells (sz + 1 + 1) (by omega) _ _ _ (hB.drew.trans (b4.mono (show sz ≤ W.heap.size by omega)))
    · rw [size_setCells]; have := b4.size; simp at this; omega
  case done =>
    rintro D ys W hD rfl ⟨hL, hR, hB, hs⟩ hK
    rw [unhide HLR] at hL
    have HS1 := hide (size_sps (unhide HLL))
    have HS2 : Hid ((Try.prog.info? 148).map (·.size) = some (spsC R).toArray.size) := by show _ = _; rw [List.size_toArray]; exact unhide HS1
    have HO := hide (show (spsC R).toArray.all (·.oneCell') = true from all_oneCell_toArray (by
      intro v hv
      simp only [spsC, List.mem_flatMap, spC, List.mem_cons, List.not_mem_nil, or_false] at hv
      obtain ⟨y, _, rfl | rfl⟩ := hv <;> rfl))
    have hlen : (spsC R).length = (spsC zSp).length := by rw [len_spsC, unhide HLL]; rfl
    have pR := hR.put (spsC R) hlen
    have pB := below_setCells (sz + 1) (show sz ≤ sz + 1 by omega) (spsC R) 0 W hB
    have hK2 := (keeps_setCells (sz + 1) (spsC R) 0 W).same D _ hK rfl
    have tR : W.there (sz + 1) 0 (spsC R).toArray.size := by rw [List.size_toArray, hlen]; exact hR.free
    gi_wp2_with (first | (refine one_in wide_in rfl (by intro c h; cases h) (fun Q' hq => wpList_load_mid rfl 148 _ rfl (sz + 1 + 1) 0 rfl (spsC R) _ hL.cells Try.underlying148 rfl (unhide HS1) hq) ?_) | (refine one_in wide_in rfl (by intro c h; cases h) (fun Q' hq => wpList_plain rfl fun K hK => wp_store_mid 148 _ _ rfl (sz + 1) 0 (spsC R).toArray rfl rfl tR (unhide HS2) (unhide HO) (hK _ _ hq)) ?_))
    refine ⟨by simp, .inl ⟨_, _, rfl, run_takeDeferred hK2, ?_⟩⟩
    have pR2 := pR.kept (grownBy_putObj' _ D (.deferred none)) (fun r e => by cases e; exact ⟨_, hK2, rfl⟩)
    refine ⟨.agg (spsC R).toArray, ?_, rfl, ?_⟩
    · exact res_cell_mid Try.results146 _ _ (sz + 1) (spsC R) _ rfl pR2.cells Try.underlying148 rfl (unhide HS1)
    · rw [hsz]
      exact pB.trans (belowK_b (w := w) (by omega) _ D _ _ (by omega) hK2 rfl rfl)
  case stop =>
    rintro D c pre W _ _ h _
    exact h.elim
end Go.Proofs.Ytcmklcfedeeahaa.ImplM

/-
  FindNext, of the program and of the specification: both answer the same.
-/
namespace Go.Proofs.Ytcmklcfedeeahaa.FindN
open Go.ChangeShapes Go.WideShapes Go.ChangeAt Go.RowKit Go.Shelf OkA Big Fl ImplB ImplF ImplS _root_.Go.Proofs.Ytcmklcfedeeahaa.Own ImplT ImplU SpecA SpecB SpecC SpecD SpecW SpecF SpecG SpecH Ok2 Pl FindP ImplO SpecX ImplL ImplN ImplM
set_option linter.unusedVariables false
set_option linter.unusedSimpArgs false
attribute [local go_sem ↓] Go.wp_at_zero Go.wp_at_succ

def grL (l : List Sp) : Int := l.foldl (fun m x => mx m x.2) 0
theorem grL_take (l : List Sp) (j : Nat) (hj : j < l.length) : grL (l.take (j + 1)) = mx (grL (l.take j)) l[j].2 := by
  unfold grL
  rw [List.take_succ_eq_append_getElem hj, List.foldl_append]; rfl
theorem gr_most (bs : List Bk) (h : ∀ b ∈ bs, ∀ p ∈ b.ps, pgB p = true) : grL (bs.map spB) = mostB bs := by
  unfold grL mostB
  rw [List.foldl_map]
  have : ∀ (l : List Bk) (m : Int), (∀ b ∈ l, ∀ p ∈ b.ps, pgB p = true) → l.foldl (fun m b => mx m (spB b).2) m = l.foldl (fun m b => mx m (mostN b.ps)) m := by
    intro l
    induction l with
    | nil => intro m _; rfl
    | cons b r ih =>
      intro m hb
      rw [List.foldl_cons, List.foldl_cons, (spB_eq (hb b (by simp))).1]
      exact ih _ fun x hx => hb x (by simp [hx])
  exact this bs 0 h
theorem mostN_le (ps : List Pg) (h : ∀ p ∈ ps, pgB p = true) : 0 ≤ mostN ps ∧ mostN ps ≤ 600 := by
  have : ∀ (l : List Pg) (m : Int), 0 ≤ m → m ≤ 600 → (∀ p ∈ l, pgB p = true) → 0 ≤ l.foldl (fun m p => mx m p.s) m ∧ l.foldl (fun m p => mx m p.s) m ≤ 600 := by
    intro l
    induction l with
    | nil => intro m h0 h1 _; exact ⟨h0, h1⟩
    | cons p r ih =>
      intro m h0 h1 hp
      have hs := FindP.pg_seq (hp p (by simp))
      rw [List.foldl_cons]
      refine ih _ ?_ ?_ fun x hx => hp x (by simp [hx])
      · unfold mx; split <;> omega
      · unfold mx; split <;> omega
  exact this ps 0 (by omega) (by omega) h
theorem mostB_le (bs : List Bk) (h : ∀ b ∈ bs, ∀ p ∈ b.ps, pgB p = true) : 0 ≤ mostB bs ∧ mostB bs ≤ 600 := by
  have : ∀ (l : List Bk) (m : Int), 0 ≤ m → m ≤ 600 → (∀ b ∈ l, ∀ p ∈ b.ps, pgB p = true) → 0 ≤ l.foldl (fun m b => mx m (mostN b.ps)) m ∧ l.foldl (fun m b => mx m (mostN b.ps)) m ≤ 600 := by
    intro l
    induction l with
    | nil => intro m h0 h1 _; exact ⟨h0, h1⟩
    | cons b r ih =>
      intro m h0 h1 hp
      have hs := mostN_le b.ps (hp b (by simp))
      rw [List.foldl_cons]
      refine ih _ ?_ ?_ fun x hx => hp x (by simp [hx])
      · unfold mx; split <;> omega
      · unfold mx; split <;> omega
  exact this bs 0 (by omega) (by omega) h
/-- What FindNext answers. -/
def nextR (bs : List Bk) : Int := if okB bs then mostB bs + 1 else 0

set_option maxHeartbeats 1000000 in
theorem greatest_any (l : List Sp) (h4 : l.length = 4) (w : World) :
    Calls Try.prog 145 #[.agg (spsC l).toArray] w fun e w' => e = .returned (.int .i64 (grL l)) ∧ Below w.heap.size w w' := by
  have r0 := rangeAt_new w (spsC l) 148
  have b0 : Below w.heap.size w (w.alloc (.cells (spsC l).toArray 148)) := (Below.refl _ _).alloc (Nat.le_refl _) _
  have HG : Hid (grL (l.take 4) = grL l) := by show _ = _; rw [List.take_of_length_le (by omega)]
  go_enter Try.func145, Try.ntmps145
  go_wp2_with (first | (refine wpList_box_big rfl _ _ rfl (spsC l).toArray rfl ?_) | (refine wpList_load_mid rfl 148 _ rfl w.heap.size 0 rfl (spsC l) _ r0 Try.underlying148 rfl (size_sps h4) ?_))
  clear r0
  generalize hw1 : w.alloc (.cells (spsC l).toArray 148) = w1 at *
  clear hw1
  go_loopw [3, 7] (fun m i w' => ∃ k : Nat, k ≤ 4 ∧ i = .int .i64 k ∧ m = .int .i64 (grL (l.take k)) ∧ Below w.heap.size w w') (fun _ i _ => 4 - (intOf i).toNat)
  case atStart => exact ⟨0, by omega, rfl, rfl, b0⟩
  case round =>
    obtain ⟨k, hk, rfl, rfl, bw⟩ := hrel
    by_cases h0 : k = 4
    · subst h0
      go_wp2
      go_ret
      exact ⟨by rw [← unhide HG]; rfl, bw⟩
    · have hlt : (k : Int) < 4 := by omega
      have hkb : k < l.length := by omega
      have hlo : (0 : Int) ≤ (k : Int) := by omega
      have HE := hide (ext_sps l k hkb)
      have HT := hide (grL_take l k hkb)
      have hbz := bw.size
      generalize l[k] = x at *
      generalize hm : grL (l.take k) = m at *
      go_wp2_with (refine wpList_index_big rfl 148 _ _ rfl (spsC l).toArray _ (k : Int) rfl rfl 147 4 2 _ Try.underlying148 Try.underlying147 rfl (by kernel_rfl) hlo hlt (unhide HE) ?_)
      go_roundw
      case rel => exact ⟨k + 1, by omega, by first | rfl | go_num, by rw [unhide HT]; rfl, bw.alloc hbz _⟩
      case measure => simp [intOf]; omega

set_option maxHeartbeats 400000 in
theorem specNext_any (a : Option Addr) (cap : Nat) (bs : List Bk) (w : World) (hf : FsAt w a bs) (hm : bs.length ≤ 1048576) (hp : ∀ b ∈ bs, b.ps.length ≤ 1048576) :
    Calls Try.prog 70 #[.slice a bs.length cap] w fun e w' => e = .returned (.int .i64 (nextR bs)) ∧ Below w.heap.size w w' := by
  have HC := hide (specFlashOk_any a cap bs w hf hm)
  have HF := hide hf
  clear hf
  have HR : Hid (nextR bs = if okB bs then mostB bs + 1 else 0) := rfl
  generalize nextR bs = R at *
  cases hok : okB bs
  · rw [hok] at HC HR
    go_enter Try.func70, Try.ntmps70
    go_wp2_with fail
    refine (unhide HC).mono ?_
    rintro e w1 ⟨rfl, b1⟩
    go_wp2
    go_ret
    exact ⟨by rw [unhide HR]; rfl, b1⟩
  · have hmb := mostB_le bs (ok_pages hok)
    have HW : Hid (wrap64 (mostB bs + 1) = mostB bs + 1) := by show _ = _; unfold wrap64; omega
    rw [hok] at HC HR
    rw [if_pos rfl] at HR
    go_enter Try.func70, Try.ntmps70
    go_wp2_with fail
    refine (unhide HC).mono ?_
    rintro e w1 ⟨rfl, b1⟩
    go_wp2_with fail
    refine (next_any a cap bs _ ((unhide HF).below b1) hm hp).mono ?_
    rintro e w2 ⟨rfl, b2⟩
    rw [unhide HW, ← unhide HR]
    clear hmb
    go_wp2
    go_ret
    exact ⟨rfl, b1.trans (b2.mono b1.size)⟩

set_option maxHeartbeats 400000 in
theorem nextK_any (ks : List Bk) (hok : okB ks = true) (w : World) :
    Calls Try.prog 118 #[.agg (fsC ks).toArray] w fun e w' => e = .returned (.int .i64 (mostB ks + 1)) ∧ Below w.heap.size w w' := by
  have hk4 := ok_len hok
  have hkF := ok_fours hok
  have r1 := rangeAt_new w (fsC ks) 82
  have B1 : Below w.heap.size w (w.alloc (.cells (fsC ks).toArray 82)) := (Below.refl _ _).alloc (Nat.le_refl _) _
  have hmb := mostB_le ks (ok_pages hok)
  have HG := hide (gr_most ks (ok_pages hok))
  have HR : Hid (mostB ks + 1 = mostB ks + 1) := rfl
  generalize hRR : mostB ks + 1 = R at HR ⊢
  have HRR := hide hRR
  clear hRR HR
  go_enter Try.func118, Try.ntmps118
  go_wp2_with (first | (refine wpList_box_big rfl _ _ rfl (fsC ks).toArray rfl ?_) | (refine wpList_load_mid rfl 82 _ rfl w.heap.size 0 rfl (fsC ks) _ r1 Try.underlying82 rfl (size_fsl hkF hk4) ?_))
  refine (callsIn_wide.1 (spans_in ks hk4 hkF _)).mono ?_
  rintro e w2 ⟨rfl, b2⟩
  clear r1
  go_wp2_with fail
  refine (greatest_any (ks.map spB) (by rw [List.length_map, hk4]) _).mono ?_
  rintro e w3 ⟨rfl, b3⟩
  rw [unhide HG]
  generalize mostB ks = m at *
  go_wp2
  go_ret
  exact ⟨by rw [← unhide HRR]; rfl, B1.trans ((b2.mono B1.size).trans (b3.mono (B1.trans (b2.mono B1.size)).size))⟩

set_option maxHeartbeats 400000 in
theorem implNext_any (a : Option Addr) (cap : Nat) (bs : List Bk) (w : World) (hf : FsAt w a bs) (hm : bs.length ≤ 9223372036854775807) :
    Calls Try.prog 71 #[.slice a bs.length cap] w fun e w' => e = .returned (.int .i64 (nextR bs)) ∧ Below w.heap.size w w' := by
  obtain ⟨zf, hz, hz84⟩ := zrow
  have HZ := hide hz
  clear hz
  have HR : Hid (nextR bs = if okB bs then mostB bs + 1 else 0) := rfl
  generalize nextR bs = R at *
  go_enter Try.func71, Try.ntmps71
  go_wp2_with fail
  refine (ofz_any a cap bs _ hf hm).mono ?_
  rintro e w1 ⟨ks, rfl, hk4, hkF, hke, b1⟩
  have hsz : zf.size = (fsC ks).toArray.size := by rw [hz84, List.size_toArray, len_fsC _ hkF, hk4]
  have r1 := rangeAt_new w1 (fsC ks) 82
  have B1 := b1.alloc b1.size (.cells (fsC ks).toArray 82)
  clear b1
  cases hs : okB bs
  · rw [hs] at HR
    clear hs hke
    go_wp2_with (first | (refine wpList_alloc_big rfl 82 rfl zf (unhide HZ) ?_) | (refine wpList_store_new rfl 82 _ _ rfl w1 zf (fsC ks).toArray rfl rfl rfl (size_fsa hkF hk4) hsz (one_fs ks) ?_))
    go_ret
    exact ⟨by rw [unhide HR]; rfl, B1⟩
  · obtain rfl := hke hs
    have HN := hide (nextK_any ks hs)
    rw [hs, if_pos rfl] at HR
    rw [← unhide HR] at HN
    clear hs hke
    go_wp2_with (first | (refine wpList_alloc_big rfl 82 rfl zf (unhide HZ) ?_) | (refine wpList_store_new rfl 82 _ _ rfl w1 zf (fsC ks).toArray rfl rfl rfl (size_fsa hkF hk4) hsz (one_fs ks) ?_) | (refine wpList_load_mid rfl 82 _ rfl w1.heap.size 0 rfl (fsC ks) _ r1 Try.underlying82 rfl (size_fsl hkF hk4) ?_))
    refine (unhide HN _).mono ?_
    rintro e w2 ⟨rfl, b2⟩
    clear r1
    go_wp2
    go_ret
    exact ⟨rfl, B1.trans (b2.mono B1.size)⟩
end Go.Proofs.Ytcmklcfedeeahaa.FindN
