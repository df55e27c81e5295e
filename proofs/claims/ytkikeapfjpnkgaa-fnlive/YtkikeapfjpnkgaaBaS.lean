/-
  Texts that belong together, one behind the other: FindV, Gd.
-/
import Derived.Test.YtkikeapfjpnkgaaFindL
import Derived.Test.YtkikeapfjpnkgaaBaA

/-
  FindLive, of the program and of the specification: both answer the same.
-/
namespace Go.Proofs.Ytkikeapfjpnkgaa.FindV
open Go.ChangeShapes Go.WideShapes Go.ChangeAt Go.RowKit Go.Shelf OkA Big Fl ImplB ImplF ImplS _root_.Go.Proofs.Ytkikeapfjpnkgaa.Own ImplT ImplU SpecA SpecB SpecC SpecD SpecW SpecF SpecG SpecH Ok2 Pl FindP SpecX ImplL FindL
set_option linter.unusedVariables false
set_option linter.unusedSimpArgs false
attribute [local go_sem ↓] Go.wp_at_zero Go.wp_at_succ

def pgAt (bs : List Bk) (blk pg : Int) : Pg := (bs.getD blk.toNat zBk).ps.getD pg.toNat zPg
/-- What FindLive answers. -/
def lvR (bs : List Bk) (blk pg : Int) : Bool := okB bs && inB blk 0 3 && inB pg 0 3 && liveB bs (pgAt bs blk pg)
theorem liveB_eq (bs : List Bk) (p : Pg) : liveB bs p = (p.st == 1 && ((lastR bs p.a).k == p.k && (lastR bs p.a).s == p.s && (lastR bs p.a).a == p.a && (lastR bs p.a).v == p.v)) := rfl

set_option maxRecDepth 100000 in
set_option maxHeartbeats 1000000 in
theorem live_any (a : Option Addr) (cap : Nat) (bs : List Bk) (p : Pg) (w : World) (hf : FsAt w a bs) (hm : bs.length ≤ 1048576) (hp : ∀ b ∈ bs, b.ps.length ≤ 1048576) :
    Calls Try.prog 59 #[.slice a bs.length cap, .agg #[.int .i64 p.st, .int .i64 p.k, .int .i64 p.s, .int .i64 p.a, .int .i64 p.v]] w fun e w' => e = .returned (.bool (liveB bs p)) ∧ Below w.heap.size w w' := by
  have B0 : Below w.heap.size w (w.alloc (.cells #[.int .i64 p.st, .int .i64 p.k, .int .i64 p.s, .int .i64 p.a, .int .i64 p.v] 33)) := (Below.refl _ _).alloc (Nat.le_refl _) _
  have cP : CsAt (w.alloc (.cells #[.int .i64 p.st, .int .i64 p.k, .int .i64 p.s, .int .i64 p.a, .int .i64 p.v] 33)) w.heap.size (pgC p) := CsAt.new w (pgC p) 33
  have hs0 : w.heap.size < (w.alloc (.cells #[.int .i64 p.st, .int .i64 p.k, .int .i64 p.s, .int .i64 p.a, .int .i64 p.v] 33)).heap.size := by simp
  have HLA := hide (SpecL.last_any a cap bs p.a _ (hf.below B0) hm hp)
  have HV := hide (liveB_eq bs p)
  clear hf
  generalize liveB bs p = R at *
  go_enter Try.func59, Try.ntmps59
  by_cases hst : p.st = 1
  · have g1 : (p.st != 1) = false := by simp [hst]
    have HST := hide hst
    clear hst
    go_wp2_with fail
    refine (unhide HLA).mono ?_
    rintro e w1 ⟨rfl, b1⟩
    generalize lastO bs p.a = o at *
    generalize lastR bs p.a = r at *
    have c1 := (cP.below b1 hs0).alloc (Nat.lt_of_lt_of_le hs0 b1.size) (.cells #[.int .i64 r.k, .int .i64 r.s, .int .i64 r.a, .int .i64 r.v] 25)
    have B1 := (B0.trans (b1.mono B0.size)).alloc (B0.trans (b1.mono B0.size)).size (.cells #[.int .i64 r.k, .int .i64 r.s, .int .i64 r.a, .int .i64 r.v] 25)
    clear b1 B0 cP hs0 HLA
    have x1 := c1.cell 1 _ rfl
    have x2 := c1.cell 2 _ rfl
    have x3 := c1.cell 3 _ rfl
    have x4 := c1.cell 4 _ rfl
    rw [show (rcC r).toArray = #[.int .i64 r.k, .int .i64 r.s, .int .i64 r.a, .int .i64 r.v] from rfl]
    rw [unhide HST] at HV
    obtain ⟨rk, rs, ra, rv⟩ := r
    dsimp only at *
    by_cases h1 : rk = p.k
    · subst h1
      by_cases h2 : rs = p.s
      · subst h2
        by_cases h3 : ra = p.a
        · subst h3
          by_cases h4 : rv = p.v
          · subst h4
            have HE : Hid (R = true) := by show _ = _; rw [unhide HV]; simp
            go_wp2
            go_ret
            exact ⟨by rw [unhide HE]; rfl, B1⟩
          · have HE : Hid (R = false) := by show _ = _; rw [unhide HV]; simp [h4]
            go_wp2
            go_ret
            exact ⟨by rw [unhide HE]; rfl, B1⟩
        · have HE : Hid (R = false) := by show _ = _; rw [unhide HV]; simp [h3]
          go_wp2
          go_ret
          exact ⟨by rw [unhide HE]; rfl, B1⟩
      · have HE : Hid (R = false) := by show _ = _; rw [unhide HV]; simp [h2]
        go_wp2
        go_ret
        exact ⟨by rw [unhide HE]; rfl, B1⟩
    · have HE : Hid (R = false) := by show _ = _; rw [unhide HV]; simp [h1]
      go_wp2
      go_ret
      exact ⟨by rw [unhide HE]; rfl, B1⟩
  · have g1 : (p.st != 1) = true := by simp [hst]
    have HE : Hid (R = false) := by show _ = _; rw [unhide HV]; simp [hst]
    clear hst
    go_wp2
    go_ret
    exact ⟨by rw [unhide HE]; rfl, B0⟩

set_option maxRecDepth 100000 in
set_option maxHeartbeats 1000000 in
theorem specLive_any (a : Option Addr) (cap : Nat) (blk pg : Int) (bs : List Bk) (w : World) (hf : FsAt w a bs) (hm : bs.length ≤ 1048576) (hp : ∀ b ∈ bs, b.ps.length ≤ 1048576) :
    Calls Try.prog 26 #[.slice a bs.length cap, .int .i64 blk, .int .i64 pg] w fun e w' => e = .returned (.bool (lvR bs blk pg)) ∧ Below w.heap.size w w' := by
  have HC := hide (specFlashOk_any a cap bs w hf hm)
  have HF := hide hf
  have HI := hide (fun (n : Int) (w' : World) => l6In_any n 0 3 w')
  have HV := hide (fun (p : Pg) (w' : World) (h : FsAt w' a bs) => live_any a cap bs p w' h hm hp)
  have HR : Hid (lvR bs blk pg = (okB bs && inB blk 0 3 && inB pg 0 3 && liveB bs (pgAt bs blk pg))) := rfl
  clear hf
  generalize lvR bs blk pg = R at *
  go_enter Try.func26, Try.ntmps26
  cases hok : okB bs
  · have HE : Hid (R = false) := by show _ = _; rw [unhide HR, hok]; rfl
    rw [hok] at HC
    go_wp2_with fail
    refine (unhide HC).mono ?_
    rintro e w1 ⟨rfl, b1⟩
    go_wp2
    go_ret
    exact ⟨by rw [unhide HE]; rfl, b1⟩
  · have HH := hide hok
    rw [hok] at HC
    cases hb : inB blk 0 3
    · have HE : Hid (R = false) := by show _ = _; rw [unhide HR, hok, hb]; rfl
      have HIB := hide (fun w' => unhide HI blk w')
      rw [hb] at HIB
      clear hok
      go_wp2_with fail
      refine (unhide HC).mono ?_
      rintro e w1 ⟨rfl, b1⟩
      go_wp2_with fail
      refine (unhide HIB _).mono ?_
      rintro e w2 ⟨rfl, hw2⟩
      obtain rfl := hw2.symm
      go_wp2
      go_ret
      exact ⟨by rw [unhide HE]; rfl, b1⟩
    · cases hg : inB pg 0 3
      · have HE : Hid (R = false) := by show _ = _; rw [unhide HR, hok, hb, hg]; rfl
        have HIB := hide (fun w' => unhide HI blk w')
        rw [hb] at HIB
        have HIG := hide (fun w' => unhide HI pg w')
        rw [hg] at HIG
        clear hok
        go_wp2_with fail
        refine (unhide HC).mono ?_
        rintro e w1 ⟨rfl, b1⟩
        go_wp2_with fail
        refine (unhide HIB _).mono ?_
        rintro e w2 ⟨rfl, hw2⟩
        obtain rfl := hw2.symm
        go_wp2_with fail
        refine (unhide HIG _).mono ?_
        rintro e w2 ⟨rfl, hw2⟩
        obtain rfl := hw2.symm
        go_wp2
        go_ret
        exact ⟨by rw [unhide HE]; rfl, b1⟩
      · have HE : Hid (R = liveB bs (pgAt bs blk pg)) := by show _ = _; rw [unhide HR, hok, hb, hg]; rfl
        have HIB := hide (fun w' => unhide HI blk w')
        rw [hb] at HIB
        have HIG := hide (fun w' => unhide HI pg w')
        rw [hg] at HIG
        simp only [inB, decide_eq_true_eq] at hb hg
        obtain ⟨hb0, hb3⟩ := hb
        obtain ⟨hg0, hg3⟩ := hg
        obtain ⟨k, rfl⟩ : ∃ k : Nat, blk = (k : Int) := ⟨blk.toNat, by omega⟩
        obtain ⟨j, rfl⟩ : ∃ j : Nat, pg = (j : Int) := ⟨pg.toNat, by omega⟩
        have h4 := ok_len hok
        have hF := ok_fours hok
        have hkb : k < bs.length := by omega
        have hb4 : bs[k].ps.length = 4 := hF.at k hkb
        have hjb : j < bs[k].ps.length := by omega
        have HPG : Hid (pgAt bs k j = bs[k].ps[j]) := by
          show _ = _
          unfold pgAt
          rw [Int.toNat_natCast, Int.toNat_natCast, getD_at bs k hkb, List.getD_eq_getElem?_getD, List.getElem?_eq_getElem hjb]; rfl
        obtain ⟨fb, fo, rfl, hfa⟩ := fs_at (unhide HF) h4
        obtain ⟨pa, pc, c0, c1, hps⟩ := hfa k hkb
        obtain ⟨pb, po, rfl, hr⟩ : ∃ pb po, pa = some ⟨pb, po, none⟩ ∧ w.rangeAt pb po (psC bs[k].ps) := by
          rcases hps with h | h
          · rw [h] at hb4; simp at hb4
          · exact h
        obtain ⟨m0, m1, m2, m3, m4⟩ := PsAt.cells hr j hjb
        rw [hb4] at c0
        rw [unhide HPG] at HE
        have H4 := hide h4
        have hlk : ((k : Nat) : Int) < (bs.length : Int) := by omega
        have hlj : ((j : Nat) : Int) < 4 := by omega
        clear hps hr c1 hfa hok HPG HR hF hb4 h4
        have lb : fb < w.heap.size := cell_lt c0
        have lp : pb < w.heap.size := cell_lt m0
        generalize bs[k].ps[j] = p at *
        go_wp2_with fail
        refine (unhide HC).mono ?_
        rintro e w1 ⟨rfl, b1⟩
        rw [← b1.cell (p := ⟨fb, fo + k * 2, none⟩) lb] at c0
        rw [← b1.cell (p := ⟨pb, po + j * 5, none⟩) lp] at m0
        rw [← b1.cell (p := ⟨pb, po + j * 5 + 1, none⟩) lp] at m1
        rw [← b1.cell (p := ⟨pb, po + j * 5 + 2, none⟩) lp] at m2
        rw [← b1.cell (p := ⟨pb, po + j * 5 + 3, none⟩) lp] at m3
        rw [← b1.cell (p := ⟨pb, po + j * 5 + 4, none⟩) lp] at m4
        have F1 := hide ((unhide HF).below b1)
        go_wp2_with fail
        refine (unhide HIB _).mono ?_
        rintro e w2 ⟨rfl, hw2⟩
        obtain rfl := hw2.symm
        go_wp2_with fail
        refine (unhide HIG _).mono ?_
        rintro e w2 ⟨rfl, hw2⟩
        obtain rfl := hw2.symm
        go_wp2_with fail
        refine (unhide HV p _ (unhide F1)).mono ?_
        rintro e w3 ⟨rfl, b3⟩
        rw [← unhide HE]
        go_wp2
        go_ret
        exact ⟨rfl, b1.trans (b3.mono b1.size)⟩

theorem range_pgV {w : World} {b o : Nat} {ps : List Pg} (h : w.rangeAt b o (psC ps)) (k : Nat) (hk : k < ps.length) : w.rangeAt b (o + k * 5) (pgC ps[k]) := by
  have := rangeAt_sub h (k * 5) 5
  rwa [part_ps ps k hk] at this
theorem size_pgV (p : Pg) : (Try.prog.info? 33).map (·.size) = some (pgC p).length := by rw [len_pgC]; kernel_rfl
set_option maxRecDepth 100000 in
set_option maxHeartbeats 2000000 in
theorem lives_any (ks : List Bk) (hk4 : ks.length = 4) (hkF : Fours ks) (p : Pg) (w : World) :
    Calls Try.prog 58 #[.agg (fsC ks).toArray, .agg (pgC p).toArray] w fun e w' => e = .returned (.bool (liveB ks p)) ∧ Below w.heap.size w w' := by
  rw [show (pgC p).toArray = #[.int .i64 p.st, .int .i64 p.k, .int .i64 p.s, .int .i64 p.a, .int .i64 p.v] from rfl]
  have HE := hide (liveB_eq ks p)
  generalize liveB ks p = R at *
  have HLA := hide (fun (w' : World) => callsIn_wide.1 (last_in ks p.a hk4 hkF w'))
  have HSF := hide (size_fsl hkF hk4)
  generalize lastR ks p.a = r at *
  have r1 := rangeAt_new w (fsC ks) 75
  have rK := rangeAt_below r1 ((Below.refl (w.alloc (.cells (fsC ks).toArray 75)).heap.size _).alloc (Nat.le_refl _) (.cells #[.int .i64 p.st, .int .i64 p.k, .int .i64 p.s, .int .i64 p.a, .int .i64 p.v] 33)) (by simp)
  have B2 : Below w.heap.size w ((w.alloc (.cells (fsC ks).toArray 75)).alloc (.cells #[.int .i64 p.st, .int .i64 p.k, .int .i64 p.s, .int .i64 p.a, .int .i64 p.v] 33)) := ((Below.refl _ _).alloc (Nat.le_refl _) _).alloc (by simp) _
  have cP : CsAt ((w.alloc (.cells (fsC ks).toArray 75)).alloc (.cells #[.int .i64 p.st, .int .i64 p.k, .int .i64 p.s, .int .i64 p.a, .int .i64 p.v] 33)) (w.heap.size + 1) (pgC p) := by
    have := CsAt.new (w.alloc (.cells (fsC ks).toArray 75)) (pgC p) 33
    rwa [World.size_alloc] at this
  have hsw : w.heap.size + 1 < ((w.alloc (.cells (fsC ks).toArray 75)).alloc (.cells #[.int .i64 p.st, .int .i64 p.k, .int .i64 p.s, .int .i64 p.a, .int .i64 p.v] 33)).heap.size := by simp
  go_enter Try.func58, Try.ntmps58
  go_wp2_with (refine wpList_box_big rfl _ _ rfl (fsC ks).toArray rfl ?_)
  clear r1
  generalize (w.alloc (.cells (fsC ks).toArray 75)).alloc (.cells #[.int .i64 p.st, .int .i64 p.k, .int .i64 p.s, .int .i64 p.a, .int .i64 p.v] 33) = w3 at *
  generalize hkb : w.heap.size = kb at *
  by_cases hst : p.st = 1
  · have g1 : (p.st == 1) = true := by simpa using hst
    have HS4 := hide (SpecL.size_rc (pgRc p))
    have HE2 : Hid (R = eqRc (pgRc p) r) := by
      show _ = _
      rw [unhide HE, hst]
      simp only [eqRc, pgRc, BEq.comm (a := r.k), BEq.comm (a := r.s), BEq.comm (a := r.a), BEq.comm (a := r.v)]
      simp
    clear hst HE
    refine wp_region_noPanic ?_
    refine wp_region_held_drew (S := fun w' => (CsAt w' (kb + 1) (pgC p) ∧ w'.rangeAt kb 0 (fsC ks)) ∧ kb + 1 < w'.heap.size) (by kernel_rfl) (⟨⟨⟨fun j v hv => cP.cells j v hv, fun j hj => cP.free j hj⟩, fun j v hv => rK j v hv⟩, hsw⟩) (fun hHeld => ?_)
    refine takeL 0 (.pointer (some ⟨kb + 1, 0, none⟩)) rfl (by kernel_rfl) (by kernel_rfl) (by kernel_rfl) (fun _ _ _ h => h) (Or.inl ⟨rfl, fun w9 hSw => by go_simp⟩) hHeld ?_
    try simp only [Act.put, List.setIfInBounds_toArray, List.set_cons_zero, List.set_cons_succ]
    refine takeL 1 (.int .i64 p.st) rfl (by kernel_rfl) (by kernel_rfl) (by kernel_rfl) (fun _ _ _ h => h) (Or.inl ⟨rfl, fun w9 hSw => by have hc := hSw.1.1.cell 0 _ rfl; go_simp⟩) hHeld ?_
    try simp only [Act.put, List.setIfInBounds_toArray, List.set_cons_zero, List.set_cons_succ]
    refine takeL 2 (.bool true) rfl (by kernel_rfl) (by kernel_rfl) (by kernel_rfl) (fun _ _ _ h => h) (Or.inl ⟨rfl, fun w9 hSw => by go_simp⟩) hHeld ?_
    try simp only [Act.put, List.setIfInBounds_toArray, List.set_cons_zero, List.set_cons_succ]
    refine takeL 3 (.bool true) rfl (by kernel_rfl) (by kernel_rfl) (by kernel_rfl) (fun _ _ _ h => h) (Or.inl ⟨rfl, fun _ _ => rfl⟩) hHeld ?_
    try simp only [Act.put, List.setIfInBounds_toArray, List.set_cons_zero, List.set_cons_succ]
    refine takeL 4 (.pointer (some ⟨kb + 1, 1, none⟩)) rfl (by kernel_rfl) (by kernel_rfl) (by kernel_rfl) (fun _ _ _ h => h) (Or.inl ⟨rfl, fun w9 hSw => by go_simp⟩) hHeld ?_
    try simp only [Act.put, List.setIfInBounds_toArray, List.set_cons_zero, List.set_cons_succ]
    refine takeL 5 (_) rfl (by kernel_rfl) (by kernel_rfl) (by kernel_rfl) (fun _ _ _ h => h) (yieldsIf_load_mid rfl 25 _ rfl (kb + 1) 1 rfl (rcC (pgRc p)) _ (fun _ h j v hv => by have := h.1.1.cells (1 + j) v (by simpa [pgC, rcC, pgRc, Nat.add_comm] using hv); simpa using this) Try.underlying25 rfl (unhide HS4)) hHeld ?_
    try simp only [Act.put, List.setIfInBounds_toArray, List.set_cons_zero, List.set_cons_succ]
    refine takeL 6 (_) rfl (by kernel_rfl) (by kernel_rfl) (by kernel_rfl) (fun _ _ _ h => h) (yieldsIf_load_mid rfl 75 _ rfl kb 0 rfl (fsC ks) _ (fun _ h => h.1.2) Try.underlying75 rfl (unhide HSF)) hHeld ?_
    try simp only [Act.put, List.setIfInBounds_toArray, List.set_cons_zero, List.set_cons_succ]
    refine takeL 7 (.pointer (some ⟨kb + 1, 1, none⟩)) rfl (by kernel_rfl) (by kernel_rfl) (by kernel_rfl) (fun _ _ _ h => h) (Or.inl ⟨rfl, fun w9 hSw => by go_simp⟩) hHeld ?_
    try simp only [Act.put, List.setIfInBounds_toArray, List.set_cons_zero, List.set_cons_succ]
    refine takeL 8 (.pointer (some ⟨kb + 1, 3, none⟩)) rfl (by kernel_rfl) (by kernel_rfl) (by kernel_rfl) (fun _ _ _ h => h) (Or.inl ⟨rfl, fun w9 hSw => by go_simp⟩) hHeld ?_
    try simp only [Act.put, List.setIfInBounds_toArray, List.set_cons_zero, List.set_cons_succ]
    refine takeL 9 (.int .i64 p.a) rfl (by kernel_rfl) (by kernel_rfl) (by kernel_rfl) (fun _ _ _ h => h) (Or.inl ⟨rfl, fun w9 hSw => by have hc := hSw.1.1.cell 3 _ rfl; go_simp⟩) hHeld ?_
    try simp only [Act.put, List.setIfInBounds_toArray, List.set_cons_zero, List.set_cons_succ]
    refine oneL 10 rfl (by kernel_rfl) rfl (fun K hK => ?_)
    go_simp
    refine (unhide HLA _).mono ?_
    rintro e w4 ⟨rfl, b4⟩
    go_wp2_with fail
    refine hK.out _ _ ⟨⟨hHeld.1.1.below b4 hHeld.2, rangeAt_below hHeld.1.2 b4 (Nat.lt_trans (Nat.lt_succ_self _) hHeld.2)⟩, Nat.lt_of_lt_of_le hHeld.2 b4.size⟩ (fun hHeld => ?_)
    clear hK K
    try simp only [Act.put, List.setIfInBounds_toArray, List.set_cons_zero, List.set_cons_succ]
    refine takeL 11 (.bool (eqRc (pgRc p) r)) rfl (by kernel_rfl) (by kernel_rfl) (by kernel_rfl) (fun _ _ _ h => h) (Or.inl ⟨rfl, fun w9 hSw => by unfold eqRc rcC pgRc; go_simp; by_cases q1 : p.k = r.k <;> by_cases q2 : p.s = r.s <;> by_cases q3 : p.a = r.a <;> by_cases q4 : p.v = r.v <;> simp [q1, q2, q3, q4]⟩) hHeld ?_
    try simp only [Act.put, List.setIfInBounds_toArray, List.set_cons_zero, List.set_cons_succ]
    refine takeL 12 (.bool (eqRc (pgRc p) r)) rfl (by kernel_rfl) (by kernel_rfl) (by kernel_rfl) (fun _ _ _ h => h) (Or.inl ⟨rfl, fun w9 hSw => by go_simp⟩) hHeld ?_
    try simp only [Act.put, List.setIfInBounds_toArray, List.set_cons_zero, List.set_cons_succ]
    refine takeL 13 (.bool (eqRc (pgRc p) r)) rfl (by kernel_rfl) (by kernel_rfl) (by kernel_rfl) (fun _ _ _ h => h) (Or.inl ⟨rfl, fun _ _ => rfl⟩) hHeld ?_
    try simp only [Act.put, List.setIfInBounds_toArray, List.set_cons_zero, List.set_cons_succ]
    refine wpAnyH_done (by kernel_rfl) ?_ _
    refine NoPanic.normal ?_
    go_wp2
    go_ret
    exact ⟨by rw [unhide HE2]; rfl, by rw [hkb]; exact B2.drew.trans (b4.mono (by rw [← hkb]; exact (hkb ▸ B2.drew).size))⟩
  · have g1 : (p.st == 1) = false := by simpa using hst
    have HE2 : Hid (R = false) := by show _ = _; rw [unhide HE, g1]; rfl
    clear hst HE
    refine wp_region_noPanic ?_
    refine wp_region_held_drew (S := fun w' => (CsAt w' (kb + 1) (pgC p) ∧ w'.rangeAt kb 0 (fsC ks)) ∧ kb + 1 < w'.heap.size) (by kernel_rfl) (⟨⟨⟨fun j v hv => cP.cells j v hv, fun j hj => cP.free j hj⟩, fun j v hv => rK j v hv⟩, hsw⟩) (fun hHeld => ?_)
    refine takeL 0 (.pointer (some ⟨kb + 1, 0, none⟩)) rfl (by kernel_rfl) (by kernel_rfl) (by kernel_rfl) (fun _ _ _ h => h) (Or.inl ⟨rfl, fun w9 hSw => by go_simp⟩) hHeld ?_
    try simp only [Act.put, List.setIfInBounds_toArray, List.set_cons_zero, List.set_cons_succ]
    refine takeL 1 (.int .i64 p.st) rfl (by kernel_rfl) (by kernel_rfl) (by kernel_rfl) (fun _ _ _ h => h) (Or.inl ⟨rfl, fun w9 hSw => by have hc := hSw.1.1.cell 0 _ rfl; go_simp⟩) hHeld ?_
    try simp only [Act.put, List.setIfInBounds_toArray, List.set_cons_zero, List.set_cons_succ]
    refine takeL 2 (.bool false) rfl (by kernel_rfl) (by kernel_rfl) (by kernel_rfl) (fun _ _ _ h => h) (Or.inl ⟨rfl, fun w9 hSw => by go_simp⟩) hHeld ?_
    try simp only [Act.put, List.setIfInBounds_toArray, List.set_cons_zero, List.set_cons_succ]
    refine takeL 3 (.bool false) rfl (by kernel_rfl) (by kernel_rfl) (by kernel_rfl) (fun _ _ _ h => h) (Or.inl ⟨rfl, fun _ _ => rfl⟩) hHeld ?_
    try simp only [Act.put, List.setIfInBounds_toArray, List.set_cons_zero, List.set_cons_succ]
    refine takeL 4 (undef) rfl (by kernel_rfl) (by kernel_rfl) (by kernel_rfl) (fun _ _ _ h => h) (Or.inr ⟨rfl, rfl⟩) hHeld ?_
    try simp only [Act.put, List.setIfInBounds_toArray, List.set_cons_zero, List.set_cons_succ]
    refine takeL 5 (undef) rfl (by kernel_rfl) (by kernel_rfl) (by kernel_rfl) (fun _ _ _ h => h) (Or.inr ⟨rfl, rfl⟩) hHeld ?_
    try simp only [Act.put, List.setIfInBounds_toArray, List.set_cons_zero, List.set_cons_succ]
    refine takeL 6 (undef) rfl (by kernel_rfl) (by kernel_rfl) (by kernel_rfl) (fun _ _ _ h => h) (Or.inr ⟨rfl, rfl⟩) hHeld ?_
    try simp only [Act.put, List.setIfInBounds_toArray, List.set_cons_zero, List.set_cons_succ]
    refine takeL 7 (undef) rfl (by kernel_rfl) (by kernel_rfl) (by kernel_rfl) (fun _ _ _ h => h) (Or.inr ⟨rfl, rfl⟩) hHeld ?_
    try simp only [Act.put, List.setIfInBounds_toArray, List.set_cons_zero, List.set_cons_succ]
    refine takeL 8 (undef) rfl (by kernel_rfl) (by kernel_rfl) (by kernel_rfl) (fun _ _ _ h => h) (Or.inr ⟨rfl, rfl⟩) hHeld ?_
    try simp only [Act.put, List.setIfInBounds_toArray, List.set_cons_zero, List.set_cons_succ]
    refine takeL 9 (undef) rfl (by kernel_rfl) (by kernel_rfl) (by kernel_rfl) (fun _ _ _ h => h) (Or.inr ⟨rfl, rfl⟩) hHeld ?_
    try simp only [Act.put, List.setIfInBounds_toArray, List.set_cons_zero, List.set_cons_succ]
    refine takeL 10 (undef) rfl (by kernel_rfl) (by kernel_rfl) (by kernel_rfl) (fun _ _ _ h => h) (Or.inr ⟨rfl, rfl⟩) hHeld ?_
    try simp only [Act.put, List.setIfInBounds_toArray, List.set_cons_zero, List.set_cons_succ]
    refine takeL 11 (undef) rfl (by kernel_rfl) (by kernel_rfl) (by kernel_rfl) (fun _ _ _ h => h) (Or.inr ⟨rfl, rfl⟩) hHeld ?_
    try simp only [Act.put, List.setIfInBounds_toArray, List.set_cons_zero, List.set_cons_succ]
    refine takeL 12 (.bool false) rfl (by kernel_rfl) (by kernel_rfl) (by kernel_rfl) (fun _ _ _ h => h) (Or.inl ⟨rfl, fun w9 hSw => by go_simp⟩) hHeld ?_
    try simp only [Act.put, List.setIfInBounds_toArray, List.set_cons_zero, List.set_cons_succ]
    refine takeL 13 (.bool false) rfl (by kernel_rfl) (by kernel_rfl) (by kernel_rfl) (fun _ _ _ h => h) (Or.inl ⟨rfl, fun _ _ => rfl⟩) hHeld ?_
    try simp only [Act.put, List.setIfInBounds_toArray, List.set_cons_zero, List.set_cons_succ]
    refine wpAnyH_done (by kernel_rfl) ?_ _
    refine NoPanic.normal ?_
    go_wp2
    go_ret
    exact ⟨by rw [unhide HE2]; rfl, by rw [hkb]; exact B2.drew⟩

set_option maxRecDepth 100000 in
set_option maxHeartbeats 2000000 in
theorem implLive_any (a : Option Addr) (cap : Nat) (blk pg : Int) (bs : List Bk) (w : World) (hf : FsAt w a bs) (hm : bs.length ≤ 9223372036854775807) :
    Calls Try.prog 25 #[.slice a bs.length cap, .int .i64 blk, .int .i64 pg] w fun e w' => e = .returned (.bool (lvR bs blk pg)) ∧ Below w.heap.size w w' := by
  obtain ⟨zf, hz, hz84⟩ := zrow
  have HZ := hide hz
  clear hz
  have HR : Hid (lvR bs blk pg = (okB bs && inB blk 0 3 && inB pg 0 3 && liveB bs (pgAt bs blk pg))) := rfl
  generalize lvR bs blk pg = R at *
  have HIG := hide (fun (w' : World) => within_any pg 0 3 w')
  go_enter Try.func25, Try.ntmps25
  go_wp2_with fail
  refine (at_any a cap blk bs _ hf hm).mono ?_
  rintro e w1 ⟨ks, rfl, hk4, hkF, hke, b1⟩
  have hsz : zf.size = (fsC ks).toArray.size := by rw [hz84, List.size_toArray, len_fsC _ hkF, hk4]
  have r1 := rangeAt_new w1 (fsC ks) 75
  have B1 := b1.alloc b1.size (.cells (fsC ks).toArray 75)
  clear b1
  cases hs : okB bs && inB blk 0 3
  · have HE : Hid (R = false) := by show _ = _; rw [unhide HR, hs]; rfl
    clear hs hke r1
    go_wp2_with (first | (refine wpList_alloc_big rfl 75 rfl zf (unhide HZ) ?_) | (refine wpList_store_new rfl 75 _ _ rfl w1 zf (fsC ks).toArray rfl rfl rfl (size_fsa hkF hk4) hsz (one_fs ks) ?_))
    go_ret
    exact ⟨by rw [unhide HE]; rfl, B1⟩
  · obtain rfl := hke hs
    cases hg : inB pg 0 3
    · have HE : Hid (R = false) := by show _ = _; rw [unhide HR, hs, hg]; rfl
      rw [hg] at HIG
      clear hs hke r1
      go_wp2_with (first | (refine wpList_alloc_big rfl 75 rfl zf (unhide HZ) ?_) | (refine wpList_store_new rfl 75 _ _ rfl w1 zf (fsC ks).toArray rfl rfl rfl (size_fsa hkF hk4) hsz (one_fs ks) ?_) | (go_at_call 57; refine (unhide HIG _).mono ?_; rintro e w' ⟨rfl, hw'⟩; obtain rfl := hw'.symm))
      go_ret
      exact ⟨by rw [unhide HE]; rfl, B1⟩
    · have HE : Hid (R = liveB ks (pgAt ks blk pg)) := by show _ = _; rw [unhide HR, hs, hg]; rfl
      rw [hg] at HIG
      have hs2 := hs
      rw [Bool.and_eq_true] at hs2
      obtain ⟨k, rfl, hk⟩ := in_range hs2.2
      obtain ⟨j, rfl, hj⟩ := in_range hg
      have hkb : k < ks.length := by omega
      have hb4 : ks[k].ps.length = 4 := hkF.at k hkb
      have hjb : j < ks[k].ps.length := by omega
      have HPG : Hid (pgAt ks k j = ks[k].ps[j]) := by
        show _ = _
        unfold pgAt
        rw [Int.toNat_natCast, Int.toNat_natCast, getD_at ks k hkb, List.getD_eq_getElem?_getD, List.getElem?_eq_getElem hjb]; rfl
      rw [unhide HPG] at HE
      have hk0 : (0 : Int) ≤ (k : Int) := by omega
      have hk3 : (k : Int) < 4 := by omega
      have hj0 : (0 : Int) ≤ (j : Int) := by omega
      have hj3 : (j : Int) < 4 := by omega
      generalize HPJ : ks[k].ps[j] = p at *
      have HLV := hide (lives_any ks hk4 hkF p)
      rw [← unhide HE] at HLV
      have HSF := hide (size_fsl hkF hk4)
      have HSP := hide (size_pgV p)
      have rP := range_pgV (range_bk (sub_fs hkF r1 k hkb)) j hjb
      rw [HPJ] at rP
      clear hs hs2 hke hg HPG HR
      go_wp2_with (first | (refine wpList_alloc_big rfl 75 rfl zf (unhide HZ) ?_) | (refine wpList_store_new rfl 75 _ _ rfl w1 zf (fsC ks).toArray rfl rfl rfl (size_fsa hkF hk4) hsz (one_fs ks) ?_) | (go_at_call 57; refine (unhide HIG _).mono ?_; rintro e w' ⟨rfl, hw'⟩; obtain rfl := hw'.symm))
      have hsw : w1.heap.size < (w1.alloc (.cells (fsC ks).toArray 75)).heap.size := by simp
      generalize w1.alloc (.cells (fsC ks).toArray 75) = w3 at *
      generalize w1.heap.size = kb at *
      refine wp_region_noPanic ?_
      refine wp_region_held_drew (S := fun w' => w'.rangeAt kb 0 (fsC ks) ∧ w'.rangeAt kb (k * 21 + j * 5) (pgC p)) (by kernel_rfl) (⟨fun j v hv => r1 j v hv, fun j v hv => rP j v hv⟩) (fun hHeld => ?_)
      refine takeL 0 (_) rfl (by kernel_rfl) (by kernel_rfl) (by kernel_rfl) (fun _ _ _ h => h) (yieldsIf_load_mid rfl 75 _ rfl kb 0 rfl (fsC ks) _ (fun _ h => h.1) Try.underlying75 rfl (unhide HSF)) hHeld ?_
      try simp only [Act.put, List.setIfInBounds_toArray, List.set_cons_zero, List.set_cons_succ]
      refine takeL 1 (.int .i64 k) rfl (by kernel_rfl) (by kernel_rfl) (by kernel_rfl) (fun _ _ _ h => h) (Or.inl ⟨rfl, fun _ _ => rfl⟩) hHeld ?_
      try simp only [Act.put, List.setIfInBounds_toArray, List.set_cons_zero, List.set_cons_succ]
      refine takeL 2 (.int .i64 j) rfl (by kernel_rfl) (by kernel_rfl) (by kernel_rfl) (fun _ _ _ h => h) (Or.inl ⟨rfl, fun _ _ => rfl⟩) hHeld ?_
      try simp only [Act.put, List.setIfInBounds_toArray, List.set_cons_zero, List.set_cons_succ]
      refine takeL 3 (.pointer (some ⟨kb, k * 21, none⟩)) rfl (by kernel_rfl) (by kernel_rfl) (by kernel_rfl) (fun _ _ _ h => h) (Or.inl ⟨rfl, fun w9 hSw => by go_simp⟩) hHeld ?_
      try simp only [Act.put, List.setIfInBounds_toArray, List.set_cons_zero, List.set_cons_succ]
      refine takeL 4 (.pointer (some ⟨kb, k * 21, none⟩)) rfl (by kernel_rfl) (by kernel_rfl) (by kernel_rfl) (fun _ _ _ h => h) (Or.inl ⟨rfl, fun w9 hSw => by go_simp⟩) hHeld ?_
      try simp only [Act.put, List.setIfInBounds_toArray, List.set_cons_zero, List.set_cons_succ]
      refine takeL 5 (.pointer (some ⟨kb, k * 21, none⟩)) rfl (by kernel_rfl) (by kernel_rfl) (by kernel_rfl) (fun _ _ _ h => h) (Or.inl ⟨rfl, fun w9 hSw => by go_simp⟩) hHeld ?_
      try simp only [Act.put, List.setIfInBounds_toArray, List.set_cons_zero, List.set_cons_succ]
      refine takeL 6 (.pointer (some ⟨kb, k * 21 + j * 5, none⟩)) rfl (by kernel_rfl) (by kernel_rfl) (by kernel_rfl) (fun _ _ _ h => h) (Or.inl ⟨rfl, fun w9 hSw => by go_simp⟩) hHeld ?_
      try simp only [Act.put, List.setIfInBounds_toArray, List.set_cons_zero, List.set_cons_succ]
      refine takeL 7 (_) rfl (by kernel_rfl) (by kernel_rfl) (by kernel_rfl) (fun _ _ _ h => h) (yieldsIf_load_mid rfl 33 _ rfl kb (k * 21 + j * 5) rfl (pgC p) _ (fun _ h => h.2) Try.underlying33 rfl (unhide HSP)) hHeld ?_
      try simp only [Act.put, List.setIfInBounds_toArray, List.set_cons_zero, List.set_cons_succ]
      refine oneL 8 rfl (by kernel_rfl) rfl (fun K hK => ?_)
      go_simp
      refine (unhide HLV _).mono ?_
      rintro e w4 ⟨rfl, b4⟩
      go_wp2_with fail
      refine hK.out _ _ ⟨rangeAt_below hHeld.1 b4 hsw, rangeAt_below hHeld.2 b4 hsw⟩ (fun hHeld => ?_)
      clear hK K
      try simp only [Act.put, List.setIfInBounds_toArray, List.set_cons_zero, List.set_cons_succ]
      refine takeL 9 (.bool R) rfl (by kernel_rfl) (by kernel_rfl) (by kernel_rfl) (fun _ _ _ h => h) (Or.inl ⟨rfl, fun _ _ => rfl⟩) hHeld ?_
      try simp only [Act.put, List.setIfInBounds_toArray, List.set_cons_zero, List.set_cons_succ]
      refine wpAnyH_done (by kernel_rfl) ?_ _
      refine NoPanic.normal ?_
      go_wp2
      go_ret
      exact ⟨rfl, B1.drew.trans (b4.mono B1.drew.size)⟩
end Go.Proofs.Ytkikeapfjpnkgaa.FindV

/-
  Regions that draw their order and hold guards: an operation whose guard is a truth value that is not known, taken all the same. Nothing here speaks of the program.
-/
namespace Go.Proofs.Ytkikeapfjpnkgaa.Gd
open Go.ChangeShapes Go.WideShapes Go.ChangeAt Go.RowKit Big
set_option linter.unusedVariables false
variable {P : Program} {ops : Array Oper} {o : Oper} {a : Act} {w : World} {Q : Exit → Act → World → Prop}

def onlyIf (b : Bool) (v : Value) : Value := if b then v else undef
theorem onlyIf_t (v : Value) : onlyIf true v = v := rfl
theorem onlyIf_f (v : Value) : onlyIf false v = undef := rfl
/-- An operation that only yields, under a guard b. -/
theorem takeG {l : List Oper} {md : Region.Mode} {S : World → Prop} (i : Nat) {oi : Oper} (b : Bool) (v : Value) {fuel : Nat} {listed : Array Bool} (hi : nth l i = some oi)
    (hs : Region.noSelect l.toArray = true) (hf : Region.free md l.toArray listed i = true) (hr : (Region.ready md l.toArray listed).contains i = true)
    (hQ : ∀ c a w, Q (.panic c) (a.put oi.dst (onlyIf b v)) w → Q (.panic c) a w) (hw : Region.wanted oi (yielded l.toArray a.tmps) = b)
    (hy : b = true → ∀ w, S w → (execOp a.eval oi).run P w = .ok (.value v) w) (hS : S w)
    (h : wpAnyH P md l.toArray Q S fuel (listed.setIfInBounds i true) (a.put oi.dst (onlyIf b v)) w) : wpAnyH P md l.toArray Q S (fuel + 1) listed a w := by
  refine takeL i (onlyIf b v) hi hs hf hr hQ ?_ hS h
  cases b
  · exact .inr ⟨hw, rfl⟩
  · exact .inl ⟨hw, hy rfl⟩
/-- A call under a guard b: where it is not made the world stands. -/
theorem callG {l : List Oper} {md : Region.Mode} {S : World → Prop} (i : Nat) {o : Oper} (b : Bool) (v : Value) {fuel : Nat} {listed : Array Bool} (hi : nth l i = some o) (hr : Region.ready md l.toArray listed = [i])
    (hw : Region.wanted o (yielded l.toArray a.tmps) = b) (hS : S w)
    (hy : b = true → ∀ K' : Act → World → Prop, Shut (∀ w', S w' → K' (a.put o.dst v) w') → Oper.wp P o a w K' Q)
    (h : ∀ w', S w' → wpAnyH P md l.toArray Q S fuel (listed.setIfInBounds i true) (a.put o.dst (onlyIf b v)) w') : wpAnyH P md l.toArray Q S (fuel + 1) listed a w := by
  refine wpAnyH_ready hr (by simp) (AllReadyH.cons (nth_spec l i o hi) (fun K hK => ?_) AllReadyH.nil)
  cases b
  · rw [if_neg (by rw [hw]; simp)]
    exact hK.out _ _ hS (fun _ => h w hS)
  · rw [if_pos hw]
    exact hy rfl K (fun w' hS' => hK.out _ _ hS' (fun _ => h w' hS'))
end Go.Proofs.Ytkikeapfjpnkgaa.Gd
