/-
  Texts that belong together, one behind the other: FindL, FindV, Gd, FindN, FindD.
-/
import Derived.Test.YtbiokmojjneleaaGreatHaN
import Derived.Test.YtbiokmojjneleaaGreatHaF
import Derived.Test.YtbiokmojjneleaaGreatHaA

/-
  FindLast, of the program and of the specification: both answer the same.
-/
namespace Go.Proofs.YtbiokmojjneleaaGreat.FindL
open Go.ChangeShapes Go.WideShapes Go.ChangeAt Go.RowKit Go.Shelf OkA Big Fl ImplB ImplF ImplS _root_.Go.Proofs.YtbiokmojjneleaaGreat.Own ImplT ImplU SpecA SpecB SpecC SpecD SpecW SpecF SpecG SpecH Ok2 Pl FindP SpecX ImplL
set_option linter.unusedVariables false
set_option linter.unusedSimpArgs false
attribute [local go_sem ↓] Go.wp_at_zero Go.wp_at_succ

/-! Plain lists. -/
/-- Nothing, or a record of the address that is ok. -/
def Lst (addr : Int) (r : Rc) : Prop := r = zRc ∨ (recB r.k r.s r.a r.v = true ∧ r.a = addr)
theorem lastS_ok (addr : Int) (o : Rc) (p : Pg) (h : Lst addr o) (hp : pgB p = true) : Lst addr (lastS addr o p) := by
  unfold lastS
  cases hl : laterB addr o p
  · exact h
  · simp only [if_true]
    simp [laterB] at hl
    refine .inr ⟨?_, hl.1.2⟩
    have : pgB p = recB p.k p.s p.a p.v := by unfold pgB; rw [if_pos hl.1.1]
    rw [this] at hp; exact hp
theorem lastP_ok (addr : Int) (ps : List Pg) : ∀ o, Lst addr o → (∀ p ∈ ps, pgB p = true) → Lst addr (lastP addr o ps) := by
  induction ps with
  | nil => intro o h _; exact h
  | cons p r ih => intro o h hp; exact ih _ (lastS_ok addr o p h (hp p (by simp))) fun x hx => hp x (by simp [hx])
theorem lastF_ok (addr : Int) (bs : List Bk) : ∀ o, Lst addr o → (∀ b ∈ bs, ∀ p ∈ b.ps, pgB p = true) → Lst addr (lastF addr o bs) := by
  induction bs with
  | nil => intro o h _; exact h
  | cons b r ih => intro o h hp; exact ih _ (lastP_ok addr b.ps o h (hp b (by simp))) fun x hx => hp x (by simp [hx])
theorem lastR_ok (bs : List Bk) (addr : Int) (h : okB bs = true) : Lst addr (lastR bs addr) := lastF_ok addr bs zRc (.inl rfl) (ok_pages h)
def noRc (r : Rc) : Bool := r.k == 0 && r.s == 0 && r.a == 0 && r.v == 0
theorem lst_no {addr : Int} {r : Rc} (h : Lst addr r) : (!noRc r) = decide (0 < r.s) := by
  rcases h with rfl | ⟨h, _⟩
  · rfl
  · simp [recB, numB, inB] at h
    have e1 : noRc r = false := by unfold noRc; simp; omega
    rw [e1]; simp; omega
theorem lst_out {addr : Int} {r : Rc} (h : Lst addr r) (ha : inB addr 1 6 = false) : r = zRc := by
  rcases h with h | ⟨h, rfl⟩
  · exact h
  · simp [recB, numB, ha] at h
/-- What FindLast answers. -/
def flR (bs : List Bk) (addr : Int) : Rc := if okB bs && inB addr 1 6 then lastR bs addr else zRc
def flO (bs : List Bk) (addr : Int) : Bool := okB bs && inB addr 1 6 && lastO bs addr
theorem flR_ok {bs : List Bk} {addr : Int} (h : okB bs = true) : flR bs addr = lastR bs addr := by
  unfold flR; rw [h, Bool.true_and]
  cases ha : inB addr 1 6
  · rw [if_neg (by simp), lst_out (lastR_ok bs addr h) ha]
  · rfl
theorem flO_ok {bs : List Bk} {addr : Int} (h : okB bs = true) : flO bs addr = !noRc (lastR bs addr) := by
  unfold flO; rw [h, Bool.true_and]
  cases ha : inB addr 1 6
  · rw [lst_out (lastR_ok bs addr h) ha]; rfl
  · rw [lst_no (lastR_ok bs addr h)]; rfl
def FlPost (w : World) (r : Rc) (o : Bool) (e : Ending) (w' : World) : Prop := e = .returned (.tuple #[.agg (rcC r).toArray, .bool o]) ∧ Below w.heap.size w w'

theorem here : True := trivial
end Go.Proofs.YtbiokmojjneleaaGreat.FindL

/-
  FindLive, of the program and of the specification: both answer the same.
-/
namespace Go.Proofs.YtbiokmojjneleaaGreat.FindV
open Go.ChangeShapes Go.WideShapes Go.ChangeAt Go.RowKit Go.Shelf OkA Big Fl ImplB ImplF ImplS _root_.Go.Proofs.YtbiokmojjneleaaGreat.Own ImplT ImplU SpecA SpecB SpecC SpecD SpecW SpecF SpecG SpecH Ok2 Pl FindP SpecX ImplL FindL
set_option linter.unusedVariables false
set_option linter.unusedSimpArgs false
attribute [local go_sem ↓] Go.wp_at_zero Go.wp_at_succ

def pgAt (bs : List Bk) (blk pg : Int) : Pg := (bs.getD blk.toNat zBk).ps.getD pg.toNat zPg
/-- What FindLive answers. -/
def lvR (bs : List Bk) (blk pg : Int) : Bool := okB bs && inB blk 0 3 && inB pg 0 3 && liveB bs (pgAt bs blk pg)
theorem liveB_eq (bs : List Bk) (p : Pg) : liveB bs p = (p.st == 1 && ((lastR bs p.a).k == p.k && (lastR bs p.a).s == p.s && (lastR bs p.a).a == p.a && (lastR bs p.a).v == p.v)) := rfl

set_option maxRecDepth 100000 in
set_option maxHeartbeats 1000000 in
theorem live_any (a : Option Addr) (cap : Nat) (bs : List Bk) (p : Pg) (w : World) (hf : FsAt w a bs) (hm : bs.length ≤ 1048576) (hp : ∀ b ∈ bs, b.ps.length ≤ 1048576) :
    Calls Tryz.prog 148 #[.slice a bs.length cap, .agg #[.int .i64 p.st, .int .i64 p.k, .int .i64 p.s, .int .i64 p.a, .int .i64 p.v]] w fun e w' => e = .returned (.bool (liveB bs p)) ∧ Below w.heap.size w w' := by
  have B0 : Below w.heap.size w (w.alloc (.cells #[.int .i64 p.st, .int .i64 p.k, .int .i64 p.s, .int .i64 p.a, .int .i64 p.v] 66)) := (Below.refl _ _).alloc (Nat.le_refl _) _
  have cP : CsAt (w.alloc (.cells #[.int .i64 p.st, .int .i64 p.k, .int .i64 p.s, .int .i64 p.a, .int .i64 p.v] 66)) w.heap.size (pgC p) := CsAt.new w (pgC p) 66
  have hs0 : w.heap.size < (w.alloc (.cells #[.int .i64 p.st, .int .i64 p.k, .int .i64 p.s, .int .i64 p.a, .int .i64 p.v] 66)).heap.size := by simp
  have HLA := hide (SpecL.last_any a cap bs p.a _ (hf.below B0) hm hp)
  have HV := hide (liveB_eq bs p)
  clear hf
  generalize liveB bs p = R at *
  go_enter Tryz.func148, Tryz.ntmps148
  by_cases hst : p.st = 1
  · have g1 : (p.st != 1) = false := by simp [hst]
    have HST := hide hst
    clear hst
    go_wp2_with fail
    refine (unhide HLA).mono ?_
    rintro e w1 ⟨rfl, b1⟩
    generalize lastO bs p.a = o at *
    generalize lastR bs p.a = r at *
    have c1 := (cP.below b1 hs0).alloc (Nat.lt_of_lt_of_le hs0 b1.size) (.cells #[.int .i64 r.k, .int .i64 r.s, .int .i64 r.a, .int .i64 r.v] 36)
    have B1 := (B0.trans (b1.mono B0.size)).alloc (B0.trans (b1.mono B0.size)).size (.cells #[.int .i64 r.k, .int .i64 r.s, .int .i64 r.a, .int .i64 r.v] 36)
    clear b1 B0 cP hs0 HLA
    have x1 := c1.cell 1 _ rfl
    have x2 := c1.cell 2 _ rfl
    have x3 := c1.cell 3 _ rfl
    have x4 := c1.cell 4 _ rfl
    rw [show (rcC r).toArray = #[.int .i64 r.k, .int .i64 r.s, .int .i64 r.a, .int .i64 r.v] from rfl]
    rw [unhide HST] at HV
    obtain ⟨rk, rs, ra, rv⟩ := r
    dsimp only at *
    by_cases h1 : rk = p.k
    · subst h1
      by_cases h2 : rs = p.s
      · subst h2
        by_cases h3 : ra = p.a
        · subst h3
          by_cases h4 : rv = p.v
          · subst h4
            have HE : Hid (R = true) := by show _ = _; rw [unhide HV]; simp
            go_wp2
            go_ret
            exact ⟨by rw [unhide HE]; rfl, B1⟩
          · have HE : Hid (R = false) := by show _ = _; rw [unhide HV]; simp [h4]
            go_wp2
            go_ret
            exact ⟨by rw [unhide HE]; rfl, B1⟩
        · have HE : Hid (R = false) := by show _ = _; rw [unhide HV]; simp [h3]
          go_wp2
          go_ret
          exact ⟨by rw [unhide HE]; rfl, B1⟩
      · have HE : Hid (R = false) := by show _ = _; rw [unhide HV]; simp [h2]
        go_wp2
        go_ret
        exact ⟨by rw [unhide HE]; rfl, B1⟩
    · have HE : Hid (R = false) := by show _ = _; rw [unhide HV]; simp [h1]
      go_wp2
      go_ret
      exact ⟨by rw [unhide HE]; rfl, B1⟩
  · have g1 : (p.st != 1) = true := by simp [hst]
    have HE : Hid (R = false) := by show _ = _; rw [unhide HV]; simp [hst]
    clear hst
    go_wp2
    go_ret
    exact ⟨by rw [unhide HE]; rfl, B0⟩

theorem range_pgV {w : World} {b o : Nat} {ps : List Pg} (h : w.rangeAt b o (psC ps)) (k : Nat) (hk : k < ps.length) : w.rangeAt b (o + k * 5) (pgC ps[k]) := by
  have := rangeAt_sub h (k * 5) 5
  rwa [part_ps ps k hk] at this
theorem size_pgV (p : Pg) : (Tryz.prog.info? 66).map (·.size) = some (pgC p).length := by rw [len_pgC]; kernel_rfl
set_option maxRecDepth 100000 in
set_option maxHeartbeats 2000000 in
theorem lives_any (ks : List Bk) (hk4 : ks.length = 4) (hkF : Fours ks) (p : Pg) (w : World) :
    Calls Tryz.prog 157 #[.agg (fsC ks).toArray, .agg (pgC p).toArray] w fun e w' => e = .returned (.bool (liveB ks p)) ∧ Below w.heap.size w w' := by
  rw [show (pgC p).toArray = #[.int .i64 p.st, .int .i64 p.k, .int .i64 p.s, .int .i64 p.a, .int .i64 p.v] from rfl]
  have HE := hide (liveB_eq ks p)
  generalize liveB ks p = R at *
  have HLA := hide (fun (w' : World) => callsIn_wide.1 (last_in ks p.a hk4 hkF w'))
  have HSF := hide (size_fsl hkF hk4)
  generalize lastR ks p.a = r at *
  have r1 := rangeAt_new w (fsC ks) 73
  have rK := rangeAt_below r1 ((Below.refl (w.alloc (.cells (fsC ks).toArray 73)).heap.size _).alloc (Nat.le_refl _) (.cells #[.int .i64 p.st, .int .i64 p.k, .int .i64 p.s, .int .i64 p.a, .int .i64 p.v] 66)) (by simp)
  have B2 : Below w.heap.size w ((w.alloc (.cells (fsC ks).toArray 73)).alloc (.cells #[.int .i64 p.st, .int .i64 p.k, .int .i64 p.s, .int .i64 p.a, .int .i64 p.v] 66)) := ((Below.refl _ _).alloc (Nat.le_refl _) _).alloc (by simp) _
  have cP : CsAt ((w.alloc (.cells (fsC ks).toArray 73)).alloc (.cells #[.int .i64 p.st, .int .i64 p.k, .int .i64 p.s, .int .i64 p.a, .int .i64 p.v] 66)) (w.heap.size + 1) (pgC p) := by
    have := CsAt.new (w.alloc (.cells (fsC ks).toArray 73)) (pgC p) 66
    rwa [World.size_alloc] at this
  have hsw : w.heap.size + 1 < ((w.alloc (.cells (fsC ks).toArray 73)).alloc (.cells #[.int .i64 p.st, .int .i64 p.k, .int .i64 p.s, .int .i64 p.a, .int .i64 p.v] 66)).heap.size := by simp
  go_enter Tryz.func157, Tryz.ntmps157
  go_wp2_with (refine wpList_box_big rfl _ _ rfl (fsC ks).toArray rfl ?_)
  clear r1
  generalize (w.alloc (.cells (fsC ks).toArray 73)).alloc (.cells #[.int .i64 p.st, .int .i64 p.k, .int .i64 p.s, .int .i64 p.a, .int .i64 p.v] 66) = w3 at *
  generalize hkb : w.heap.size = kb at *
  by_cases hst : p.st = 1
  · have g1 : (p.st == 1) = true := by simpa using hst
    have HS4 := hide (SpecL.size_rc (pgRc p))
    have HE2 : Hid (R = eqRc (pgRc p) r) := by
      show _ = _
      rw [unhide HE, hst]
      simp only [eqRc, pgRc, BEq.comm (a := r.k), BEq.comm (a := r.s), BEq.comm (a := r.a), BEq.comm (a := r.v)]
      simp
    clear hst HE
    refine wp_region_noPanic ?_
    refine wp_region_held_drew (S := fun w' => (CsAt w' (kb + 1) (pgC p) ∧ w'.rangeAt kb 0 (fsC ks)) ∧ kb + 1 < w'.heap.size) (by kernel_rfl) (⟨⟨⟨fun j v hv => cP.cells j v hv, fun j hj => cP.free j hj⟩, fun j v hv => rK j v hv⟩, hsw⟩) (fun hHeld => ?_)
    refine takeL 0 (.pointer (some ⟨kb + 1, 0, none⟩)) rfl (by kernel_rfl) (by kernel_rfl) (by kernel_rfl) (fun _ _ _ h => h) (Or.inl ⟨rfl, fun w9 hSw => by go_simp⟩) hHeld ?_
    try simp only [Act.put, List.setIfInBounds_toArray, List.set_cons_zero, List.set_cons_succ]
    refine takeL 1 (.int .i64 p.st) rfl (by kernel_rfl) (by kernel_rfl) (by kernel_rfl) (fun _ _ _ h => h) (Or.inl ⟨rfl, fun w9 hSw => by have hc := hSw.1.1.cell 0 _ rfl; go_simp⟩) hHeld ?_
    try simp only [Act.put, List.setIfInBounds_toArray, List.set_cons_zero, List.set_cons_succ]
    refine takeL 2 (.bool true) rfl (by kernel_rfl) (by kernel_rfl) (by kernel_rfl) (fun _ _ _ h => h) (Or.inl ⟨rfl, fun w9 hSw => by go_simp⟩) hHeld ?_
    try simp only [Act.put, List.setIfInBounds_toArray, List.set_cons_zero, List.set_cons_succ]
    refine takeL 3 (.bool true) rfl (by kernel_rfl) (by kernel_rfl) (by kernel_rfl) (fun _ _ _ h => h) (Or.inl ⟨rfl, fun _ _ => rfl⟩) hHeld ?_
    try simp only [Act.put, List.setIfInBounds_toArray, List.set_cons_zero, List.set_cons_succ]
    refine takeL 4 (.pointer (some ⟨kb + 1, 1, none⟩)) rfl (by kernel_rfl) (by kernel_rfl) (by kernel_rfl) (fun _ _ _ h => h) (Or.inl ⟨rfl, fun w9 hSw => by go_simp⟩) hHeld ?_
    try simp only [Act.put, List.setIfInBounds_toArray, List.set_cons_zero, List.set_cons_succ]
    refine takeL 5 (_) rfl (by kernel_rfl) (by kernel_rfl) (by kernel_rfl) (fun _ _ _ h => h) (yieldsIf_load_mid rfl 36 _ rfl (kb + 1) 1 rfl (rcC (pgRc p)) _ (fun _ h j v hv => by have := h.1.1.cells (1 + j) v (by simpa [pgC, rcC, pgRc, Nat.add_comm] using hv); simpa using this) Tryz.underlying36 rfl (unhide HS4)) hHeld ?_
    try simp only [Act.put, List.setIfInBounds_toArray, List.set_cons_zero, List.set_cons_succ]
    refine takeL 6 (_) rfl (by kernel_rfl) (by kernel_rfl) (by kernel_rfl) (fun _ _ _ h => h) (yieldsIf_load_mid rfl 73 _ rfl kb 0 rfl (fsC ks) _ (fun _ h => h.1.2) Tryz.underlying73 rfl (unhide HSF)) hHeld ?_
    try simp only [Act.put, List.setIfInBounds_toArray, List.set_cons_zero, List.set_cons_succ]
    refine takeL 7 (.pointer (some ⟨kb + 1, 1, none⟩)) rfl (by kernel_rfl) (by kernel_rfl) (by kernel_rfl) (fun _ _ _ h => h) (Or.inl ⟨rfl, fun w9 hSw => by go_simp⟩) hHeld ?_
    try simp only [Act.put, List.setIfInBounds_toArray, List.set_cons_zero, List.set_cons_succ]
    refine takeL 8 (.pointer (some ⟨kb + 1, 3, none⟩)) rfl (by kernel_rfl) (by kernel_rfl) (by kernel_rfl) (fun _ _ _ h => h) (Or.inl ⟨rfl, fun w9 hSw => by go_simp⟩) hHeld ?_
    try simp only [Act.put, List.setIfInBounds_toArray, List.set_cons_zero, List.set_cons_succ]
    refine takeL 9 (.int .i64 p.a) rfl (by kernel_rfl) (by kernel_rfl) (by kernel_rfl) (fun _ _ _ h => h) (Or.inl ⟨rfl, fun w9 hSw => by have hc := hSw.1.1.cell 3 _ rfl; go_simp⟩) hHeld ?_
    try simp only [Act.put, List.setIfInBounds_toArray, List.set_cons_zero, List.set_cons_succ]
    refine oneL 10 rfl (by kernel_rfl) rfl (fun K hK => ?_)
    go_simp
    refine (unhide HLA _).mono ?_
    rintro e w4 ⟨rfl, b4⟩
    go_wp2_with fail
    refine hK.out _ _ ⟨⟨hHeld.1.1.below b4 hHeld.2, rangeAt_below hHeld.1.2 b4 (Nat.lt_trans (Nat.lt_succ_self _) hHeld.2)⟩, Nat.lt_of_lt_of_le hHeld.2 b4.size⟩ (fun hHeld => ?_)
    clear hK K
    try simp only [Act.put, List.setIfInBounds_toArray, List.set_cons_zero, List.set_cons_succ]
    refine takeL 11 (.bool (eqRc (pgRc p) r)) rfl (by kernel_rfl) (by kernel_rfl) (by kernel_rfl) (fun _ _ _ h => h) (Or.inl ⟨rfl, fun w9 hSw => by unfold eqRc rcC pgRc; go_simp; by_cases q1 : p.k = r.k <;> by_cases q2 : p.s = r.s <;> by_cases q3 : p.a = r.a <;> by_cases q4 : p.v = r.v <;> simp [q1, q2, q3, q4]⟩) hHeld ?_
    try simp only [Act.put, List.setIfInBounds_toArray, List.set_cons_zero, List.set_cons_succ]
    refine takeL 12 (.bool (eqRc (pgRc p) r)) rfl (by kernel_rfl) (by kernel_rfl) (by kernel_rfl) (fun _ _ _ h => h) (Or.inl ⟨rfl, fun w9 hSw => by go_simp⟩) hHeld ?_
    try simp only [Act.put, List.setIfInBounds_toArray, List.set_cons_zero, List.set_cons_succ]
    refine takeL 13 (.bool (eqRc (pgRc p) r)) rfl (by kernel_rfl) (by kernel_rfl) (by kernel_rfl) (fun _ _ _ h => h) (Or.inl ⟨rfl, fun _ _ => rfl⟩) hHeld ?_
    try simp only [Act.put, List.setIfInBounds_toArray, List.set_cons_zero, List.set_cons_succ]
    refine wpAnyH_done (by kernel_rfl) ?_ _
    refine NoPanic.normal ?_
    go_wp2
    go_ret
    exact ⟨by rw [unhide HE2]; rfl, by rw [hkb]; exact B2.drew.trans (b4.mono (by rw [← hkb]; exact (hkb ▸ B2.drew).size))⟩
  · have g1 : (p.st == 1) = false := by simpa using hst
    have HE2 : Hid (R = false) := by show _ = _; rw [unhide HE, g1]; rfl
    clear hst HE
    refine wp_region_noPanic ?_
    refine wp_region_held_drew (S := fun w' => (CsAt w' (kb + 1) (pgC p) ∧ w'.rangeAt kb 0 (fsC ks)) ∧ kb + 1 < w'.heap.size) (by kernel_rfl) (⟨⟨⟨fun j v hv => cP.cells j v hv, fun j hj => cP.free j hj⟩, fun j v hv => rK j v hv⟩, hsw⟩) (fun hHeld => ?_)
    refine takeL 0 (.pointer (some ⟨kb + 1, 0, none⟩)) rfl (by kernel_rfl) (by kernel_rfl) (by kernel_rfl) (fun _ _ _ h => h) (Or.inl ⟨rfl, fun w9 hSw => by go_simp⟩) hHeld ?_
    try simp only [Act.put, List.setIfInBounds_toArray, List.set_cons_zero, List.set_cons_succ]
    refine takeL 1 (.int .i64 p.st) rfl (by kernel_rfl) (by kernel_rfl) (by kernel_rfl) (fun _ _ _ h => h) (Or.inl ⟨rfl, fun w9 hSw => by have hc := hSw.1.1.cell 0 _ rfl; go_simp⟩) hHeld ?_
    try simp only [Act.put, List.setIfInBounds_toArray, List.set_cons_zero, List.set_cons_succ]
    refine takeL 2 (.bool false) rfl (by kernel_rfl) (by kernel_rfl) (by kernel_rfl) (fun _ _ _ h => h) (Or.inl ⟨rfl, fun w9 hSw => by go_simp⟩) hHeld ?_
    try simp only [Act.put, List.setIfInBounds_toArray, List.set_cons_zero, List.set_cons_succ]
    refine takeL 3 (.bool false) rfl (by kernel_rfl) (by kernel_rfl) (by kernel_rfl) (fun _ _ _ h => h) (Or.inl ⟨rfl, fun _ _ => rfl⟩) hHeld ?_
    try simp only [Act.put, List.setIfInBounds_toArray, List.set_cons_zero, List.set_cons_succ]
    refine takeL 4 (undef) rfl (by kernel_rfl) (by kernel_rfl) (by kernel_rfl) (fun _ _ _ h => h) (Or.inr ⟨rfl, rfl⟩) hHeld ?_
    try simp only [Act.put, List.setIfInBounds_toArray, List.set_cons_zero, List.set_cons_succ]
    refine takeL 5 (undef) rfl (by kernel_rfl) (by kernel_rfl) (by kernel_rfl) (fun _ _ _ h => h) (Or.inr ⟨rfl, rfl⟩) hHeld ?_
    try simp only [Act.put, List.setIfInBounds_toArray, List.set_cons_zero, List.set_cons_succ]
    refine takeL 6 (undef) rfl (by kernel_rfl) (by kernel_rfl) (by kernel_rfl) (fun _ _ _ h => h) (Or.inr ⟨rfl, rfl⟩) hHeld ?_
    try simp only [Act.put, List.setIfInBounds_toArray, List.set_cons_zero, List.set_cons_succ]
    refine takeL 7 (undef) rfl (by kernel_rfl) (by kernel_rfl) (by kernel_rfl) (fun _ _ _ h => h) (Or.inr ⟨rfl, rfl⟩) hHeld ?_
    try simp only [Act.put, List.setIfInBounds_toArray, List.set_cons_zero, List.set_cons_succ]
    refine takeL 8 (undef) rfl (by kernel_rfl) (by kernel_rfl) (by kernel_rfl) (fun _ _ _ h => h) (Or.inr ⟨rfl, rfl⟩) hHeld ?_
    try simp only [Act.put, List.setIfInBounds_toArray, List.set_cons_zero, List.set_cons_succ]
    refine takeL 9 (undef) rfl (by kernel_rfl) (by kernel_rfl) (by kernel_rfl) (fun _ _ _ h => h) (Or.inr ⟨rfl, rfl⟩) hHeld ?_
    try simp only [Act.put, List.setIfInBounds_toArray, List.set_cons_zero, List.set_cons_succ]
    refine takeL 10 (undef) rfl (by kernel_rfl) (by kernel_rfl) (by kernel_rfl) (fun _ _ _ h => h) (Or.inr ⟨rfl, rfl⟩) hHeld ?_
    try simp only [Act.put, List.setIfInBounds_toArray, List.set_cons_zero, List.set_cons_succ]
    refine takeL 11 (undef) rfl (by kernel_rfl) (by kernel_rfl) (by kernel_rfl) (fun _ _ _ h => h) (Or.inr ⟨rfl, rfl⟩) hHeld ?_
    try simp only [Act.put, List.setIfInBounds_toArray, List.set_cons_zero, List.set_cons_succ]
    refine takeL 12 (.bool false) rfl (by kernel_rfl) (by kernel_rfl) (by kernel_rfl) (fun _ _ _ h => h) (Or.inl ⟨rfl, fun w9 hSw => by go_simp⟩) hHeld ?_
    try simp only [Act.put, List.setIfInBounds_toArray, List.set_cons_zero, List.set_cons_succ]
    refine takeL 13 (.bool false) rfl (by kernel_rfl) (by kernel_rfl) (by kernel_rfl) (fun _ _ _ h => h) (Or.inl ⟨rfl, fun _ _ => rfl⟩) hHeld ?_
    try simp only [Act.put, List.setIfInBounds_toArray, List.set_cons_zero, List.set_cons_succ]
    refine wpAnyH_done (by kernel_rfl) ?_ _
    refine NoPanic.normal ?_
    go_wp2
    go_ret
    exact ⟨by rw [unhide HE2]; rfl, by rw [hkb]; exact B2.drew⟩

theorem here : True := trivial
end Go.Proofs.YtbiokmojjneleaaGreat.FindV

/-
  Regions that draw their order and hold guards: an operation whose guard is a truth value that is not known, taken all the same. Nothing here speaks of the program.
-/
namespace Go.Proofs.YtbiokmojjneleaaGreat.Gd
open Go.ChangeShapes Go.WideShapes Go.ChangeAt Go.RowKit Big
set_option linter.unusedVariables false
variable {P : Program} {ops : Array Oper} {o : Oper} {a : Act} {w : World} {Q : Exit → Act → World → Prop}

def onlyIf (b : Bool) (v : Value) : Value := if b then v else undef
theorem onlyIf_t (v : Value) : onlyIf true v = v := rfl
theorem onlyIf_f (v : Value) : onlyIf false v = undef := rfl
/-- An operation that only yields, under a guard b. -/
theorem takeG {l : List Oper} {md : Region.Mode} {S : World → Prop} (i : Nat) {oi : Oper} (b : Bool) (v : Value) {fuel : Nat} {listed : Array Bool} (hi : nth l i = some oi)
    (hs : Region.noSelect l.toArray = true) (hf : Region.free md l.toArray listed i = true) (hr : (Region.ready md l.toArray listed).contains i = true)
    (hQ : ∀ c a w, Q (.panic c) (a.put oi.dst (onlyIf b v)) w → Q (.panic c) a w) (hw : Region.wanted oi (yielded l.toArray a.tmps) = b)
    (hy : b = true → ∀ w, S w → (execOp a.eval oi).run P w = .ok (.value v) w) (hS : S w)
    (h : wpAnyH P md l.toArray Q S fuel (listed.setIfInBounds i true) (a.put oi.dst (onlyIf b v)) w) : wpAnyH P md l.toArray Q S (fuel + 1) listed a w := by
  refine takeL i (onlyIf b v) hi hs hf hr hQ ?_ hS h
  cases b
  · exact .inr ⟨hw, rfl⟩
  · exact .inl ⟨hw, hy rfl⟩
/-- A call under a guard b: where it is not made the world stands. -/
theorem callG {l : List Oper} {md : Region.Mode} {S : World → Prop} (i : Nat) {o : Oper} (b : Bool) (v : Value) {fuel : Nat} {listed : Array Bool} (hi : nth l i = some o) (hr : Region.ready md l.toArray listed = [i])
    (hw : Region.wanted o (yielded l.toArray a.tmps) = b) (hS : S w)
    (hy : b = true → ∀ K' : Act → World → Prop, Shut (∀ w', S w' → K' (a.put o.dst v) w') → Oper.wp P o a w K' Q)
    (h : ∀ w', S w' → wpAnyH P md l.toArray Q S fuel (listed.setIfInBounds i true) (a.put o.dst (onlyIf b v)) w') : wpAnyH P md l.toArray Q S (fuel + 1) listed a w := by
  refine wpAnyH_ready hr (by simp) (AllReadyH.cons (nth_spec l i o hi) (fun K hK => ?_) AllReadyH.nil)
  cases b
  · rw [if_neg (by rw [hw]; simp)]
    exact hK.out _ _ hS (fun _ => h w hS)
  · rw [if_pos hw]
    exact hy rfl K (fun w' hS' => hK.out _ _ hS' (fun _ => h w' hS'))
end Go.Proofs.YtbiokmojjneleaaGreat.Gd

/-
  FindNext, of the program and of the specification: both answer the same.
-/
namespace Go.Proofs.YtbiokmojjneleaaGreat.FindN
open Go.ChangeShapes Go.WideShapes Go.ChangeAt Go.RowKit Go.Shelf OkA Big Fl ImplB ImplF ImplS _root_.Go.Proofs.YtbiokmojjneleaaGreat.Own ImplT ImplU SpecA SpecB SpecC SpecD SpecW SpecF SpecG SpecH Ok2 Pl FindP ImplO SpecX ImplL ImplN ImplM
set_option linter.unusedVariables false
set_option linter.unusedSimpArgs false
attribute [local go_sem ↓] Go.wp_at_zero Go.wp_at_succ

def grL (l : List Sp) : Int := l.foldl (fun m x => mx m x.2) 0
theorem grL_take (l : List Sp) (j : Nat) (hj : j < l.length) : grL (l.take (j + 1)) = mx (grL (l.take j)) l[j].2 := by
  unfold grL
  rw [List.take_succ_eq_append_getElem hj, List.foldl_append]; rfl
theorem gr_most (bs : List Bk) (h : ∀ b ∈ bs, ∀ p ∈ b.ps, pgB p = true) : grL (bs.map spB) = mostB bs := by
  unfold grL mostB
  rw [List.foldl_map]
  have : ∀ (l : List Bk) (m : Int), (∀ b ∈ l, ∀ p ∈ b.ps, pgB p = true) → l.foldl (fun m b => mx m (spB b).2) m = l.foldl (fun m b => mx m (mostN b.ps)) m := by
    intro l
    induction l with
    | nil => intro m _; rfl
    | cons b r ih =>
      intro m hb
      rw [List.foldl_cons, List.foldl_cons, (spB_eq (hb b (by simp))).1]
      exact ih _ fun x hx => hb x (by simp [hx])
  exact this bs 0 h
theorem mostN_le (ps : List Pg) (h : ∀ p ∈ ps, pgB p = true) : 0 ≤ mostN ps ∧ mostN ps ≤ 600 := by
  have : ∀ (l : List Pg) (m : Int), 0 ≤ m → m ≤ 600 → (∀ p ∈ l, pgB p = true) → 0 ≤ l.foldl (fun m p => mx m p.s) m ∧ l.foldl (fun m p => mx m p.s) m ≤ 600 := by
    intro l
    induction l with
    | nil => intro m h0 h1 _; exact ⟨h0, h1⟩
    | cons p r ih =>
      intro m h0 h1 hp
      have hs := FindP.pg_seq (hp p (by simp))
      rw [List.foldl_cons]
      refine ih _ ?_ ?_ fun x hx => hp x (by simp [hx])
      · unfold mx; split <;> omega
      · unfold mx; split <;> omega
  exact this ps 0 (by omega) (by omega) h
theorem mostB_le (bs : List Bk) (h : ∀ b ∈ bs, ∀ p ∈ b.ps, pgB p = true) : 0 ≤ mostB bs ∧ mostB bs ≤ 600 := by
  have : ∀ (l : List Bk) (m : Int), 0 ≤ m → m ≤ 600 → (∀ b ∈ l, ∀ p ∈ b.ps, pgB p = true) → 0 ≤ l.foldl (fun m b => mx m (mostN b.ps)) m ∧ l.foldl (fun m b => mx m (mostN b.ps)) m ≤ 600 := by
    intro l
    induction l with
    | nil => intro m h0 h1 _; exact ⟨h0, h1⟩
    | cons b r ih =>
      intro m h0 h1 hp
      have hs := mostN_le b.ps (hp b (by simp))
      rw [List.foldl_cons]
      refine ih _ ?_ ?_ fun x hx => hp x (by simp [hx])
      · unfold mx; split <;> omega
      · unfold mx; split <;> omega
  exact this bs 0 (by omega) (by omega) h
/-- What FindNext answers. -/
def nextR (bs : List Bk) : Int := if okB bs then mostB bs + 1 else 0

set_option maxHeartbeats 1000000 in
theorem greatest_any (l : List Sp) (h4 : l.length = 4) (w : World) :
    Calls Tryz.prog 107 #[.agg (spsC l).toArray] w fun e w' => e = .returned (.int .i64 (grL l)) ∧ Below w.heap.size w w' := by
  have r0 := rangeAt_new w (spsC l) 133
  have b0 : Below w.heap.size w (w.alloc (.cells (spsC l).toArray 133)) := (Below.refl _ _).alloc (Nat.le_refl _) _
  have HG : Hid (grL (l.take 4) = grL l) := by show _ = _; rw [List.take_of_length_le (by omega)]
  go_enter Tryz.func107, Tryz.ntmps107
  go_wp2_with (first | (refine wpList_box_big rfl _ _ rfl (spsC l).toArray rfl ?_) | (refine wpList_load_mid rfl 133 _ rfl w.heap.size 0 rfl (spsC l) _ r0 Tryz.underlying133 rfl (size_sps h4) ?_))
  clear r0
  generalize hw1 : w.alloc (.cells (spsC l).toArray 133) = w1 at *
  clear hw1
  go_loopw [3, 7] (fun m i w' => ∃ k : Nat, k ≤ 4 ∧ i = .int .i64 k ∧ m = .int .i64 (grL (l.take k)) ∧ Below w.heap.size w w') (fun _ i _ => 4 - (intOf i).toNat)
  case atStart => exact ⟨0, by omega, rfl, rfl, b0⟩
  case round =>
    obtain ⟨k, hk, rfl, rfl, bw⟩ := hrel
    by_cases h0 : k = 4
    · subst h0
      go_wp2
      go_ret
      exact ⟨by rw [← unhide HG]; rfl, bw⟩
    · have hlt : (k : Int) < 4 := by omega
      have hkb : k < l.length := by omega
      have hlo : (0 : Int) ≤ (k : Int) := by omega
      have HE := hide (ext_sps l k hkb)
      have HT := hide (grL_take l k hkb)
      have hbz := bw.size
      generalize l[k] = x at *
      generalize hm : grL (l.take k) = m at *
      go_wp2_with (refine wpList_index_big rfl 133 _ _ rfl (spsC l).toArray _ (k : Int) rfl rfl 132 4 2 _ Tryz.underlying133 Tryz.underlying132 rfl (by kernel_rfl) hlo hlt (unhide HE) ?_)
      go_roundw
      case rel => exact ⟨k + 1, by omega, by first | rfl | go_num, by rw [unhide HT]; rfl, bw.alloc hbz _⟩
      case measure => simp [intOf]; omega

set_option maxHeartbeats 400000 in
theorem nextK_any (ks : List Bk) (hok : okB ks = true) (w : World) :
    Calls Tryz.prog 72 #[.agg (fsC ks).toArray] w fun e w' => e = .returned (.int .i64 (mostB ks + 1)) ∧ Below w.heap.size w w' := by
  have hk4 := ok_len hok
  have hkF := ok_fours hok
  have r1 := rangeAt_new w (fsC ks) 73
  have B1 : Below w.heap.size w (w.alloc (.cells (fsC ks).toArray 73)) := (Below.refl _ _).alloc (Nat.le_refl _) _
  have hmb := mostB_le ks (ok_pages hok)
  have HG := hide (gr_most ks (ok_pages hok))
  have HR : Hid (mostB ks + 1 = mostB ks + 1) := rfl
  generalize hRR : mostB ks + 1 = R at HR ⊢
  have HRR := hide hRR
  clear hRR HR
  go_enter Tryz.func72, Tryz.ntmps72
  go_wp2_with (first | (refine wpList_box_big rfl _ _ rfl (fsC ks).toArray rfl ?_) | (refine wpList_load_mid rfl 73 _ rfl w.heap.size 0 rfl (fsC ks) _ r1 Tryz.underlying73 rfl (size_fsl hkF hk4) ?_))
  refine (callsIn_wide.1 (spans_in ks hk4 hkF _)).mono ?_
  rintro e w2 ⟨rfl, b2⟩
  clear r1
  go_wp2_with fail
  refine (greatest_any (ks.map spB) (by rw [List.length_map, hk4]) _).mono ?_
  rintro e w3 ⟨rfl, b3⟩
  rw [unhide HG]
  generalize mostB ks = m at *
  go_wp2
  go_ret
  exact ⟨by rw [← unhide HRR]; rfl, B1.trans ((b2.mono B1.size).trans (b3.mono (B1.trans (b2.mono B1.size)).size))⟩

set_option maxHeartbeats 400000 in
theorem implNext_any (a : Option Addr) (cap : Nat) (bs : List Bk) (w : World) (hf : FsAt w a bs) (hm : bs.length ≤ 9223372036854775807) :
    Calls Tryz.prog 41 #[.slice a bs.length cap] w fun e w' => e = .returned (.int .i64 (nextR bs)) ∧ Below w.heap.size w w' := by
  obtain ⟨zf, hz, hz84⟩ := zrow
  have HZ := hide hz
  clear hz
  have HR : Hid (nextR bs = if okB bs then mostB bs + 1 else 0) := rfl
  generalize nextR bs = R at *
  go_enter Tryz.func41, Tryz.ntmps41
  go_wp2_with fail
  refine (ofz_any a cap bs _ hf hm).mono ?_
  rintro e w1 ⟨ks, rfl, hk4, hkF, hke, b1⟩
  have hsz : zf.size = (fsC ks).toArray.size := by rw [hz84, List.size_toArray, len_fsC _ hkF, hk4]
  have r1 := rangeAt_new w1 (fsC ks) 73
  have B1 := b1.alloc b1.size (.cells (fsC ks).toArray 73)
  clear b1
  cases hs : okB bs
  · rw [hs] at HR
    clear hs hke
    go_wp2_with (first | (refine wpList_alloc_big rfl 73 rfl zf (unhide HZ) ?_) | (refine wpList_store_new rfl 73 _ _ rfl w1 zf (fsC ks).toArray rfl rfl rfl (size_fsa hkF hk4) hsz (one_fs ks) ?_))
    go_ret
    exact ⟨by rw [unhide HR]; rfl, B1⟩
  · obtain rfl := hke hs
    have HN := hide (nextK_any ks hs)
    rw [hs, if_pos rfl] at HR
    rw [← unhide HR] at HN
    clear hs hke
    go_wp2_with (first | (refine wpList_alloc_big rfl 73 rfl zf (unhide HZ) ?_) | (refine wpList_store_new rfl 73 _ _ rfl w1 zf (fsC ks).toArray rfl rfl rfl (size_fsa hkF hk4) hsz (one_fs ks) ?_) | (refine wpList_load_mid rfl 73 _ rfl w1.heap.size 0 rfl (fsC ks) _ r1 Tryz.underlying73 rfl (size_fsl hkF hk4) ?_))
    refine (unhide HN _).mono ?_
    rintro e w2 ⟨rfl, b2⟩
    clear r1
    go_wp2
    go_ret
    exact ⟨rfl, B1.trans (b2.mono B1.size)⟩
theorem here : True := trivial
end Go.Proofs.YtbiokmojjneleaaGreat.FindN

/-
  FindOld, of the program and of the specification: both answer the same.
-/
namespace Go.Proofs.YtbiokmojjneleaaGreat.FindD
open Go.ChangeShapes Go.WideShapes Go.ChangeAt Go.RowKit Go.Shelf OkA Big Fl ImplB ImplF ImplS _root_.Go.Proofs.YtbiokmojjneleaaGreat.Own ImplT ImplU SpecA SpecB SpecC SpecD SpecW SpecF SpecG SpecH Ok2 Pl FindP ImplO SpecX ImplL ImplN ImplM FindN
set_option linter.unusedVariables false
set_option linter.unusedSimpArgs false
attribute [local go_sem ↓] Go.wp_at_zero Go.wp_at_succ

/-- What FindOld answers. -/
def oldR (bs : List Bk) : Int := if okB bs then ((oldN bs 3 : Nat) : Int) else -1
/-- The eldest of the first k blocks. -/
def oldK (bs : List Bk) (k : Nat) : Nat := if k = 0 then 0 else oldN bs (k - 1)
theorem oldK_lt (bs : List Bk) (k : Nat) (hk : k ≤ 4) : oldK bs k < 4 := by
  unfold oldK; split
  · omega
  · have := oldN_le bs (k - 1); omega
theorem spAt (L : List Sp) (i : Nat) (hi : i < L.length) : L.getD i (0, 0) = L[i] := by rw [List.getD_eq_getElem?_getD, List.getElem?_eq_getElem hi]; rfl
theorem oldK_step (bs : List Bk) (L : List Sp) (h4 : bs.length = 4) (hL : L.length = 4) (hm : ∀ i (hi : i < 4), L[i].2 = mostN (bs[i]'(by omega)).ps) (k : Nat) (hk : k < 4) :
    oldK bs (k + 1) = if L[k].2 < (L.getD (oldK bs k) (0, 0)).2 then k else oldK bs k := by
  have ho := oldK_lt bs k (by omega)
  rw [spAt L _ (by omega), hm k hk, hm _ ho]
  cases k with
  | zero => simp [oldK, oldN]
  | succ k =>
    have e1 : oldK bs (k + 1) = oldN bs k := by simp [oldK]
    have e2 : oldK bs (k + 1 + 1) = oldN bs (k + 1) := by simp [oldK]
    have ho2 : oldN bs k < bs.length := by have := oldN_le bs k; omega
    rw [e2]
    simp only [e1, oldN]
    rw [getD_at bs (k + 1) (by omega), getD_at bs _ ho2]

set_option maxRecDepth 100000 in
set_option maxHeartbeats 1000000 in
theorem oldK_any (ks : List Bk) (hok : okB ks = true) (w : World) :
    Calls Tryz.prog 155 #[.agg (fsC ks).toArray] w fun e w' => e = .returned (.int .i64 ((oldN ks 3 : Nat) : Int)) ∧ Below w.heap.size w w' := by
  have hk4 := ok_len hok
  have hkF := ok_fours hok
  have r1 := rangeAt_new w (fsC ks) 73
  have B1 : Below w.heap.size w (w.alloc (.cells (fsC ks).toArray 73)) := (Below.refl _ _).alloc (Nat.le_refl _) _
  have HM : Hid (∀ i (hi : i < 4), ((ks.map spB)[i]'(by rw [List.length_map]; omega)).2 = mostN (ks[i]'(by omega)).ps) := fun i hi => by
    rw [List.getElem_map, (spB_eq (ok_pages hok _ (List.getElem_mem _))).1]
  clear hok
  go_enter Tryz.func155, Tryz.ntmps155
  go_wp2_with (first | (refine wpList_box_big rfl _ _ rfl (fsC ks).toArray rfl ?_) | (refine wpList_load_mid rfl 73 _ rfl w.heap.size 0 rfl (fsC ks) _ r1 Tryz.underlying73 rfl (size_fsl hkF hk4) ?_))
  refine (callsIn_wide.1 (spans_in ks hk4 hkF _)).mono ?_
  rintro e w2 ⟨rfl, b2⟩
  clear r1
  have hl4 : (ks.map spB).length = 4 := by rw [List.length_map, hk4]
  have HST := hide (oldK_step ks (ks.map spB) hk4 hl4 (unhide HM))
  have HL0 : Hid (oldK ks 0 = 0) := rfl
  have HL4 : Hid (oldK ks 4 = oldN ks 3) := rfl
  clear HM
  generalize ks.map spB = L at *
  have B2 := B1.trans (b2.mono B1.size)
  have B3 := B2.alloc B2.size (.cells (spsC L).toArray 133)
  have cL := CsAt.new w2 (spsC L) 133
  have HS1 := hide (size_sps hl4)
  have HS2 : Hid ((Tryz.prog.info? 133).map (·.size) = some (spsC L).toArray.size) := by show _ = _; rw [List.size_toArray]; exact unhide HS1
  have HO := hide (one_sps L)
  have hszL : (spsC zSp).toArray.size = (spsC L).toArray.size := by rw [List.size_toArray, List.size_toArray, len_spsC, len_spsC, hl4]; rfl
  clear B1 b2
  have rL := cL.cells
  go_wp2_with (first | (refine wpList_alloc_big rfl 133 rfl (spsC zSp).toArray (by kernel_rfl) ?_) | (refine wpList_store_new rfl 133 _ _ rfl w2 (spsC zSp).toArray (spsC L).toArray rfl rfl rfl (unhide HS2) hszL (unhide HO) ?_) | (refine wpList_load_mid rfl 133 _ rfl w2.heap.size 0 rfl (spsC L) _ rL Tryz.underlying133 rfl (unhide HS1) ?_))
  clear rL
  have hs3 : w2.heap.size < (w2.alloc (.cells (spsC L).toArray 133)).heap.size := by simp
  generalize hw3 : w2.alloc (.cells (spsC L).toArray 133) = w3 at *
  generalize hsb : w2.heap.size = sb at *
  clear hw3 hsb
  go_loopw [4, 10] (fun o i w' => ∃ k : Nat, k ≤ 4 ∧ i = .int .i64 k ∧ o = .int .i64 (oldK ks k : Nat) ∧ CsAt w' sb (spsC L) ∧ sb < w'.heap.size ∧ Below w.heap.size w w') (fun _ i _ => 4 - (intOf i).toNat)
  case atStart => exact ⟨0, by omega, rfl, by rw [unhide HL0]; rfl, cL, hs3, B3⟩
  case round =>
    clear cL hs3 B3 B2
    obtain ⟨k, hk, rfl, rfl, hL, hsl, hB⟩ := hrel
    by_cases h0 : k = 4
    · subst h0
      go_wp2
      go_ret
      exact ⟨by rw [← unhide HL4]; rfl, hB⟩
    · have hlt : (k : Int) < 4 := by omega
      have hkb : k < L.length := by omega
      have hlo : (0 : Int) ≤ (k : Int) := by omega
      have HE := hide (ext_sps L k hkb)
      have HT := hide (unhide HST k (by omega))
      have hok := oldK_lt ks k hk
      have hBz := hB.size
      generalize oldK ks k = o at *
      have hob : o < L.length := by omega
      have ho0 : (0 : Int) ≤ (o : Int) := by omega
      have ho4 : (o : Int) < 4 := by omega
      rw [spAt L o hob] at HT
      have HO2 := hide (csSpan hL o hob 1 _ rfl)
      generalize L[k] = x at *
      generalize L[o] = y at *
      have cX := CsAt.new wr [.int .i64 x.1, .int .i64 x.2] 132
      have cL2 := hL.alloc hsl (.cells #[.int .i64 x.1, .int .i64 x.2] 132)
      have hB2 := hB.alloc hBz (.cells #[.int .i64 x.1, .int .i64 x.2] 132)
      have cY : (wr.alloc (.cells #[.int .i64 x.1, .int .i64 x.2] 132)).cell? ⟨sb, o * 2 + 1, none⟩ = some (.int .i64 y.2) := by
        rw [World.cell?_alloc_lt _ _ _ hsl]; exact unhide HO2
      have hs2 : sb < (wr.alloc (.cells #[.int .i64 x.1, .int .i64 x.2] 132)).heap.size := by simp; omega
      clear HO2
      go_wp2_with (refine wpList_index_big rfl 133 _ _ rfl (spsC L).toArray _ (k : Int) rfl rfl 132 4 2 _ Tryz.underlying133 Tryz.underlying132 rfl (by kernel_rfl) hlo hlt (unhide HE) ?_)
      generalize hbb : wr.heap.size = Bx at *
      generalize wr.alloc (.cells #[.int .i64 x.1, .int .i64 x.2] 132) = w5 at *
      have cx1 := cX.cell 1 _ rfl
      by_cases hxy : x.2 < y.2
      · have hd : decide (x.2 < y.2) = true := by simpa using hxy
        rw [if_pos hxy] at HT
        clear hxy
        refine wp_region_noPanic ?_
        refine wp_region_held_drew (S := fun w' => w'.cell? ⟨Bx, 1, none⟩ = some (.int .i64 x.2) ∧ w'.cell? ⟨sb, o * 2 + 1, none⟩ = some (.int .i64 y.2)) (by kernel_rfl) (⟨by simpa using cx1, by simpa using cY⟩) (fun hHeld => ?_)
        refine takeL 0 (.pointer (some ⟨Bx, 1, none⟩)) rfl (by kernel_rfl) (by kernel_rfl) (by kernel_rfl) (fun _ _ _ h => h) (Or.inl ⟨rfl, fun w9 hSw => by go_simp⟩) hHeld ?_
        try simp only [Act.put, List.setIfInBounds_toArray, List.set_cons_zero, List.set_cons_succ]
        refine takeL 1 (.int .i64 x.2) rfl (by kernel_rfl) (by kernel_rfl) (by kernel_rfl) (fun _ _ _ h => h) (Or.inl ⟨rfl, fun w9 hSw => by have hc := hSw.1; go_simp⟩) hHeld ?_
        try simp only [Act.put, List.setIfInBounds_toArray, List.set_cons_zero, List.set_cons_succ]
        refine takeL 2 (.int .i64 (o : Nat)) rfl (by kernel_rfl) (by kernel_rfl) (by kernel_rfl) (fun _ _ _ h => h) (Or.inl ⟨rfl, fun _ _ => rfl⟩) hHeld ?_
        try simp only [Act.put, List.setIfInBounds_toArray, List.set_cons_zero, List.set_cons_succ]
        refine takeL 3 (.pointer (some ⟨sb, o * 2, none⟩)) rfl (by kernel_rfl) (by kernel_rfl) (by kernel_rfl) (fun _ _ _ h => h) (Or.inl ⟨rfl, fun w9 hSw => by go_simp⟩) hHeld ?_
        try simp only [Act.put, List.setIfInBounds_toArray, List.set_cons_zero, List.set_cons_succ]
        refine takeL 4 (.pointer (some ⟨sb, o * 2 + 1, none⟩)) rfl (by kernel_rfl) (by kernel_rfl) (by kernel_rfl) (fun _ _ _ h => h) (Or.inl ⟨rfl, fun w9 hSw => by go_simp⟩) hHeld ?_
        try simp only [Act.put, List.setIfInBounds_toArray, List.set_cons_zero, List.set_cons_succ]
        refine takeL 5 (.int .i64 y.2) rfl (by kernel_rfl) (by kernel_rfl) (by kernel_rfl) (fun _ _ _ h => h) (Or.inl ⟨rfl, fun w9 hSw => by have hc := hSw.2; go_simp⟩) hHeld ?_
        try simp only [Act.put, List.setIfInBounds_toArray, List.set_cons_zero, List.set_cons_succ]
        refine takeL 6 (.bool true) rfl (by kernel_rfl) (by kernel_rfl) (by kernel_rfl) (fun _ _ _ h => h) (Or.inl ⟨rfl, fun w9 hSw => by go_simp⟩) hHeld ?_
        try simp only [Act.put, List.setIfInBounds_toArray, List.set_cons_zero, List.set_cons_succ]
        refine wpAnyH_done (by kernel_rfl) ?_ _
        refine NoPanic.normal ?_
        clear hHeld
        go_wp2
        go_roundw
        case rel => exact ⟨k + 1, by omega, by first | rfl | go_num, by rw [unhide HT], csAt_drew cL2, hs2, hB2.drew⟩
        case measure => simp [intOf]; omega
      · have hd : decide (x.2 < y.2) = false := by simpa using hxy
        rw [if_neg hxy] at HT
        clear hxy
        refine wp_region_noPanic ?_
        refine wp_region_held_drew (S := fun w' => w'.cell? ⟨Bx, 1, none⟩ = some (.int .i64 x.2) ∧ w'.cell? ⟨sb, o * 2 + 1, none⟩ = some (.int .i64 y.2)) (by kernel_rfl) (⟨by simpa using cx1, by simpa using cY⟩) (fun hHeld => ?_)
        refine takeL 0 (.pointer (some ⟨Bx, 1, none⟩)) rfl (by kernel_rfl) (by kernel_rfl) (by kernel_rfl) (fun _ _ _ h => h) (Or.inl ⟨rfl, fun w9 hSw => by go_simp⟩) hHeld ?_
        try simp only [Act.put, List.setIfInBounds_toArray, List.set_cons_zero, List.set_cons_succ]
        refine takeL 1 (.int .i64 x.2) rfl (by kernel_rfl) (by kernel_rfl) (by kernel_rfl) (fun _ _ _ h => h) (Or.inl ⟨rfl, fun w9 hSw => by have hc := hSw.1; go_simp⟩) hHeld ?_
        try simp only [Act.put, List.setIfInBounds_toArray, List.set_cons_zero, List.set_cons_succ]
        refine takeL 2 (.int .i64 (o : Nat)) rfl (by kernel_rfl) (by kernel_rfl) (by kernel_rfl) (fun _ _ _ h => h) (Or.inl ⟨rfl, fun _ _ => rfl⟩) hHeld ?_
        try simp only [Act.put, List.setIfInBounds_toArray, List.set_cons_zero, List.set_cons_succ]
        refine takeL 3 (.pointer (some ⟨sb, o * 2, none⟩)) rfl (by kernel_rfl) (by kernel_rfl) (by kernel_rfl) (fun _ _ _ h => h) (Or.inl ⟨rfl, fun w9 hSw => by go_simp⟩) hHeld ?_
        try simp only [Act.put, List.setIfInBounds_toArray, List.set_cons_zero, List.set_cons_succ]
        refine takeL 4 (.pointer (some ⟨sb, o * 2 + 1, none⟩)) rfl (by kernel_rfl) (by kernel_rfl) (by kernel_rfl) (fun _ _ _ h => h) (Or.inl ⟨rfl, fun w9 hSw => by go_simp⟩) hHeld ?_
        try simp only [Act.put, List.setIfInBounds_toArray, List.set_cons_zero, List.set_cons_succ]
        refine takeL 5 (.int .i64 y.2) rfl (by kernel_rfl) (by kernel_rfl) (by kernel_rfl) (fun _ _ _ h => h) (Or.inl ⟨rfl, fun w9 hSw => by have hc := hSw.2; go_simp⟩) hHeld ?_
        try simp only [Act.put, List.setIfInBounds_toArray, List.set_cons_zero, List.set_cons_succ]
        refine takeL 6 (.bool false) rfl (by kernel_rfl) (by kernel_rfl) (by kernel_rfl) (fun _ _ _ h => h) (Or.inl ⟨rfl, fun w9 hSw => by go_simp⟩) hHeld ?_
        try simp only [Act.put, List.setIfInBounds_toArray, List.set_cons_zero, List.set_cons_succ]
        refine wpAnyH_done (by kernel_rfl) ?_ _
        refine NoPanic.normal ?_
        clear hHeld
        go_wp2
        go_roundw
        case rel => exact ⟨k + 1, by omega, by first | rfl | go_num, by rw [unhide HT], csAt_drew cL2, hs2, hB2.drew⟩
        case measure => simp [intOf]; omega

theorem here : True := trivial
end Go.Proofs.YtbiokmojjneleaaGreat.FindD
