/-
  FindLast, of the program and of the specification: both answer the same.
-/
import Derived.Test.YtkikeapfjpnkgaaBaP
import Derived.Test.YtkikeapfjpnkgaaBaI
namespace Go.Proofs.Ytkikeapfjpnkgaa.FindL
open Go.ChangeShapes Go.WideShapes Go.ChangeAt Go.RowKit Go.Shelf OkA Big Fl ImplB ImplF ImplS _root_.Go.Proofs.Ytkikeapfjpnkgaa.Own ImplT ImplU SpecA SpecB SpecC SpecD SpecW SpecF SpecG SpecH Ok2 Pl FindP SpecX ImplL
set_option linter.unusedVariables false
set_option linter.unusedSimpArgs false
attribute [local go_sem ↓] Go.wp_at_zero Go.wp_at_succ

/-! Plain lists. -/
/-- Nothing, or a record of the address that is ok. -/
def Lst (addr : Int) (r : Rc) : Prop := r = zRc ∨ (recB r.k r.s r.a r.v = true ∧ r.a = addr)
theorem lastS_ok (addr : Int) (o : Rc) (p : Pg) (h : Lst addr o) (hp : pgB p = true) : Lst addr (lastS addr o p) := by
  unfold lastS
  cases hl : laterB addr o p
  · exact h
  · simp only [if_true]
    simp [laterB] at hl
    refine .inr ⟨?_, hl.1.2⟩
    have : pgB p = recB p.k p.s p.a p.v := by unfold pgB; rw [if_pos hl.1.1]
    rw [this] at hp; exact hp
theorem lastP_ok (addr : Int) (ps : List Pg) : ∀ o, Lst addr o → (∀ p ∈ ps, pgB p = true) → Lst addr (lastP addr o ps) := by
  induction ps with
  | nil => intro o h _; exact h
  | cons p r ih => intro o h hp; exact ih _ (lastS_ok addr o p h (hp p (by simp))) fun x hx => hp x (by simp [hx])
theorem lastF_ok (addr : Int) (bs : List Bk) : ∀ o, Lst addr o → (∀ b ∈ bs, ∀ p ∈ b.ps, pgB p = true) → Lst addr (lastF addr o bs) := by
  induction bs with
  | nil => intro o h _; exact h
  | cons b r ih => intro o h hp; exact ih _ (lastP_ok addr b.ps o h (hp b (by simp))) fun x hx => hp x (by simp [hx])
theorem lastR_ok (bs : List Bk) (addr : Int) (h : okB bs = true) : Lst addr (lastR bs addr) := lastF_ok addr bs zRc (.inl rfl) (ok_pages h)
def noRc (r : Rc) : Bool := r.k == 0 && r.s == 0 && r.a == 0 && r.v == 0
theorem lst_no {addr : Int} {r : Rc} (h : Lst addr r) : (!noRc r) = decide (0 < r.s) := by
  rcases h with rfl | ⟨h, _⟩
  · rfl
  · simp [recB, numB, inB] at h
    have e1 : noRc r = false := by unfold noRc; simp; omega
    rw [e1]; simp; omega
theorem lst_out {addr : Int} {r : Rc} (h : Lst addr r) (ha : inB addr 1 6 = false) : r = zRc := by
  rcases h with h | ⟨h, rfl⟩
  · exact h
  · simp [recB, numB, ha] at h
/-- What FindLast answers. -/
def flR (bs : List Bk) (addr : Int) : Rc := if okB bs && inB addr 1 6 then lastR bs addr else zRc
def flO (bs : List Bk) (addr : Int) : Bool := okB bs && inB addr 1 6 && lastO bs addr
theorem flR_ok {bs : List Bk} {addr : Int} (h : okB bs = true) : flR bs addr = lastR bs addr := by
  unfold flR; rw [h, Bool.true_and]
  cases ha : inB addr 1 6
  · rw [if_neg (by simp), lst_out (lastR_ok bs addr h) ha]
  · rfl
theorem flO_ok {bs : List Bk} {addr : Int} (h : okB bs = true) : flO bs addr = !noRc (lastR bs addr) := by
  unfold flO; rw [h, Bool.true_and]
  cases ha : inB addr 1 6
  · rw [lst_out (lastR_ok bs addr h) ha]; rfl
  · rw [lst_no (lastR_ok bs addr h)]; rfl
def FlPost (w : World) (r : Rc) (o : Bool) (e : Ending) (w' : World) : Prop := e = .returned (.tuple #[.agg (rcC r).toArray, .bool o]) ∧ Below w.heap.size w w'

set_option maxRecDepth 100000 in
set_option maxHeartbeats 1000000 in
theorem implLast_any (a : Option Addr) (cap : Nat) (addr : Int) (bs : List Bk) (w : World) (hf : FsAt w a bs) (hm : bs.length ≤ 9223372036854775807) :
    Calls Try.prog 27 #[.slice a bs.length cap, .int .i64 addr] w fun e w' => FlPost w (flR bs addr) (flO bs addr) e w' := by
  obtain ⟨zf, hz, hz84⟩ := zrow
  have HZ := hide hz
  clear hz
  have cR : CsAt (w.alloc (.cells #[.int .i64 0, .int .i64 0, .int .i64 0, .int .i64 0] 25)) w.heap.size (rcC zRc) := CsAt.new w (rcC zRc) 25
  have B0 : Below w.heap.size w (w.alloc (.cells #[.int .i64 0, .int .i64 0, .int .i64 0, .int .i64 0] 25)) := (Below.refl _ _).alloc (Nat.le_refl _) _
  have hs0 : w.heap.size < (w.alloc (.cells #[.int .i64 0, .int .i64 0, .int .i64 0, .int .i64 0] 25)).heap.size := by simp
  have HF := hide (hf.below B0)
  clear hf
  have HR : Hid (okB bs = false → flR bs addr = zRc) := fun h => by unfold flR; rw [h]; rfl
  have HO : Hid (okB bs = false → flO bs addr = false) := fun h => by unfold flO; rw [h]; rfl
  have HR2 : Hid (okB bs = true → flR bs addr = lastR bs addr) := fun h => flR_ok h
  have HO2 : Hid (okB bs = true → flO bs addr = !noRc (lastR bs addr)) := fun h => flO_ok h
  generalize flR bs addr = r at *
  generalize flO bs addr = o at *
  go_enter Try.func27, Try.ntmps27
  go_wp2_with fail
  refine (ofz_any a cap bs _ (unhide HF) hm).mono ?_
  rintro e w1 ⟨ks, rfl, hk4, hkF, hke, b1⟩
  have hsz : zf.size = (fsC ks).toArray.size := by rw [hz84, List.size_toArray, len_fsC _ hkF, hk4]
  have r1 := rangeAt_new w1 (fsC ks) 75
  have c1 := (cR.below b1 hs0).alloc (Nat.lt_of_lt_of_le hs0 b1.size) (.cells (fsC ks).toArray 75)
  have hs1 : w.heap.size < (w1.alloc (.cells (fsC ks).toArray 75)).heap.size := by have := Nat.lt_of_lt_of_le hs0 b1.size; simp; omega
  have B1 := (B0.trans (b1.mono B0.size)).alloc (B0.trans (b1.mono B0.size)).size (.cells (fsC ks).toArray 75)
  clear b1 B0 cR
  cases hs : okB bs
  · have HR := hide (unhide HR hs)
    have HO := hide (unhide HO hs)
    clear hs hke
    have d0 := c1.cell 0 _ rfl
    have d1 := c1.cell 1 _ rfl
    have d2 := c1.cell 2 _ rfl
    have d3 := c1.cell 3 _ rfl
    have f0 := c1.frozen 0 (by simp [rcC])
    have f1 := c1.frozen 1 (by simp [rcC])
    have f2 := c1.frozen 2 (by simp [rcC])
    have f3 := c1.frozen 3 (by simp [rcC])
    have p1 := c1.put (rcC zRc) rfl
    have pB := below_setCells w.heap.size (Nat.le_refl _) (rcC zRc) 0 _ B1
    go_wp2_with (first | (refine wpList_alloc_big rfl 75 rfl zf (unhide HZ) ?_) | (refine wpList_store_new rfl 75 _ _ rfl w1 zf (fsC ks).toArray rfl rfl rfl (size_fsa hkF hk4) hsz (one_fs ks) ?_))
    refine bodyPost_ret (res_cell_tmp Try.results27 _ _ w.heap.size (rcC zRc) _ rfl p1.cells Try.underlying25 rfl (SpecL.size_rc zRc)) rfl ?_
    exact ⟨by rw [unhide HR, unhide HO]; rfl, pB⟩
  · obtain rfl := hke hs
    have HR := hide (unhide HR2 hs)
    have HO := hide (unhide HO2 hs)
    clear hs hke
    go_wp2_with (first | (refine wpList_alloc_big rfl 75 rfl zf (unhide HZ) ?_) | (refine wpList_store_new rfl 75 _ _ rfl w1 zf (fsC ks).toArray rfl rfl rfl (size_fsa hkF hk4) hsz (one_fs ks) ?_) | (refine wpList_load_mid rfl 75 _ rfl w1.heap.size 0 rfl (fsC ks) _ r1 Try.underlying75 rfl (size_fsl hkF hk4) ?_))
    refine (callsIn_wide.1 (last_in ks addr hk4 hkF _)).mono ?_
    rintro e w2 ⟨rfl, b2⟩
    clear r1
    rw [← unhide HR] at HO ⊢
    have c2 := c1.below b2 hs1
    have hs2 := Nat.lt_of_lt_of_le hs1 b2.size
    have B2 := B1.trans (b2.mono B1.size)
    clear b2 B1 c1
    have c3 := c2.alloc hs2 (.cells (rcC r).toArray 25)
    have B3 := B2.alloc B2.size (.cells (rcC r).toArray 25)
    have cX := CsAt.new w2 (rcC r) 25
    have hne : w.heap.size ≠ w2.heap.size := by omega
    rw [show (rcC r).toArray = #[.int .i64 r.k, .int .i64 r.s, .int .i64 r.a, .int .i64 r.v] from rfl] at *
    go_wp2
    generalize w2.alloc (.cells #[.int .i64 r.k, .int .i64 r.s, .int .i64 r.a, .int .i64 r.v] 25) = w3 at *
    generalize w2.heap.size = Bx at *
    clear B2 c2
    have HS := hide (SpecL.size_rc r)
    have HSA := hide (SpecL.size_rca r)
    have HO1 := hide (SpecL.one_rc r)
    refine wp_region_noPanic ?_
    refine wp_region_held_drew (S := fun w' => CsAt w' Bx (rcC r)) (by kernel_rfl) (⟨fun j v hv => cX.cells j v hv, fun j hj => cX.free j hj⟩) (fun hHeld => ?_)
    refine takeL 0 (_) rfl (by kernel_rfl) (by kernel_rfl) (by kernel_rfl) (fun _ _ _ h => h) (yieldsIf_load_mid rfl 25 _ rfl Bx 0 rfl (rcC r) _ (fun _ h => h.cells) Try.underlying25 rfl (unhide HS)) hHeld ?_
    try simp only [Act.put, List.setIfInBounds_toArray, List.set_cons_zero, List.set_cons_succ]
    refine takeL 1 (_) rfl (by kernel_rfl) (by kernel_rfl) (by kernel_rfl) (fun _ _ _ h => h) (yieldsIf_load_mid rfl 25 _ rfl Bx 0 rfl (rcC r) _ (fun _ h => h.cells) Try.underlying25 rfl (unhide HS)) hHeld ?_
    try simp only [Act.put, List.setIfInBounds_toArray, List.set_cons_zero, List.set_cons_succ]
    refine takeL 2 (.agg #[.int .i64 0, .int .i64 0, .int .i64 0, .int .i64 0]) rfl (by kernel_rfl) (by kernel_rfl) (by kernel_rfl) (fun _ _ _ h => h) (Or.inl ⟨rfl, fun w9 hSw => by go_simp⟩) hHeld ?_
    try simp only [Act.put, List.setIfInBounds_toArray, List.set_cons_zero, List.set_cons_succ]
    refine takeL 3 (.bool (!noRc r)) rfl (by kernel_rfl) (by kernel_rfl) (by kernel_rfl) (fun _ _ _ h => h) (Or.inl ⟨rfl, fun w9 hSw => by unfold noRc rcC; go_simp; by_cases q1 : r.k = 0 <;> by_cases q2 : r.s = 0 <;> by_cases q3 : r.a = 0 <;> by_cases q4 : r.v = 0 <;> simp [q1, q2, q3, q4]⟩) hHeld ?_
    try simp only [Act.put, List.setIfInBounds_toArray, List.set_cons_zero, List.set_cons_succ]
    refine oneL 4 rfl (by kernel_rfl) rfl (fun K hK => ?_)
    refine wp_store_mid 25 _ _ rfl w.heap.size 0 (rcC r).toArray rfl rfl ((World.there_drew _ _ _ _).2 c3.free) (unhide HSA) (unhide HO1) ?_
    refine hK.out _ _ (hHeld.other (by omega) _ _) (fun hHeld => ?_)
    clear hK K
    try simp only [Act.put, List.setIfInBounds_toArray, List.set_cons_zero, List.set_cons_succ]
    refine takeL 5 (.bool (!noRc r)) rfl (by kernel_rfl) (by kernel_rfl) (by kernel_rfl) (fun _ _ _ h => h) (Or.inl ⟨rfl, fun _ _ => rfl⟩) hHeld ?_
    try simp only [Act.put, List.setIfInBounds_toArray, List.set_cons_zero, List.set_cons_succ]
    refine wpAnyH_done (by kernel_rfl) ?_ _
    refine NoPanic.normal ?_
    go_wp2_with fail
    refine bodyPost_ret (res_cell_tmp Try.results27 _ _ w.heap.size (rcC r) _ rfl (World.rangeAt_setCells_same _ _ _ _ ((World.there_drew _ _ _ _).2 c3.free)) Try.underlying25 rfl (unhide HS)) rfl (unhide ?_)
    exact ⟨by rw [unhide HO]; rfl, below_setCells _ (Nat.le_refl _) _ _ _ B3.drew⟩
theorem here : True := trivial
end Go.Proofs.Ytkikeapfjpnkgaa.FindL
