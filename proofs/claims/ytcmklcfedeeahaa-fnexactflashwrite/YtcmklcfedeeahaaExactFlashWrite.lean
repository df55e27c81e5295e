/-
  At every argument the program's FlashWrite answers as the specification's; it writes into no argument and keeps nothing of one; its answer owns its memory, behind another call too: the given statement, with no condition.
-/
import Derived.Test.YtcmklcfedeeahaaLawV
import Derived.Test.YtcmklcfedeeahaaImplX
import Derived.Test.YtcmklcfedeeahaaFacts
namespace Go.Proofs.Ytcmklcfedeeahaa.ExactFlashWrite
open Go.ChangeShapes Go.WideShapes Go.ChangeAt Go.RowKit Go.Joins OkA Big Fl ImplB ImplF ImplS Own ImplT ImplU SpecA SpecB SpecC SpecD SpecW SpecX SpecY ImplW ImplX MarkB LawsA LawsB LawsE OpenF LawV
set_option linter.unusedVariables false
attribute [local go_sem ↓] Go.wp_at_zero Go.wp_at_succ

open Facts (own laidOut)
theorem small_wr (bs : List Bk) (blk rk rs ra rv : Int) (t : Bool) : Small (wrR bs blk rk rs ra rv t) := by
  unfold wrR
  split
  · rename_i h
    rw [Bool.and_eq_true, Bool.and_eq_true] at h
    have h4 := ok_len h.1.1
    have hF := ok_fours h.1.1
    obtain ⟨k, rfl, hk⟩ := in_range h.1.2
    split
    · exact ⟨by omega, hF⟩
    · exact ⟨by rw [wrL_len]; omega, wrL_fours hF (by rw [Int.toNat_natCast]; omega)⟩
  · exact ⟨by simp, fun b hb => by simp at hb⟩

set_option maxRecDepth 100000 in
set_option maxHeartbeats 2000000 in
theorem walk (a0 : Option Addr) (cap0 : Nat) (z0 : List Bk) (n1 rk rs ra rv : Int) (o3 : Bool) (w : World) (h0 : FsAt w a0 z0) (fit : Fit z0) :
    Calls Try.prog 14 #[.slice a0 z0.length cap0, .int .i64 n1, .agg #[.int .i64 rk, .int .i64 rs, .int .i64 ra, .int .i64 rv], .bool o3] w fun e w' => e = .returned (.bool true) ∧ Below w.heap.size w w' := by
  have b0 : Below w.heap.size w (w.alloc (.cells #[.int .i64 rk, .int .i64 rs, .int .i64 ra, .int .i64 rv] 56)) := (Below.refl _ _).alloc (Nat.le_refl _) _
  have c2 : (w.alloc (.cells #[.int .i64 rk, .int .i64 rs, .int .i64 ra, .int .i64 rv] 56)).rangeAt w.heap.size 0 [.int .i64 rk, .int .i64 rs, .int .i64 ra, .int .i64 rv] := rangeAt_new w _ _
  have hwlt : w.heap.size < (w.alloc (.cells #[.int .i64 rk, .int .i64 rs, .int .i64 ra, .int .i64 rv] 56)).heap.size := by simp
  have h1 := h0.below b0
  have HF := hide h1
  have HS := hide (szBlockS_any a0 cap0 z0 _ h1 fit)
  have HSP := hide (fun g cap w' (h : FsAt w' g z0) hm => specWrite_any g cap n1 rk rs ra rv o3 z0 w' h hm)
  have HIM := hide (fun g cap w' (h : FsAt w' g z0) hm => implWrite_any g cap n1 rk rs ra rv o3 z0 w' h hm)
  have HSM := hide (small_wr z0 n1 rk rs ra rv o3)
  have HTR := hide (toRec_any rk rs ra rv)
  have hR4 : (wrR z0 n1 rk rs ra rv o3).length ≤ 4 := (small_wr z0 n1 rk rs ra rv o3).1
  generalize wrR z0 n1 rk rs ra rv o3 = R at *
  generalize SpecD.wrB z0 n1 rk rs ra rv = ok at *
  generalize hRn : R.length = rn at *
  have HRN := hide hRn
  have hrni : (rn : Int) ≤ 4 := by omega
  have hrn0 : (0 : Int) ≤ (rn : Int) := by omega
  clear h0 h1 hRn
  go_enter Try.func14, Try.ntmps14
  go_wp2_with fail
  generalize w.alloc (.cells #[.int .i64 rk, .int .i64 rs, .int .i64 ra, .int .i64 rv] 56) = w0 at *
  refine (unhide HS).mono ?_
  rintro e w1 ⟨r, rfl, r0, r1, hr, b1⟩
  by_cases hneg : r < 0
  · clear hr c2
    go_wp2
    go_ret
    exact ⟨rfl, b0.trans (b1.mono b0.size)⟩
  obtain ⟨hl, hp⟩ := hr (by omega)
  have HP := hide hp
  have HL := hide hl
  clear hr hp hl HS
  have rr1 : w1.drew.rangeAt w.heap.size 0 [.int .i64 rk, .int .i64 rs, .int .i64 ra, .int .i64 rv] := by simpa using rangeAt_below c2 b1 hwlt
  have B1 := b1.drew
  have HF1 := hide ((unhide HF).below B1)
  clear b1
  -- what the specification answers
  go_wp2_with fail
  refine wp_region_noPanic ?_
  refine wp_region_held_drew (S := fun w' => w'.rangeAt w.heap.size 0 [.int .i64 rk, .int .i64 rs, .int .i64 ra, .int .i64 rv]) (by kernel_rfl) (rr1) (fun hHeld => ?_)
  refine takeL 0 (.slice a0 z0.length cap0) rfl (by kernel_rfl) (by kernel_rfl) (by kernel_rfl) (fun _ _ _ h => h) (Or.inl ⟨rfl, fun _ _ => rfl⟩) hHeld ?_
  try simp only [Act.put, List.setIfInBounds_toArray, List.set_cons_zero, List.set_cons_succ]
  refine takeL 2 (.int .i64 n1) rfl (by kernel_rfl) (by kernel_rfl) (by kernel_rfl) (fun _ _ _ h => h) (Or.inl ⟨rfl, fun _ _ => rfl⟩) hHeld ?_
  try simp only [Act.put, List.setIfInBounds_toArray, List.set_cons_zero, List.set_cons_succ]
  refine takeL 3 (.agg #[.int .i64 rk, .int .i64 rs, .int .i64 ra, .int .i64 rv]) rfl (by kernel_rfl) (by kernel_rfl) (by kernel_rfl) (fun _ _ _ h => h) (yieldsIf_load_mid rfl 56 _ rfl w.heap.size 0 rfl [.int .i64 rk, .int .i64 rs, .int .i64 ra, .int .i64 rv] _ (fun _ h => h) Try.underlying56 rfl (by kernel_rfl)) hHeld ?_
  try simp only [Act.put, List.setIfInBounds_toArray, List.set_cons_zero, List.set_cons_succ]
  refine takeL 5 (.bool o3) rfl (by kernel_rfl) (by kernel_rfl) (by kernel_rfl) (fun _ _ _ h => h) (Or.inl ⟨rfl, fun _ _ => rfl⟩) hHeld ?_
  try simp only [Act.put, List.setIfInBounds_toArray, List.set_cons_zero, List.set_cons_succ]
  refine oneL 1 rfl (by kernel_rfl) rfl (fun K hK => ?_)
  go_simp
  refine (toBlockS_any a0 cap0 z0 _ (unhide HF1) (unhide HL) (unhide HP)).mono ?_
  rintro e w2 ⟨g2, G2, rfl, p2, b2⟩
  go_wp2_with fail
  have B2a := B1.trans (b2.mono B1.size)
  refine hK.out _ _ (rangeAt_below c2 B2a hwlt) (fun hHeld => ?_)
  clear hK K
  try simp only [Act.put, List.setIfInBounds_toArray, List.set_cons_zero, List.set_cons_succ]
  refine oneL 4 rfl (by kernel_rfl) rfl (fun K hK => ?_)
  go_simp
  refine (unhide HTR _).mono ?_
  rintro e w2t ⟨rfl, b2t⟩
  go_wp2_with fail
  have B2 := B2a.trans (b2t.mono B2a.size)
  have p2t := p2.below b2t (Nat.le_refl _)
  refine hK.out _ _ (rangeAt_below c2 B2 hwlt) (fun hHeld => ?_)
  clear hK K B1 B2a b2 b2t p2
  try simp only [Act.put, List.setIfInBounds_toArray, List.set_cons_zero, List.set_cons_succ]
  refine oneL 6 rfl (by kernel_rfl) rfl (fun K hK => ?_)
  go_simp
  refine (unhide HSP _ _ _ p2t.fs (unhide HL)).mono ?_
  rintro e w3 ⟨vs, rfl, ns, b3⟩
  go_wp2_with fail
  refine hK.out _ _ (rangeAt_below hHeld b3 (Nat.lt_of_lt_of_le hwlt B2.size)) (fun hHeld => ?_)
  clear hK K p2t
  try simp only [Act.put, List.setIfInBounds_toArray, List.set_cons_zero, List.set_cons_succ]
  refine takeL 7 (.tuple #[vs, .bool ok]) rfl (by kernel_rfl) (by kernel_rfl) (by kernel_rfl) (fun _ _ _ h => h) (Or.inl ⟨rfl, fun _ _ => rfl⟩) hHeld ?_
  try simp only [Act.put, List.setIfInBounds_toArray, List.set_cons_zero, List.set_cons_succ]
  refine takeL 8 (vs) rfl (by kernel_rfl) (by kernel_rfl) (by kernel_rfl) (fun _ _ _ h => h) (Or.inl ⟨rfl, fun w9 hSw => by go_simp⟩) hHeld ?_
  try simp only [Act.put, List.setIfInBounds_toArray, List.set_cons_zero, List.set_cons_succ]
  refine takeL 9 (.bool ok) rfl (by kernel_rfl) (by kernel_rfl) (by kernel_rfl) (fun _ _ _ h => h) (Or.inl ⟨rfl, fun w9 hSw => by go_simp⟩) hHeld ?_
  try simp only [Act.put, List.setIfInBounds_toArray, List.set_cons_zero, List.set_cons_succ]
  refine takeL 10 (vs) rfl (by kernel_rfl) (by kernel_rfl) (by kernel_rfl) (fun _ _ _ h => h) (Or.inl ⟨rfl, fun _ _ => rfl⟩) hHeld ?_
  try simp only [Act.put, List.setIfInBounds_toArray, List.set_cons_zero, List.set_cons_succ]
  refine takeL 11 (.bool ok) rfl (by kernel_rfl) (by kernel_rfl) (by kernel_rfl) (fun _ _ _ h => h) (Or.inl ⟨rfl, fun _ _ => rfl⟩) hHeld ?_
  try simp only [Act.put, List.setIfInBounds_toArray, List.set_cons_zero, List.set_cons_succ]
  refine wpAnyH_done (by kernel_rfl) ?_ _
  refine NoPanic.normal ?_
  have B3 := B2.trans (b3.mono B2.size)
  have s23 := b3.size
  clear b3 B2 hHeld HF1 rr1
  -- what the program answers
  go_wp2_with fail
  refine (toBlockS_any a0 cap0 z0 _ ((unhide HF).below B3) (unhide HL) (unhide HP)).mono ?_
  rintro e w4 ⟨g4, G4, rfl, p4, b4⟩
  have s4 := b4.size
  have B4 := B3.trans (b4.mono B3.size)
  have q4 := rangeAt_below c2 B4 hwlt
  have e0 := q4 0 _ rfl
  have e1 := q4 1 _ rfl
  have e2 := q4 2 _ rfl
  have e3 := q4 3 _ rfl
  simp only [Nat.zero_add] at e0 e1 e2 e3
  have hi4 := p4.hi
  clear q4
  go_wp2_with fail
  clear e0 e1 e2 e3
  refine (unhide HTR _).mono ?_
  rintro e wt ⟨rfl, bt⟩
  have st := bt.size
  have p4t := p4.below bt (Nat.le_refl _)
  have B4t := B4.trans (bt.mono B4.size)
  have b4t := b4.trans (bt.mono s4)
  clear B4 b4 p4 bt
  go_wp2_with fail
  refine (unhide HIM _ _ _ p4t.fs (by have := unhide HL; omega)).mono ?_
  rintro e w5 ⟨vi, rfl, ni, b5⟩
  have s5 := b5.size
  have B5 := B4t.trans (b5.mono B4t.size)
  have C5 := b4t.trans (b5.mono b4t.size)
  have p5 := p4t.below b5 (Nat.le_refl _)
  have ns5 := ns.below C5 (Nat.le_refl _)
  clear b4t b5 p4t B4t
  -- the same
  go_wp2_with fail
  refine (eqV (unhide HSM) ni ns5).mono ?_
  rintro e w6 ⟨rfl, b6⟩
  have s6 := b6.size
  have B6 := B5.trans (b6.mono B5.size)
  have C6 := C5.trans (b6.mono C5.size)
  have p6 := p5.below b6 (Nat.le_refl _)
  have ni6 := ni.below b6 (Nat.le_refl _)
  clear b6 B5 C5 p5 ns5 ni
  -- the argument is as it was
  go_wp2_with fail
  refine (toBlockS_any a0 cap0 z0 _ ((unhide HF).below B6) (unhide HL) (unhide HP)).mono ?_
  rintro e w7 ⟨g7, G7, rfl, p7, b7⟩
  have s7 := b7.size
  have B7 := B6.trans (b7.mono B6.size)
  have C7 := C6.trans (b7.mono C6.size)
  have q7 := p6.below b7 (Nat.le_refl _)
  have ni7 := ni6.below b7 (Nat.le_refl _)
  clear b7 B6 C6 p6 ni6
  go_wp2_with fail
  refine (eqBlockS_any _ _ _ _ z0 _ q7.fs p7.fs (unhide HL) (unhide HP)).mono ?_
  rintro e w8 ⟨rfl, b8⟩
  have s8 := b8.size
  have B8 := B7.trans (b8.mono B7.size)
  have C8 := C7.trans (b8.mono C7.size)
  have q8 := q7.below b8 (Nat.le_refl _)
  have ni8 := ni7.below b8 (Nat.le_refl _)
  clear b8 B7 C7 q7 p7 ni7
  -- the argument is marked
  go_wp2_with fail
  refine (markG_any _ _ _ _ _ z0 _ q8 (unhide HL) (unhide HP)).mono ?_
  rintro e w9 ⟨m, rfl, m0, y9, b9⟩
  have s9 := b9.size
  have C9 := C8.trans b9
  have B9 := B8.trans (b9.mono B3.size)
  have ns9 := ns.below C9 (Nat.le_refl _)
  have ni9 := NewFs.only ni8 y9 (fun x hx => Nat.lt_of_lt_of_le (hi4 x hx) st)
  clear b9 y9 C8 B8 q8 ni8
  have hm0 : ¬ m < 0 := by omega
  go_wp2_with fail
  refine (eqV (unhide HSM) ni9 ns9).mono ?_
  rintro e w10 ⟨rfl, b10⟩
  have s10 := b10.size
  have B10 := B9.trans (b10.mono B9.size)
  have C10 := C9.trans (b10.mono C9.size)
  have ni10 := ni9.below b10 (Nat.le_refl _)
  clear b10 B9 C9 ns9 ni9
  -- the answer is marked
  go_wp2_with fail
  refine (markV (unhide HSM) ni10).mono ?_
  rintro e w11 ⟨rfl, ni11, b11, s11⟩
  have C11 := C10.trans (b11.mono (by omega))
  have B11 := B10.trans (b11.mono (by have := B3.size; omega))
  rw [unhide HRN] at ni11 ⊢
  clear b11 C10 B10 ni10
  go_wp2_with fail
  refine (heldV (by omega) ni11).mono ?_
  rintro e w12 ⟨rfl, hw12⟩
  obtain rfl := hw12.symm
  clear hw12
  have rr1 : w11.drew.rangeAt w.heap.size 0 [.int .i64 rk, .int .i64 rs, .int .i64 ra, .int .i64 rv] := by simpa using rangeAt_below c2 B11 hwlt
  have B12 := B11.drew
  have C12 := C11.drew
  have ni12 := ni11.below ((Below.refl w11.heap.size w11).drew) (Nat.le_refl _)
  have HF1 := hide ((unhide HF).below B12)
  clear B11 C11 ni11
  -- another call
  go_wp2_with fail
  refine wp_region_noPanic ?_
  refine wp_region_held_drew (S := fun w' => w'.rangeAt w.heap.size 0 [.int .i64 rk, .int .i64 rs, .int .i64 ra, .int .i64 rv]) (by kernel_rfl) (rr1) (fun hHeld => ?_)
  refine takeL 0 (.slice a0 z0.length cap0) rfl (by kernel_rfl) (by kernel_rfl) (by kernel_rfl) (fun _ _ _ h => h) (Or.inl ⟨rfl, fun _ _ => rfl⟩) hHeld ?_
  try simp only [Act.put, List.setIfInBounds_toArray, List.set_cons_zero, List.set_cons_succ]
  refine takeL 2 (.int .i64 n1) rfl (by kernel_rfl) (by kernel_rfl) (by kernel_rfl) (fun _ _ _ h => h) (Or.inl ⟨rfl, fun _ _ => rfl⟩) hHeld ?_
  try simp only [Act.put, List.setIfInBounds_toArray, List.set_cons_zero, List.set_cons_succ]
  refine takeL 3 (.agg #[.int .i64 rk, .int .i64 rs, .int .i64 ra, .int .i64 rv]) rfl (by kernel_rfl) (by kernel_rfl) (by kernel_rfl) (fun _ _ _ h => h) (yieldsIf_load_mid rfl 56 _ rfl w.heap.size 0 rfl [.int .i64 rk, .int .i64 rs, .int .i64 ra, .int .i64 rv] _ (fun _ h => h) Try.underlying56 rfl (by kernel_rfl)) hHeld ?_
  try simp only [Act.put, List.setIfInBounds_toArray, List.set_cons_zero, List.set_cons_succ]
  refine takeL 5 (.bool o3) rfl (by kernel_rfl) (by kernel_rfl) (by kernel_rfl) (fun _ _ _ h => h) (Or.inl ⟨rfl, fun _ _ => rfl⟩) hHeld ?_
  try simp only [Act.put, List.setIfInBounds_toArray, List.set_cons_zero, List.set_cons_succ]
  refine oneL 1 rfl (by kernel_rfl) rfl (fun K hK => ?_)
  go_simp
  refine (toBlockS_any a0 cap0 z0 _ (unhide HF1) (unhide HL) (unhide HP)).mono ?_
  rintro e w13a ⟨g13, G13, rfl, p13, b13⟩
  go_wp2_with fail
  have B13a := B12.trans (b13.mono B12.size)
  have C13a := C12.trans (b13.mono C12.size)
  have ni13a := ni12.below b13 (Nat.le_refl _)
  refine hK.out _ _ (rangeAt_below c2 B13a hwlt) (fun hHeld => ?_)
  clear hK K
  try simp only [Act.put, List.setIfInBounds_toArray, List.set_cons_zero, List.set_cons_succ]
  refine oneL 4 rfl (by kernel_rfl) rfl (fun K hK => ?_)
  go_simp
  refine (unhide HTR _).mono ?_
  rintro e w13 ⟨rfl, b13t⟩
  go_wp2_with fail
  have B13 := B13a.trans (b13t.mono B13a.size)
  have C13 := C13a.trans (b13t.mono C13a.size)
  have ni13 := ni13a.below b13t (Nat.le_refl _)
  have p13t := p13.below b13t (Nat.le_refl _)
  refine hK.out _ _ (rangeAt_below c2 B13 hwlt) (fun hHeld => ?_)
  clear hK K B12 C12 ni12 B13a C13a ni13a b13 b13t p13
  try simp only [Act.put, List.setIfInBounds_toArray, List.set_cons_zero, List.set_cons_succ]
  refine oneL 6 rfl (by kernel_rfl) rfl (fun K hK => ?_)
  go_simp
  refine (unhide HIM _ _ _ p13t.fs (by have := unhide HL; omega)).mono ?_
  rintro e w14 ⟨vj, rfl, nj, b14⟩
  go_wp2_with fail
  refine hK.out _ _ (rangeAt_below hHeld b14 (Nat.lt_of_lt_of_le hwlt B13.size)) (fun hHeld => ?_)
  clear hK K p13t
  try simp only [Act.put, List.setIfInBounds_toArray, List.set_cons_zero, List.set_cons_succ]
  refine takeL 7 (.tuple #[vj, .bool ok]) rfl (by kernel_rfl) (by kernel_rfl) (by kernel_rfl) (fun _ _ _ h => h) (Or.inl ⟨rfl, fun _ _ => rfl⟩) hHeld ?_
  try simp only [Act.put, List.setIfInBounds_toArray, List.set_cons_zero, List.set_cons_succ]
  refine takeL 8 (vj) rfl (by kernel_rfl) (by kernel_rfl) (by kernel_rfl) (fun _ _ _ h => h) (Or.inl ⟨rfl, fun w9 hSw => by go_simp⟩) hHeld ?_
  try simp only [Act.put, List.setIfInBounds_toArray, List.set_cons_zero, List.set_cons_succ]
  refine takeL 9 (.bool ok) rfl (by kernel_rfl) (by kernel_rfl) (by kernel_rfl) (fun _ _ _ h => h) (Or.inl ⟨rfl, fun w9 hSw => by go_simp⟩) hHeld ?_
  try simp only [Act.put, List.setIfInBounds_toArray, List.set_cons_zero, List.set_cons_succ]
  refine takeL 10 (vj) rfl (by kernel_rfl) (by kernel_rfl) (by kernel_rfl) (fun _ _ _ h => h) (Or.inl ⟨rfl, fun _ _ => rfl⟩) hHeld ?_
  try simp only [Act.put, List.setIfInBounds_toArray, List.set_cons_zero, List.set_cons_succ]
  refine takeL 11 (.bool ok) rfl (by kernel_rfl) (by kernel_rfl) (by kernel_rfl) (fun _ _ _ h => h) (Or.inl ⟨rfl, fun _ _ => rfl⟩) hHeld ?_
  try simp only [Act.put, List.setIfInBounds_toArray, List.set_cons_zero, List.set_cons_succ]
  refine wpAnyH_done (by kernel_rfl) ?_ _
  refine NoPanic.normal ?_
  have B14 := B13.trans (b14.mono B13.size)
  have C14 := C13.trans (b14.mono C13.size)
  have ni14 := ni13.below b14 (Nat.le_refl _)
  have ns14 := ns.below C14 (Nat.le_refl _)
  clear b14 B13 C13 ni13 hHeld rr1 HF1
  go_wp2_with fail
  refine (eqV (unhide HSM) nj ns14).mono ?_
  rintro e w15 ⟨rfl, b15⟩
  have B15 := B14.trans (b15.mono B14.size)
  have ni15 := ni14.below b15 (Nat.le_refl _)
  clear b15 B14 C14 ni14 ns14 nj ns
  go_wp2_with fail
  refine (heldV (by omega) ni15).mono ?_
  rintro e w16 ⟨rfl, hw16⟩
  obtain rfl := hw16.symm
  clear hw16 c2
  go_wp2
  go_ret
  exact ⟨rfl, b0.trans (B15.mono b0.size)⟩

set_option maxRecDepth 100000 in
theorem lifted (os : Os) (started : os.Started) (H : Type) (enc : TypeId × Value → H) :
    ReturnsInHanded {} Try.checked os 14 .any (Rows.fnExactFlashWriteSpec.pre6 enc Try.prog Try.f14 Rows.fnExactFlashWriteRow.domain false) (Rows.fnExactFlashWriteSpec.post enc Try.prog Try.f14 false true false false) := by
  refine returnsInHanded_of_change (C := Try.checked) own started (by kernel_rfl) Try.func14
    (ChangeSpec.witness6 (enc := enc) (C := Try.checked) false ⟨#[], #[.slice none 0 0, .int .i64 0, .agg #[.int .i64 0, .int .i64 0, .int .i64 0, .int .i64 0], .bool false], []⟩ 8 (by kernel_rfl) (by kernel_rfl) (by kernel_rfl) (by kernel_rfl)) ?_
  intro W base args ds gs before hval0 hW hcnd _
  have hval : ∀ (j : Nat) t v, Try.f14.params[j]? = some t → args[j]? = some v → Value.okWide Try.prog W .any base t v := hval0
  have hW' := hW
  obtain ⟨p, q, hA0, hV, rfl, hfz, hnd⟩ := hW
  have hA : DataW.TrodAll enc Try.prog W 0 (fun _ => true) true Try.f14.params.toList args.toList ds p := hA0
  rw [Try.params14] at hA hval
  obtain ⟨v0, vs0, d0, ds0, p0, q0, hargs, rfl, rfl, h0, r0⟩ := trodAll_cons hA
  obtain ⟨v1, vs1, d1, ds1, p1, q1, rfl, rfl, rfl, h1, r1⟩ := trodAll_cons r0
  obtain ⟨v2, vs2, d2, ds2, p2, q2, rfl, rfl, rfl, h2, r2⟩ := trodAll_cons r1
  obtain ⟨v3, vs3, d3, ds3, p3, q3, rfl, rfl, rfl, h3, r3⟩ := trodAll_cons r2
  obtain ⟨rfl, rfl, rfl⟩ := trodAll_nil r3
  obtain rfl : args = #[v0, v1, v2, v3] := by cases args; simp_all
  obtain ⟨rfl, rfl⟩ := trodVars_none hV
  have kk0 := h0
  have lt0 : ∀ x ∈ p0, x.block < W.heap.size := by obtain ⟨m, hm⟩ := kk0; exact DataW.trod_lt m _ _ _ hm
  obtain ⟨a0, len0, cap0, rfl⟩ := okWide_slice Try.underlying30 (hval 0 30 v0 rfl rfl)
  obtain ⟨z0, hz0, w0, fit0⟩ : ∃ z : List Bk, len0 = z.length ∧ FsAt W a0 z ∧ Fit z := by
    obtain ⟨fuel, hf⟩ := h0
    obtain ⟨a', z, cap', e, hz, fit⟩ := open_flash (V := .slice a0 len0 cap0) (by simpa [Value.cells] using hf)
    simp at e
    obtain ⟨rfl, rfl, rfl⟩ := e
    exact ⟨z, rfl, hz, fit⟩
  subst hz0
  have kk1 := h1
  have lt1 : ∀ x ∈ p1, x.block < W.heap.size := by obtain ⟨m, hm⟩ := kk1; exact DataW.trod_lt m _ _ _ hm
  obtain ⟨n1, rfl⟩ := okWide_int Try.underlying3 (hval 1 3 v1 rfl rfl)
  have kk2 := h2
  have lt2 : ∀ x ∈ p2, x.block < W.heap.size := by obtain ⟨m, hm⟩ := kk2; exact DataW.trod_lt m _ _ _ hm
  obtain ⟨k2, s2, x2, y2, rfl⟩ : ∃ k s x y : Int, v2 = .agg #[.int .i64 k, .int .i64 s, .int .i64 x, .int .i64 y] := by
    obtain ⟨c0, c1, c2, c3, y0, y1, y2, y3, n, rfl, _, _, g0, g1, g2, g3⟩ := open_agg4 Try.underlying56 (by kernel_rfl) (show Try.prog.cellsOf 56 = 4 by kernel_rfl) (hval 2 56 v2 rfl rfl) h2
    obtain ⟨x0, e0, _, _⟩ := DataW.trod_int Try.underlying3 g0
    obtain ⟨x1, e1, _, _⟩ := DataW.trod_int Try.underlying3 g1
    obtain ⟨x2, e2, _, _⟩ := DataW.trod_int Try.underlying3 g2
    obtain ⟨x3, e3, _, _⟩ := DataW.trod_int Try.underlying3 g3
    simp at e0 e1 e2 e3
    subst e0 e1 e2 e3
    exact ⟨_, _, _, _, rfl⟩
  have kk3 := h3
  have lt3 : ∀ x ∈ p3, x.block < W.heap.size := by obtain ⟨m, hm⟩ := kk3; exact DataW.trod_lt m _ _ _ hm
  obtain ⟨o3, rfl⟩ := okWide_bool Try.underlying4 (hval 3 4 v3 rfl rfl)
  clear hA0
  refine (walk a0 cap0 z0 n1 k2 s2 x2 y2 o3 W w0 fit0   ).mono fun e W' ⟨he, bel⟩ => ?_
  subst he
  exact ⟨_, rfl, _, _, _, [], _, [], hW', trodAll_mk1 (shut_bool Try.underlying4 _), (trodAll_cons_mk (Below.trod laidOut (by kernel_rfl) (of_decide_eq_true (by kernel_rfl)) kk0 bel lt0) (trodAll_cons_mk (Below.trod laidOut (by kernel_rfl) (of_decide_eq_true (by kernel_rfl)) kk1 bel lt1) (trodAll_cons_mk (Below.trod laidOut (by kernel_rfl) (of_decide_eq_true (by kernel_rfl)) kk2 bel lt2) (trodAll_cons_mk (Below.trod laidOut (by kernel_rfl) (of_decide_eq_true (by kernel_rfl)) kk3 bel lt3) trodAll_mk0)))), rfl, bel.frame _, fun h => by cases h⟩

set_option maxRecDepth 100000 in
theorem facts : joinedFacts Try.prog 14 Try.f14 Rows.fnExactFlashWriteSpec Rows.fnExactFlashWriteRow = true := by
  unfold joinedFacts
  refine Facts.and_t ?_ (by as_aux_lemma => kernel_rfl)
  refine Facts.and_t ?_ (by as_aux_lemma => kernel_rfl)
  refine Facts.and_t ?_ (by as_aux_lemma => kernel_rfl)
  refine Facts.and_t ?_ (by as_aux_lemma => kernel_rfl)
  refine Facts.and_t ?_ (by show (Try.prog.make == some Make.cut) = true; rw [Facts.made]; rfl)
  refine Facts.and_t ?_ (by show (false == Try.prog.liftsFinal) = true; rw [Facts.lifts]; rfl)
  refine Facts.and_t ?_ (Facts.enters)
  refine Facts.and_t ?_ (Facts.heard)
  refine Facts.and_t ?_ (rfl)
  refine Facts.and_t ?_ (by show (true == Try.prog.plainKeys) = true; rw [Facts.keys]; rfl)
  refine Facts.and_t ?_ (by as_aux_lemma => kernel_rfl)
  refine Facts.and_t ?_ (by as_aux_lemma => kernel_rfl)
  refine Facts.and_t ?_ (by as_aux_lemma => kernel_rfl)
  refine Facts.and_t ?_ (by as_aux_lemma => kernel_rfl)
  refine Facts.and_t ?_ (by as_aux_lemma => kernel_rfl)
  refine Facts.and_t ?_ (by as_aux_lemma => kernel_rfl)
  refine Facts.and_t ?_ (by as_aux_lemma => kernel_rfl)
  refine Facts.and_t ?_ (by as_aux_lemma => kernel_rfl)
  refine Facts.and_t ?_ (by as_aux_lemma => kernel_rfl)
  refine Facts.and_t ?_ (by as_aux_lemma => kernel_rfl)
  refine Facts.and_t ?_ (by as_aux_lemma => kernel_rfl)
  refine Facts.and_t ?_ (by as_aux_lemma => kernel_rfl)
  refine Facts.and_t ?_ (by as_aux_lemma => kernel_rfl)
  refine Facts.and_t ?_ (by as_aux_lemma => kernel_rfl)
  refine Facts.and_t ?_ (by as_aux_lemma => kernel_rfl)
  refine Facts.and_t ?_ (by as_aux_lemma => kernel_rfl)
  refine Facts.and_t ?_ (by as_aux_lemma => kernel_rfl)
  refine Facts.and_t ?_ (by as_aux_lemma => kernel_rfl)
  refine Facts.and_t ?_ (by as_aux_lemma => kernel_rfl)
  refine Facts.and_t ?_ (Facts.rowed)
  refine Facts.and_t ?_ (Facts.laidOut)
  kernel_rfl

theorem over : Rows.fnExactFlashWriteRow.holds Try.pinned (OpenSpec.ofChange Rows.fnExactFlashWriteSpec) :=
  OpenClaim.holds_of_wide 14 Try.f14 rfl rfl rfl rfl rfl rfl rfl ⟨rfl, rfl, rfl, rfl, rfl⟩ rfl rfl rfl rfl rfl (by kernel_rfl) Try.func14 facts
    (of_decide_eq_true (by kernel_rfl)) (by unfold Func.isWrapper; first | (rw [if_pos (by decide +kernel)]; kernel_rfl) | (rw [if_neg (by decide +kernel)]; exact ⟨rfl, rfl⟩))
    (fun os started H enc _ => lifted os started H enc)
end Go.Proofs.Ytcmklcfedeeahaa.ExactFlashWrite
namespace Go.Proofs.Ytcmklcfedeeahaa
theorem fnExactFlashWrite_holds : Rows.FnExactFlashWriteSaid := ExactFlashWrite.over
end Go.Proofs.Ytcmklcfedeeahaa
