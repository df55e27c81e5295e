/-
  The program's FlashWipe, for every list of blocks.
-/
import Derived.Test.YtkikeapfjpnkgaaBaI
namespace Go.Proofs.Ytkikeapfjpnkgaa.ImplW
open Go.ChangeShapes Go.WideShapes Go.ChangeAt Go.RowKit OkA Big Fl ImplB ImplF ImplS _root_.Go.Proofs.Ytkikeapfjpnkgaa.Own ImplT ImplU SpecA SpecB SpecC SpecD SpecW SpecX
set_option linter.unusedVariables false
set_option linter.unusedSimpArgs false
attribute [local go_sem ↓] Go.wp_at_zero Go.wp_at_succ

section
variable {P : Program} {rest : List Oper} {o : Oper} {a : Act} {w : World} {Q : Exit → Act → World → Prop}
/-- Two operations may come up. -/
theorem twoL {l : List Oper} {md : Region.Mode} {S : World → Prop} (i j : Nat) {oi oj : Oper} {fuel : Nat} {listed : Array Bool} (hi : nth l i = some oi) (hj : nth l j = some oj) (hr : Region.ready md l.toArray listed = [i, j])
    (hwi : Region.wanted oi (yielded l.toArray a.tmps) = true) (hwj : Region.wanted oj (yielded l.toArray a.tmps) = true)
    (h1 : ∀ K' : Act → World → Prop, Shut (∀ a w, S w → (S w → wpAnyH P md l.toArray Q S fuel (listed.setIfInBounds i true) a w) → K' a w) → Oper.wp P oi a w K' Q)
    (h2 : ∀ K' : Act → World → Prop, Shut (∀ a w, S w → (S w → wpAnyH P md l.toArray Q S fuel (listed.setIfInBounds j true) a w) → K' a w) → Oper.wp P oj a w K' Q) : wpAnyH P md l.toArray Q S (fuel + 1) listed a w :=
  wpAnyH_ready hr (by simp) (AllReadyH.cons (nth_spec l i oi hi) (fun K hK => by rw [if_pos hwi]; exact h1 K hK) (AllReadyH.cons (nth_spec l j oj hj) (fun K hK => by rw [if_pos hwj]; exact h2 K hK) AllReadyH.nil))
theorem wp_build_two {K : Act → World → Prop} (T : TypeId) (x y : Operand) (ho : o.op = .build T #[(0, x), (1, y)]) (vx vy : Value) (hx : a.eval x = vx) (hy : a.eval y = vy) (cs : Array Value) (hb : P.built T [(0, vx), (1, vy)] = some cs)
    (h : K (a.put o.dst (.agg cs)) w) : o.wp P a w K Q := by
  have hp : ((#[(0, x), (1, y)] : Array (Nat × Operand)).map fun (i, x) => (i, a.eval x)).toList = [(0, vx), (1, vy)] := by simp [hx, hy]
  exact wp_build T _ ho (by rw [hp, hb]; rfl) (by rw [hp, hb]; exact h)
end
theorem wiB_len (b : Bk) (t : Bool) : (wiB b t).ps.length = 4 := by simp [wiB]
theorem size_bkA {b : Bk} (h4 : b.ps.length = 4) : (Try.prog.info? 73).map (·.size) = some (bkC b).toArray.size := by rw [List.size_toArray, len_bkC b h4]; kernel_rfl

def RowPost (w : World) (p : Pg) (e : Ending) (w' : World) : Prop := e = .returned (.agg (psC (List.replicate 4 p)).toArray) ∧ Below w.heap.size w w'
set_option maxRecDepth 100000 in
set_option maxHeartbeats 1000000 in
theorem rowAll' (zs : List Pg) (h4 : zs.length = 4) (hz : (Try.prog.info? 71).bind (·.zero) = some (.agg (psC zs).toArray)) (p : Pg) (w : World) :
    Calls Try.prog 83 #[.agg (pgC p).toArray] w fun e w' => RowPost w p e w' := by
  have b0 : Below w.heap.size w (w.alloc (.cells (pgC p).toArray 33)) := (Below.refl _ _).alloc (Nat.le_refl _) _
  have b1 := (b0.alloc b0.size (.cells (psC zs).toArray 71))
  have b2 := (b1.alloc b1.size (.cells (psC zs).toArray 71))
  have rp := World.rangeAt_alloc (World.rangeAt_alloc (rangeAt_new w (pgC p) 33) (.cells (psC zs).toArray 71)) (.cells (psC zs).toArray 71)
  have t1 := World.there_alloc (there_new (w.alloc (.cells (pgC p).toArray 33)) (psC zs) 71) (.cells (psC zs).toArray 71)
  have t2 := there_new ((w.alloc (.cells (pgC p).toArray 33)).alloc (.cells (psC zs).toArray 71)) (psC zs) 71
  simp only [World.size_alloc] at t1 t2
  have hl : (psC zs).length = 20 := by rw [len_psC, h4]
  rw [hl] at t1 t2
  have HZ := hide hz
  have HS5 := hide (size_pg p)
  have HA5 := hide (size_pga p)
  have O5 := one_pg p
  have HST := hide (fun w' j => wipe_step w' (w.heap.size + 1 + 1) j p)
  have hpl : (pgC p).toArray.size = 5 := by rw [List.size_toArray, len_pgC]
  have hr4 : (List.replicate 4 p).length = 4 := by simp
  have hR4 : (psC (List.replicate 4 p)).length = 20 := by rw [len_psC, hr4]
  clear hz hl b0 b1
  go_enter Try.func83, Try.ntmps83
  go_wp2_with (first | (refine wpList_box_big rfl 33 _ rfl (pgC p).toArray rfl ?_) | (refine wpList_alloc_big rfl 71 rfl (psC zs).toArray (unhide HZ) ?_))
  generalize ((w.alloc (.cells (pgC p).toArray 33)).alloc (.cells (psC zs).toArray 71)).alloc (.cells (psC zs).toArray 71) = w1 at *
  go_loopw [5] (fun i w' => ∃ j : Nat, j ≤ 4 ∧ i = .int .i64 j ∧ Hid (w' = w1.setCells (w.heap.size + 1 + 1) 0 (psC (List.replicate j p)))) (fun i _ => 4 - (intOf i).toNat)
  case atStart => exact ⟨0, by omega, rfl, rfl⟩
  case round =>
    obtain ⟨j, hj, rfl, hwr⟩ := hrel
    by_cases h0 : j = 4
    · subst h0
      have rr : wr.rangeAt (w.heap.size + 1 + 1) 0 (psC (List.replicate 4 p)) := by rw [unhide hwr]; exact World.rangeAt_setCells_same _ _ _ _ (by rw [hR4]; exact t2)
      have tt : wr.there (w.heap.size + 1) 0 (psC (List.replicate 4 p)).length := by rw [unhide hwr, hR4]; exact World.there_setCells t1 _ _ _
      have BB : Below w.heap.size w wr := by rw [unhide hwr]; exact below_setCells _ (by omega) _ _ _ b2
      have HZ1 := hide (size_row hr4)
      have HZ2 := hide (size_rowa hr4)
      have HO := one_ps (List.replicate 4 p)
      generalize hRe : psC (List.replicate 4 p) = rcs at *
      have HRE := hide hRe
      have RS := World.rangeAt_setCells_same _ _ _ _ tt
      clear hwr rp t1 t2 HST hRe hR4
      go_wp2_with (first | (refine wpList_load_mid rfl 71 _ rfl (w.heap.size + 1 + 1) 0 rfl rcs _ rr Try.underlying71 rfl (unhide HZ1) ?_) | (refine wpList_store_mid rfl 71 _ _ rfl (w.heap.size + 1) 0 rcs.toArray rfl rfl tt (unhide HZ2) HO ?_) | (refine bodyPost_ret (res_cell_mid Try.results83 _ _ (w.heap.size + 1) rcs _ rfl RS Try.underlying71 rfl (unhide HZ1)) rfl (unhide ?_)))
      exact hide ⟨by rw [unhide HRE], below_setCells _ (by omega) _ _ _ BB⟩
    · have hlt : (j : Int) < 4 := by omega
      have hlo : (0 : Int) ≤ (j : Int) := by omega
      have HS := hide (unhide HST w1 j)
      rw [← unhide hwr] at HS
      have r5 : wr.rangeAt w.heap.size 0 (pgC p) := by rw [unhide hwr]; exact World.rangeAt_setCells_apart rp _ _ _ (.inl (by omega))
      have t5 : wr.there (w.heap.size + 1 + 1) (j * 5) (pgC p).toArray.size := by
        rw [unhide hwr, hpl]
        have := there_sub (World.there_setCells t2 (w.heap.size + 1 + 1) 0 (psC (List.replicate j p))) (j * 5) 5 (by omega)
        rwa [Nat.zero_add] at this
      clear hwr rp t1 t2 HST
      generalize pgC p = pcs at *
      go_wp2_with (first | (refine wpList_load_mid rfl 33 _ rfl w.heap.size 0 rfl pcs _ r5 Try.underlying33 rfl (unhide HS5) ?_) | (refine wpList_store_mid rfl 33 _ _ rfl (w.heap.size + 1 + 1) (j * 5) pcs.toArray rfl rfl t5 (unhide HA5) O5 ?_))
      go_roundw
      case rel => exact ⟨j + 1, by omega, by first | rfl | go_num, (unhide HS).symm⟩
      case measure => simp [intOf]; omega
theorem rowAll_any (p : Pg) (w : World) :
    Calls Try.prog 83 #[.agg (pgC p).toArray] w fun e w' => RowPost w p e w' := rowAll' zPs rfl zero_ps p w

/-- What a change of kept blocks answers. -/
def KpPost (w : World) (ks : List Bk) (o : Bool) (e : Ending) (w' : World) : Prop := e = .returned (.tuple #[.agg (fsC ks).toArray, .bool o]) ∧ Below w.heap.size w w'
def wiK (ks : List Bk) (k : Nat) (torn : Bool) : List Bk := if wiN ks k then ks else wiL ks k torn
theorem wiK_len {ks : List Bk} (h4 : ks.length = 4) (k : Nat) (torn : Bool) : (wiK ks k torn).length = 4 := by
  unfold wiK; split
  · exact h4
  · rw [wiL_len]; exact h4
theorem wiK_fours {ks : List Bk} (hF : Fours ks) (k : Nat) (torn : Bool) : Fours (wiK ks k torn) := by
  unfold wiK; split
  · exact hF
  · exact wiL_fours hF

set_option maxRecDepth 100000 in
set_option maxHeartbeats 2000000 in
theorem wipeK_any (ks : List Bk) (hok : okB ks = true) (k : Nat) (hk : k < 4) (torn : Bool) (w : World) :
    Calls Try.prog 56 #[.agg (fsC ks).toArray, .int .i64 (k : Nat), .bool torn] w fun e w' => KpPost w (wiK ks k torn) (!wiN ks k) e w' := by
  obtain ⟨zf, hz, hz84⟩ := zrow
  have HZ := hide hz
  clear hz
  have hk4 := ok_len hok
  have hkF := ok_fours hok
  have rk := World.rangeAt_alloc (rangeAt_new w (fsC ks) 75) (.cells zf 75)
  have t1 := World.there_alloc (there_new w (fsC ks) 75) (.cells zf 75)
  rw [len_fsC _ hkF, hk4] at t1
  have tR := there_new (w.alloc (.cells (fsC ks).toArray 75)) zf.toList 75
  rw [Array.toArray_toList, Array.length_toList, hz84, World.size_alloc] at tR
  have BK : Below w.heap.size w ((w.alloc (.cells (fsC ks).toArray 75)).alloc (.cells zf 75)) := ((Below.refl _ _).alloc (Nat.le_refl _) _).alloc (by simp) _
  have sk : w.heap.size + 1 < ((w.alloc (.cells (fsC ks).toArray 75)).alloc (.cells zf 75)).heap.size := by simp
  have hkb : k < ks.length := by omega
  have hb4 : ks[k].ps.length = 4 := hkF.at k hkb
  obtain ⟨hw0, hw2⟩ := ok_worn hok k hkb
  have hgd : ks.getD k zBk = ks[k] := by rw [List.getD_eq_getElem?_getD, List.getElem?_eq_getElem hkb]; rfl
  have HR0 : Hid (wiK ks k torn = if wiN ks k then ks else wiL ks k torn) := rfl
  have HN : Hid (wiN ks k = decide (200 ≤ ks[k].wn)) := by show _ = _; unfold wiN; rw [hgd]
  have c20 := worn_bk hb4 (sub_fs hkF rk k hkb)
  have tk : ((w.alloc (.cells (fsC ks).toArray 75)).alloc (.cells zf 75)).there w.heap.size (k * 21) 21 := by
    have := there_sub t1 (k * 21) 21 (by omega)
    rwa [Nat.zero_add] at this
  have HWB : Hid (∀ t, wiL ks k t = ks.set k (wiB ks[k] t)) := fun t => by unfold wiL; rw [hgd]
  have HBT : Hid (∀ t, Try.prog.built 73 [(0, .agg (psC (List.replicate 4 (pgS t))).toArray), (1, .int .i64 (ks[k].wn + 1))] = some (bkC (wiB ks[k] t)).toArray) := fun t => built_bk _ _ (by simp)
  clear hok t1 hgd
  have hlo : (0 : Int) ≤ (k : Int) := by omega
  have hhi : (k : Int) < 4 := by omega
  generalize wiK ks k torn = Rs at *
  generalize ks[k] = b at *
  by_cases hw : b.wn = 200
  · have hw' : (b.wn == 200) = true := by simpa using hw
    have HNT : Hid (wiN ks k = true) := by show _ = _; rw [unhide HN]; simp; omega
    have HR : Hid (Rs = ks) := by show _ = _; rw [unhide HR0, unhide HNT]; rfl
    have tz : ((w.alloc (.cells (fsC ks).toArray 75)).alloc (.cells zf 75)).there (w.heap.size + 1) 0 (fsC ks).toArray.size := by rw [show (fsC ks).toArray.size = 84 by rw [List.size_toArray, len_fsC _ hkF, hk4]]; exact tR
    have pz := World.rangeAt_setCells_same _ _ _ (fsC ks) tz
    have Bz := below_setCells (w.heap.size + 1) (show w.heap.size ≤ w.heap.size + 1 by omega) (fsC ks) 0 _ BK
    have HSF := hide (size_fsl hkF hk4)
    clear hw HR0 HN HWB HBT tk tR
    go_enter Try.func56, Try.ntmps56
    go_wp2_with (first | (refine wpList_box_big rfl _ _ rfl (fsC ks).toArray rfl ?_) | (refine wpList_alloc_big rfl 75 rfl zf (unhide HZ) ?_) | (refine wpList_load_mid rfl 75 _ rfl w.heap.size 0 rfl (fsC ks) _ rk Try.underlying75 rfl (unhide HSF) ?_) | (refine wpList_store_mid rfl 75 _ _ rfl (w.heap.size + 1) 0 (fsC ks).toArray rfl rfl tz (size_fsa hkF hk4) (one_fs ks) ?_) | (refine bodyPost_ret (res_cell_tmp Try.results56 _ _ (w.heap.size + 1) (fsC ks) _ rfl pz Try.underlying75 rfl (unhide HSF)) rfl (unhide ?_)))
    exact hide ⟨by rw [unhide HR, unhide HNT]; rfl, Bz⟩
  have hw' : (b.wn == 200) = false := by simpa using hw
  have HNT : Hid (wiN ks k = false) := by show _ = _; rw [unhide HN]; simp; omega
  have HR : Hid (Rs = wiL ks k torn) := by show _ = _; rw [unhide HR0, unhide HNT]; rfl
  have HWR : Hid (IntKind.i64.wrap (b.wn + 1) = b.wn + 1) := by show _ = _; rw [IntKind.wrap_i64]; omega
  clear hw HR0 HN
  cases torn
  · have HB := hide (unhide HBT false)
    have HWL := hide (unhide HWB false)
    have HL5 : Hid ((bkC (wiB b false)).toArray.size = 21) := by show _ = _; rw [List.size_toArray, len_bkC _ (wiB_len b false)]
    have HZB := hide (size_bkA (wiB_len b false))
    have HOB := one_bk (wiB b false)
    clear HBT HWB
    go_enter Try.func56, Try.ntmps56
    go_wp2_with (first | (refine wpList_box_big rfl _ _ rfl (fsC ks).toArray rfl ?_) | (refine wpList_alloc_big rfl 75 rfl zf (unhide HZ) ?_))
    generalize (w.alloc (.cells (fsC ks).toArray 75)).alloc (.cells zf 75) = w2 at *
    refine wp_region_noPanic ?_
    refine wp_region_held_drew (S := fun w' => (w'.there w.heap.size (k * 21) 21 ∧ w'.there (w.heap.size + 1) 0 84) ∧ Below w.heap.size w w' ∧ w.heap.size + 1 < w'.heap.size) (by kernel_rfl) (⟨⟨by simpa using tk, by simpa using tR⟩, BK.drew, by simpa using sk⟩) (fun hHeld => ?_)
    have d20 : w2.drew.cell? ⟨w.heap.size, k * 21 + 20, none⟩ = some (.int .i64 b.wn) := by simpa using c20
    have rk2 : w2.drew.rangeAt w.heap.size 0 (fsC ks) := by simpa using rk
    clear c20 rk tk BK sk tR
    generalize w2.drew = w3 at *
    refine takeL 0 (.int .i64 k) rfl (by kernel_rfl) (by kernel_rfl) (by kernel_rfl) (fun _ _ _ h => h) (Or.inl ⟨rfl, fun _ _ => rfl⟩) hHeld ?_
    try simp only [Act.put, List.setIfInBounds_toArray, List.set_cons_zero, List.set_cons_succ]
    refine takeL 1 (.int .i64 0) rfl (by kernel_rfl) (by kernel_rfl) (by kernel_rfl) (fun _ _ _ h => h) (Or.inl ⟨rfl, fun _ _ => rfl⟩) hHeld ?_
    try simp only [Act.put, List.setIfInBounds_toArray, List.set_cons_zero, List.set_cons_succ]
    refine takeL 2 (.agg #[.int .i64 0, .int .i64 0, .int .i64 0, .int .i64 0, .int .i64 0]) rfl (by kernel_rfl) (by kernel_rfl) (by kernel_rfl) (fun _ _ _ h => h) (Or.inl ⟨rfl, fun w9 hSw => by go_simp⟩) hHeld ?_
    try simp only [Act.put, List.setIfInBounds_toArray, List.set_cons_zero, List.set_cons_succ]
    refine takeL 4 (.int .i64 k) rfl (by kernel_rfl) (by kernel_rfl) (by kernel_rfl) (fun _ _ _ h => h) (Or.inl ⟨rfl, fun _ _ => rfl⟩) hHeld ?_
    try simp only [Act.put, List.setIfInBounds_toArray, List.set_cons_zero, List.set_cons_succ]
    refine takeL 5 (.pointer (some ⟨w.heap.size, k * 21, none⟩)) rfl (by kernel_rfl) (by kernel_rfl) (by kernel_rfl) (fun _ _ _ h => h) (Or.inl ⟨rfl, fun w9 hSw => by go_simp⟩) hHeld ?_
    try simp only [Act.put, List.setIfInBounds_toArray, List.set_cons_zero, List.set_cons_succ]
    refine takeL 6 (.pointer (some ⟨w.heap.size, k * 21 + 20, none⟩)) rfl (by kernel_rfl) (by kernel_rfl) (by kernel_rfl) (fun _ _ _ h => h) (Or.inl ⟨rfl, fun w9 hSw => by go_simp⟩) hHeld ?_
    try simp only [Act.put, List.setIfInBounds_toArray, List.set_cons_zero, List.set_cons_succ]
    refine twoL 3 7 rfl rfl (by kernel_rfl) rfl rfl (fun K hK => ?_) (fun K hK => ?_)
    · go_simp
      refine (rowAll_any (pgS false) _).mono ?_
      rintro e w4 ⟨rfl, b4⟩
      go_wp2_with fail
      have rk4 := rangeAt_below rk2 b4 (Nat.lt_of_succ_lt hHeld.2.2)
      have d24 := (b4.cell (p := ⟨w.heap.size, k * 21 + 20, none⟩) (Nat.lt_of_succ_lt hHeld.2.2)).trans d20
      refine hK.out _ _ ⟨⟨there_below hHeld.1.1 b4 (Nat.lt_of_succ_lt hHeld.2.2), there_below hHeld.1.2 b4 hHeld.2.2⟩, hHeld.2.1.trans (b4.mono hHeld.2.1.size), Nat.lt_of_lt_of_le hHeld.2.2 b4.size⟩ (fun hHeld4 => ?_)
      clear hK K hHeld b4 rk2 d20
      have hHeld := hHeld4
      clear hHeld4
      try simp only [Act.put, List.setIfInBounds_toArray, List.set_cons_zero, List.set_cons_succ]
      refine oneL 7 rfl (by kernel_rfl) rfl (fun K hK => ?_)
      go_simp
      refine hK.out _ _ hHeld (fun hHeld => ?_)
      clear hK K
      try simp only [Act.put, List.setIfInBounds_toArray, List.set_cons_zero, List.set_cons_succ]
      refine takeL 8 (.int .i64 (b.wn + 1)) rfl (by kernel_rfl) (by kernel_rfl) (by kernel_rfl) (fun _ _ _ h => h) (Or.inl ⟨rfl, fun w9 hSw => by have he := unhide HWR; go_simp⟩) hHeld ?_
      try simp only [Act.put, List.setIfInBounds_toArray, List.set_cons_zero, List.set_cons_succ]
      refine oneL 9 rfl (by kernel_rfl) rfl (fun K hK => ?_)
      refine wp_build_two 73 _ _ rfl (.agg (psC (List.replicate 4 (pgS false))).toArray) (.int .i64 (b.wn + 1)) rfl rfl (bkC (wiB b false)).toArray (unhide HB) ?_
      refine hK.out _ _ hHeld (fun hHeld => ?_)
      clear hK K
      try simp only [Act.put, List.setIfInBounds_toArray, List.set_cons_zero, List.set_cons_succ]
      refine takeL 10 (.pointer (some ⟨w.heap.size, k * 21, none⟩)) rfl (by kernel_rfl) (by kernel_rfl) (by kernel_rfl) (fun _ _ _ h => h) (Or.inl ⟨rfl, fun w9 hSw => by go_simp⟩) hHeld ?_
      try simp only [Act.put, List.setIfInBounds_toArray, List.set_cons_zero, List.set_cons_succ]
      have rs := range_set bkC 21 (fun x hx => len_bkC x (hkF x hx)) k (by omega) (wiB b false) (len_bkC _ (wiB_len b false)) rk4 (by rw [Nat.zero_add]; exact hHeld.1.1)
      rw [Nat.zero_add] at rs
      have tk5 : w4.there w.heap.size (k * 21) (bkC (wiB b false)).toArray.size := by rw [unhide HL5]; exact hHeld.1.1
      have BS := below_setCells w.heap.size (Nat.le_refl _) (bkC (wiB b false)) (k * 21) _ hHeld.2.1
      have TS := World.there_setCells hHeld.1.1 w.heap.size (k * 21) (bkC (wiB b false))
      have TR5 := World.there_setCells hHeld.1.2 w.heap.size (k * 21) (bkC (wiB b false))
      have SS := hHeld.2.2
      rw [← size_setCells w.heap.size (bkC (wiB b false)) (k * 21) w4] at SS
      have RS := hide (show (w4.setCells w.heap.size (k * 21) (bkC (wiB b false))).rangeAt w.heap.size 0 (fsC (wiL ks k false)) by rw [unhide HWL]; exact rs)
      clear rs rk4 d24
      generalize bkC (wiB b false) = nb at *
      refine oneL 11 rfl (by kernel_rfl) rfl (fun K hK => ?_)
      refine wp_store_mid 73 _ _ rfl w.heap.size (k * 21) nb.toArray rfl rfl tk5 (unhide HZB) HOB ?_
      refine hK.out _ _ ⟨⟨TS, TR5⟩, BS, SS⟩ (fun _ => ?_)
      clear hK K hHeld TS tk5
      try simp only [Act.put, List.setIfInBounds_toArray, List.set_cons_zero, List.set_cons_succ]
      refine wpAnyH_done (by kernel_rfl) ?_ _
      refine NoPanic.normal ?_
      generalize w4.setCells w.heap.size (k * 21) nb = w5 at *
      have hFs := wiL_fours (t := false) hkF (k := k)
      have h4s : (wiL ks k false).length = 4 := by rw [wiL_len]; exact hk4
      generalize wiL ks k false = rs at *
      have HZ7 := hide (size_fsl hFs h4s)
      have RS' := unhide RS
      clear RS
      have tz : w5.there (w.heap.size + 1) 0 (fsC rs).toArray.size := by rw [show (fsC rs).toArray.size = 84 by rw [List.size_toArray, len_fsC _ hFs, h4s]]; exact TR5
      have pz := World.rangeAt_setCells_same w5 (w.heap.size + 1) 0 (fsC rs) tz
      have Bz := below_setCells (w.heap.size + 1) (show w.heap.size ≤ w.heap.size + 1 by omega) (fsC rs) 0 _ BS
      clear TR5 BS
      go_wp2_with (first | (refine wpList_load_mid rfl 75 _ rfl w.heap.size 0 rfl (fsC rs) _ RS' Try.underlying75 rfl (unhide HZ7) ?_) | (refine wpList_store_mid rfl 75 _ _ rfl (w.heap.size + 1) 0 (fsC rs).toArray rfl rfl tz (size_fsa hFs h4s) (one_fs rs) ?_) | (refine bodyPost_ret (res_cell_tmp Try.results56 _ _ (w.heap.size + 1) (fsC rs) _ rfl pz Try.underlying75 rfl (unhide HZ7)) rfl (unhide ?_)))
      exact hide ⟨by rw [unhide HR, unhide HNT]; rfl, Bz⟩
    · go_simp
      refine hK.out _ _ hHeld (fun hHeld => ?_)
      clear hK K
      try simp only [Act.put, List.setIfInBounds_toArray, List.set_cons_zero, List.set_cons_succ]
      refine takeL 8 (.int .i64 (b.wn + 1)) rfl (by kernel_rfl) (by kernel_rfl) (by kernel_rfl) (fun _ _ _ h => h) (Or.inl ⟨rfl, fun w9 hSw => by have he := unhide HWR; go_simp⟩) hHeld ?_
      try simp only [Act.put, List.setIfInBounds_toArray, List.set_cons_zero, List.set_cons_succ]
      refine oneL 3 rfl (by kernel_rfl) rfl (fun K hK => ?_)
      go_simp
      refine (rowAll_any (pgS false) _).mono ?_
      rintro e w4 ⟨rfl, b4⟩
      go_wp2_with fail
      have rk4 := rangeAt_below rk2 b4 (Nat.lt_of_succ_lt hHeld.2.2)
      have d24 := (b4.cell (p := ⟨w.heap.size, k * 21 + 20, none⟩) (Nat.lt_of_succ_lt hHeld.2.2)).trans d20
      refine hK.out _ _ ⟨⟨there_below hHeld.1.1 b4 (Nat.lt_of_succ_lt hHeld.2.2), there_below hHeld.1.2 b4 hHeld.2.2⟩, hHeld.2.1.trans (b4.mono hHeld.2.1.size), Nat.lt_of_lt_of_le hHeld.2.2 b4.size⟩ (fun hHeld4 => ?_)
      clear hK K hHeld b4 rk2 d20
      have hHeld := hHeld4
      clear hHeld4
      try simp only [Act.put, List.setIfInBounds_toArray, List.set_cons_zero, List.set_cons_succ]
      refine oneL 9 rfl (by kernel_rfl) rfl (fun K hK => ?_)
      refine wp_build_two 73 _ _ rfl (.agg (psC (List.replicate 4 (pgS false))).toArray) (.int .i64 (b.wn + 1)) rfl rfl (bkC (wiB b false)).toArray (unhide HB) ?_
      refine hK.out _ _ hHeld (fun hHeld => ?_)
      clear hK K
      try simp only [Act.put, List.setIfInBounds_toArray, List.set_cons_zero, List.set_cons_succ]
      refine takeL 10 (.pointer (some ⟨w.heap.size, k * 21, none⟩)) rfl (by kernel_rfl) (by kernel_rfl) (by kernel_rfl) (fun _ _ _ h => h) (Or.inl ⟨rfl, fun w9 hSw => by go_simp⟩) hHeld ?_
      try simp only [Act.put, List.setIfInBounds_toArray, List.set_cons_zero, List.set_cons_succ]
      have rs := range_set bkC 21 (fun x hx => len_bkC x (hkF x hx)) k (by omega) (wiB b false) (len_bkC _ (wiB_len b false)) rk4 (by rw [Nat.zero_add]; exact hHeld.1.1)
      rw [Nat.zero_add] at rs
      have tk5 : w4.there w.heap.size (k * 21) (bkC (wiB b false)).toArray.size := by rw [unhide HL5]; exact hHeld.1.1
      have BS := below_setCells w.heap.size (Nat.le_refl _) (bkC (wiB b false)) (k * 21) _ hHeld.2.1
      have TS := World.there_setCells hHeld.1.1 w.heap.size (k * 21) (bkC (wiB b false))
      have TR5 := World.there_setCells hHeld.1.2 w.heap.size (k * 21) (bkC (wiB b false))
      have SS := hHeld.2.2
      rw [← size_setCells w.heap.size (bkC (wiB b false)) (k * 21) w4] at SS
      have RS := hide (show (w4.setCells w.heap.size (k * 21) (bkC (wiB b false))).rangeAt w.heap.size 0 (fsC (wiL ks k false)) by rw [unhide HWL]; exact rs)
      clear rs rk4 d24
      generalize bkC (wiB b false) = nb at *
      refine oneL 11 rfl (by kernel_rfl) rfl (fun K hK => ?_)
      refine wp_store_mid 73 _ _ rfl w.heap.size (k * 21) nb.toArray rfl rfl tk5 (unhide HZB) HOB ?_
      refine hK.out _ _ ⟨⟨TS, TR5⟩, BS, SS⟩ (fun _ => ?_)
      clear hK K hHeld TS tk5
      try simp only [Act.put, List.setIfInBounds_toArray, List.set_cons_zero, List.set_cons_succ]
      refine wpAnyH_done (by kernel_rfl) ?_ _
      refine NoPanic.normal ?_
      generalize w4.setCells w.heap.size (k * 21) nb = w5 at *
      have hFs := wiL_fours (t := false) hkF (k := k)
      have h4s : (wiL ks k false).length = 4 := by rw [wiL_len]; exact hk4
      generalize wiL ks k false = rs at *
      have HZ7 := hide (size_fsl hFs h4s)
      have RS' := unhide RS
      clear RS
      have tz : w5.there (w.heap.size + 1) 0 (fsC rs).toArray.size := by rw [show (fsC rs).toArray.size = 84 by rw [List.size_toArray, len_fsC _ hFs, h4s]]; exact TR5
      have pz := World.rangeAt_setCells_same w5 (w.heap.size + 1) 0 (fsC rs) tz
      have Bz := below_setCells (w.heap.size + 1) (show w.heap.size ≤ w.heap.size + 1 by omega) (fsC rs) 0 _ BS
      clear TR5 BS
      go_wp2_with (first | (refine wpList_load_mid rfl 75 _ rfl w.heap.size 0 rfl (fsC rs) _ RS' Try.underlying75 rfl (unhide HZ7) ?_) | (refine wpList_store_mid rfl 75 _ _ rfl (w.heap.size + 1) 0 (fsC rs).toArray rfl rfl tz (size_fsa hFs h4s) (one_fs rs) ?_) | (refine bodyPost_ret (res_cell_tmp Try.results56 _ _ (w.heap.size + 1) (fsC rs) _ rfl pz Try.underlying75 rfl (unhide HZ7)) rfl (unhide ?_)))
      exact hide ⟨by rw [unhide HR, unhide HNT]; rfl, Bz⟩
  · have HB := hide (unhide HBT true)
    have HWL := hide (unhide HWB true)
    have HL5 : Hid ((bkC (wiB b true)).toArray.size = 21) := by show _ = _; rw [List.size_toArray, len_bkC _ (wiB_len b true)]
    have HZB := hide (size_bkA (wiB_len b true))
    have HOB := one_bk (wiB b true)
    clear HBT HWB
    go_enter Try.func56, Try.ntmps56
    go_wp2_with (first | (refine wpList_box_big rfl _ _ rfl (fsC ks).toArray rfl ?_) | (refine wpList_alloc_big rfl 75 rfl zf (unhide HZ) ?_))
    generalize (w.alloc (.cells (fsC ks).toArray 75)).alloc (.cells zf 75) = w2 at *
    refine wp_region_noPanic ?_
    refine wp_region_held_drew (S := fun w' => (w'.there w.heap.size (k * 21) 21 ∧ w'.there (w.heap.size + 1) 0 84) ∧ Below w.heap.size w w' ∧ w.heap.size + 1 < w'.heap.size) (by kernel_rfl) (⟨⟨by simpa using tk, by simpa using tR⟩, BK.drew, by simpa using sk⟩) (fun hHeld => ?_)
    have d20 : w2.drew.cell? ⟨w.heap.size, k * 21 + 20, none⟩ = some (.int .i64 b.wn) := by simpa using c20
    have rk2 : w2.drew.rangeAt w.heap.size 0 (fsC ks) := by simpa using rk
    clear c20 rk tk BK sk tR
    generalize w2.drew = w3 at *
    refine takeL 0 (.int .i64 k) rfl (by kernel_rfl) (by kernel_rfl) (by kernel_rfl) (fun _ _ _ h => h) (Or.inl ⟨rfl, fun _ _ => rfl⟩) hHeld ?_
    try simp only [Act.put, List.setIfInBounds_toArray, List.set_cons_zero, List.set_cons_succ]
    refine takeL 1 (.int .i64 2) rfl (by kernel_rfl) (by kernel_rfl) (by kernel_rfl) (fun _ _ _ h => h) (Or.inl ⟨rfl, fun _ _ => rfl⟩) hHeld ?_
    try simp only [Act.put, List.setIfInBounds_toArray, List.set_cons_zero, List.set_cons_succ]
    refine takeL 2 (.agg #[.int .i64 2, .int .i64 0, .int .i64 0, .int .i64 0, .int .i64 0]) rfl (by kernel_rfl) (by kernel_rfl) (by kernel_rfl) (fun _ _ _ h => h) (Or.inl ⟨rfl, fun w9 hSw => by go_simp⟩) hHeld ?_
    try simp only [Act.put, List.setIfInBounds_toArray, List.set_cons_zero, List.set_cons_succ]
    refine takeL 4 (.int .i64 k) rfl (by kernel_rfl) (by kernel_rfl) (by kernel_rfl) (fun _ _ _ h => h) (Or.inl ⟨rfl, fun _ _ => rfl⟩) hHeld ?_
    try simp only [Act.put, List.setIfInBounds_toArray, List.set_cons_zero, List.set_cons_succ]
    refine takeL 5 (.pointer (some ⟨w.heap.size, k * 21, none⟩)) rfl (by kernel_rfl) (by kernel_rfl) (by kernel_rfl) (fun _ _ _ h => h) (Or.inl ⟨rfl, fun w9 hSw => by go_simp⟩) hHeld ?_
    try simp only [Act.put, List.setIfInBounds_toArray, List.set_cons_zero, List.set_cons_succ]
    refine takeL 6 (.pointer (some ⟨w.heap.size, k * 21 + 20, none⟩)) rfl (by kernel_rfl) (by kernel_rfl) (by kernel_rfl) (fun _ _ _ h => h) (Or.inl ⟨rfl, fun w9 hSw => by go_simp⟩) hHeld ?_
    try simp only [Act.put, List.setIfInBounds_toArray, List.set_cons_zero, List.set_cons_succ]
    refine twoL 3 7 rfl rfl (by kernel_rfl) rfl rfl (fun K hK => ?_) (fun K hK => ?_)
    · go_simp
      refine (rowAll_any (pgS true) _).mono ?_
      rintro e w4 ⟨rfl, b4⟩
      go_wp2_with fail
      have rk4 := rangeAt_below rk2 b4 (Nat.lt_of_succ_lt hHeld.2.2)
      have d24 := (b4.cell (p := ⟨w.heap.size, k * 21 + 20, none⟩) (Nat.lt_of_succ_lt hHeld.2.2)).trans d20
      refine hK.out _ _ ⟨⟨there_below hHeld.1.1 b4 (Nat.lt_of_succ_lt hHeld.2.2), there_below hHeld.1.2 b4 hHeld.2.2⟩, hHeld.2.1.trans (b4.mono hHeld.2.1.size), Nat.lt_of_lt_of_le hHeld.2.2 b4.size⟩ (fun hHeld4 => ?_)
      clear hK K hHeld b4 rk2 d20
      have hHeld := hHeld4
      clear hHeld4
      try simp only [Act.put, List.setIfInBounds_toArray, List.set_cons_zero, List.set_cons_succ]
      refine oneL 7 rfl (by kernel_rfl) rfl (fun K hK => ?_)
      go_simp
      refine hK.out _ _ hHeld (fun hHeld => ?_)
      clear hK K
      try simp only [Act.put, List.setIfInBounds_toArray, List.set_cons_zero, List.set_cons_succ]
      refine takeL 8 (.int .i64 (b.wn + 1)) rfl (by kernel_rfl) (by kernel_rfl) (by kernel_rfl) (fun _ _ _ h => h) (Or.inl ⟨rfl, fun w9 hSw => by have he := unhide HWR; go_simp⟩) hHeld ?_
      try simp only [Act.put, List.setIfInBounds_toArray, List.set_cons_zero, List.set_cons_succ]
      refine oneL 9 rfl (by kernel_rfl) rfl (fun K hK => ?_)
      refine wp_build_two 73 _ _ rfl (.agg (psC (List.replicate 4 (pgS true))).toArray) (.int .i64 (b.wn + 1)) rfl rfl (bkC (wiB b true)).toArray (unhide HB) ?_
      refine hK.out _ _ hHeld (fun hHeld => ?_)
      clear hK K
      try simp only [Act.put, List.setIfInBounds_toArray, List.set_cons_zero, List.set_cons_succ]
      refine takeL 10 (.pointer (some ⟨w.heap.size, k * 21, none⟩)) rfl (by kernel_rfl) (by kernel_rfl) (by kernel_rfl) (fun _ _ _ h => h) (Or.inl ⟨rfl, fun w9 hSw => by go_simp⟩) hHeld ?_
      try simp only [Act.put, List.setIfInBounds_toArray, List.set_cons_zero, List.set_cons_succ]
      have rs := range_set bkC 21 (fun x hx => len_bkC x (hkF x hx)) k (by omega) (wiB b true) (len_bkC _ (wiB_len b true)) rk4 (by rw [Nat.zero_add]; exact hHeld.1.1)
      rw [Nat.zero_add] at rs
      have tk5 : w4.there w.heap.size (k * 21) (bkC (wiB b true)).toArray.size := by rw [unhide HL5]; exact hHeld.1.1
      have BS := below_setCells w.heap.size (Nat.le_refl _) (bkC (wiB b true)) (k * 21) _ hHeld.2.1
      have TS := World.there_setCells hHeld.1.1 w.heap.size (k * 21) (bkC (wiB b true))
      have TR5 := World.there_setCells hHeld.1.2 w.heap.size (k * 21) (bkC (wiB b true))
      have SS := hHeld.2.2
      rw [← size_setCells w.heap.size (bkC (wiB b true)) (k * 21) w4] at SS
      have RS := hide (show (w4.setCells w.heap.size (k * 21) (bkC (wiB b true))).rangeAt w.heap.size 0 (fsC (wiL ks k true)) by rw [unhide HWL]; exact rs)
      clear rs rk4 d24
      generalize bkC (wiB b true) = nb at *
      refine oneL 11 rfl (by kernel_rfl) rfl (fun K hK => ?_)
      refine wp_store_mid 73 _ _ rfl w.heap.size (k * 21) nb.toArray rfl rfl tk5 (unhide HZB) HOB ?_
      refine hK.out _ _ ⟨⟨TS, TR5⟩, BS, SS⟩ (fun _ => ?_)
      clear hK K hHeld TS tk5
      try simp only [Act.put, List.setIfInBounds_toArray, List.set_cons_zero, List.set_cons_succ]
      refine wpAnyH_done (by kernel_rfl) ?_ _
      refine NoPanic.normal ?_
      generalize w4.setCells w.heap.size (k * 21) nb = w5 at *
      have hFs := wiL_fours (t := true) hkF (k := k)
      have h4s : (wiL ks k true).length = 4 := by rw [wiL_len]; exact hk4
      generalize wiL ks k true = rs at *
      have HZ7 := hide (size_fsl hFs h4s)
      have RS' := unhide RS
      clear RS
      have tz : w5.there (w.heap.size + 1) 0 (fsC rs).toArray.size := by rw [show (fsC rs).toArray.size = 84 by rw [List.size_toArray, len_fsC _ hFs, h4s]]; exact TR5
      have pz := World.rangeAt_setCells_same w5 (w.heap.size + 1) 0 (fsC rs) tz
      have Bz := below_setCells (w.heap.size + 1) (show w.heap.size ≤ w.heap.size + 1 by omega) (fsC rs) 0 _ BS
      clear TR5 BS
      go_wp2_with (first | (refine wpList_load_mid rfl 75 _ rfl w.heap.size 0 rfl (fsC rs) _ RS' Try.underlying75 rfl (unhide HZ7) ?_) | (refine wpList_store_mid rfl 75 _ _ rfl (w.heap.size + 1) 0 (fsC rs).toArray rfl rfl tz (size_fsa hFs h4s) (one_fs rs) ?_) | (refine bodyPost_ret (res_cell_tmp Try.results56 _ _ (w.heap.size + 1) (fsC rs) _ rfl pz Try.underlying75 rfl (unhide HZ7)) rfl (unhide ?_)))
      exact hide ⟨by rw [unhide HR, unhide HNT]; rfl, Bz⟩
    · go_simp
      refine hK.out _ _ hHeld (fun hHeld => ?_)
      clear hK K
      try simp only [Act.put, List.setIfInBounds_toArray, List.set_cons_zero, List.set_cons_succ]
      refine takeL 8 (.int .i64 (b.wn + 1)) rfl (by kernel_rfl) (by kernel_rfl) (by kernel_rfl) (fun _ _ _ h => h) (Or.inl ⟨rfl, fun w9 hSw => by have he := unhide HWR; go_simp⟩) hHeld ?_
      try simp only [Act.put, List.setIfInBounds_toArray, List.set_cons_zero, List.set_cons_succ]
      refine oneL 3 rfl (by kernel_rfl) rfl (fun K hK => ?_)
      go_simp
      refine (rowAll_any (pgS true) _).mono ?_
      rintro e w4 ⟨rfl, b4⟩
      go_wp2_with fail
      have rk4 := rangeAt_below rk2 b4 (Nat.lt_of_succ_lt hHeld.2.2)
      have d24 := (b4.cell (p := ⟨w.heap.size, k * 21 + 20, none⟩) (Nat.lt_of_succ_lt hHeld.2.2)).trans d20
      refine hK.out _ _ ⟨⟨there_below hHeld.1.1 b4 (Nat.lt_of_succ_lt hHeld.2.2), there_below hHeld.1.2 b4 hHeld.2.2⟩, hHeld.2.1.trans (b4.mono hHeld.2.1.size), Nat.lt_of_lt_of_le hHeld.2.2 b4.size⟩ (fun hHeld4 => ?_)
      clear hK K hHeld b4 rk2 d20
      have hHeld := hHeld4
      clear hHeld4
      try simp only [Act.put, List.setIfInBounds_toArray, List.set_cons_zero, List.set_cons_succ]
      refine oneL 9 rfl (by kernel_rfl) rfl (fun K hK => ?_)
      refine wp_build_two 73 _ _ rfl (.agg (psC (List.replicate 4 (pgS true))).toArray) (.int .i64 (b.wn + 1)) rfl rfl (bkC (wiB b true)).toArray (unhide HB) ?_
      refine hK.out _ _ hHeld (fun hHeld => ?_)
      clear hK K
      try simp only [Act.put, List.setIfInBounds_toArray, List.set_cons_zero, List.set_cons_succ]
      refine takeL 10 (.pointer (some ⟨w.heap.size, k * 21, none⟩)) rfl (by kernel_rfl) (by kernel_rfl) (by kernel_rfl) (fun _ _ _ h => h) (Or.inl ⟨rfl, fun w9 hSw => by go_simp⟩) hHeld ?_
      try simp only [Act.put, List.setIfInBounds_toArray, List.set_cons_zero, List.set_cons_succ]
      have rs := range_set bkC 21 (fun x hx => len_bkC x (hkF x hx)) k (by omega) (wiB b true) (len_bkC _ (wiB_len b true)) rk4 (by rw [Nat.zero_add]; exact hHeld.1.1)
      rw [Nat.zero_add] at rs
      have tk5 : w4.there w.heap.size (k * 21) (bkC (wiB b true)).toArray.size := by rw [unhide HL5]; exact hHeld.1.1
      have BS := below_setCells w.heap.size (Nat.le_refl _) (bkC (wiB b true)) (k * 21) _ hHeld.2.1
      have TS := World.there_setCells hHeld.1.1 w.heap.size (k * 21) (bkC (wiB b true))
      have TR5 := World.there_setCells hHeld.1.2 w.heap.size (k * 21) (bkC (wiB b true))
      have SS := hHeld.2.2
      rw [← size_setCells w.heap.size (bkC (wiB b true)) (k * 21) w4] at SS
      have RS := hide (show (w4.setCells w.heap.size (k * 21) (bkC (wiB b true))).rangeAt w.heap.size 0 (fsC (wiL ks k true)) by rw [unhide HWL]; exact rs)
      clear rs rk4 d24
      generalize bkC (wiB b true) = nb at *
      refine oneL 11 rfl (by kernel_rfl) rfl (fun K hK => ?_)
      refine wp_store_mid 73 _ _ rfl w.heap.size (k * 21) nb.toArray rfl rfl tk5 (unhide HZB) HOB ?_
      refine hK.out _ _ ⟨⟨TS, TR5⟩, BS, SS⟩ (fun _ => ?_)
      clear hK K hHeld TS tk5
      try simp only [Act.put, List.setIfInBounds_toArray, List.set_cons_zero, List.set_cons_succ]
      refine wpAnyH_done (by kernel_rfl) ?_ _
      refine NoPanic.normal ?_
      generalize w4.setCells w.heap.size (k * 21) nb = w5 at *
      have hFs := wiL_fours (t := true) hkF (k := k)
      have h4s : (wiL ks k true).length = 4 := by rw [wiL_len]; exact hk4
      generalize wiL ks k true = rs at *
      have HZ7 := hide (size_fsl hFs h4s)
      have RS' := unhide RS
      clear RS
      have tz : w5.there (w.heap.size + 1) 0 (fsC rs).toArray.size := by rw [show (fsC rs).toArray.size = 84 by rw [List.size_toArray, len_fsC _ hFs, h4s]]; exact TR5
      have pz := World.rangeAt_setCells_same w5 (w.heap.size + 1) 0 (fsC rs) tz
      have Bz := below_setCells (w.heap.size + 1) (show w.heap.size ≤ w.heap.size + 1 by omega) (fsC rs) 0 _ BS
      clear TR5 BS
      go_wp2_with (first | (refine wpList_load_mid rfl 75 _ rfl w.heap.size 0 rfl (fsC rs) _ RS' Try.underlying75 rfl (unhide HZ7) ?_) | (refine wpList_store_mid rfl 75 _ _ rfl (w.heap.size + 1) 0 (fsC rs).toArray rfl rfl tz (size_fsa hFs h4s) (one_fs rs) ?_) | (refine bodyPost_ret (res_cell_tmp Try.results56 _ _ (w.heap.size + 1) (fsC rs) _ rfl pz Try.underlying75 rfl (unhide HZ7)) rfl (unhide ?_)))
      exact hide ⟨by rw [unhide HR, unhide HNT]; rfl, Bz⟩

set_option maxRecDepth 100000 in
set_option maxHeartbeats 2000000 in
theorem implWipe_any (a : Option Addr) (cap : Nat) (blk : Int) (torn : Bool) (bs : List Bk) (w : World) (hf : FsAt w a bs) (hm : bs.length ≤ 9223372036854775807) :
    Calls Try.prog 23 #[.slice a bs.length cap, .int .i64 blk, .bool torn] w fun e w' => OutPost w (wiR bs blk torn) (wiO bs blk) e w' := by
  obtain ⟨zf, hz, hz84⟩ := zrow
  have HZ := hide hz
  clear hz
  go_enter Try.func23, Try.ntmps23
  go_wp2_with fail
  refine (at_any a cap blk bs _ hf hm).mono ?_
  rintro e w1 ⟨ks, rfl, hk4, hkF, hke, b1⟩
  have hsz : zf.size = (fsC ks).toArray.size := by rw [hz84, List.size_toArray, len_fsC _ hkF, hk4]
  have r1 := rangeAt_new w1 (fsC ks) 75
  have t1 := there_new w1 (fsC ks) 75
  rw [len_fsC _ hkF, hk4] at t1
  have hkl := b1.size
  have BK := b1.alloc b1.size (.cells (fsC ks).toArray 75)
  have sk : w1.heap.size < (w1.alloc (.cells (fsC ks).toArray 75)).heap.size := by simp
  clear b1
  cases hs : okB bs && inB blk 0 3
  · have HR : Hid (wiR bs blk torn = []) := by show _ = _; unfold wiR; rw [hs]; rfl
    have HO : Hid (wiO bs blk = false) := by show _ = _; unfold wiO; rw [hs]; rfl
    clear hs hke
    go_wp2_with (first | (refine wpList_alloc_big rfl 75 rfl zf (unhide HZ) ?_) | (refine wpList_store_new rfl 75 _ _ rfl w1 zf (fsC ks).toArray rfl rfl rfl (size_fsa hkF hk4) hsz (one_fs ks) ?_))
    go_ret2
    rw [unhide HR, unhide HO]
    exact ⟨_, rfl, .inl ⟨rfl, _, _, rfl⟩, BK⟩
  · obtain rfl := hke hs
    have hs2 := hs
    rw [Bool.and_eq_true] at hs2
    obtain ⟨k, rfl, hk⟩ := in_range hs2.2
    have HW := hide (wipeK_any ks hs2.1 k hk torn)
    have HR : Hid (wiR ks (k : Int) torn = wiK ks k torn) := by show _ = _; unfold wiR; rw [hs]; rfl
    have HO : Hid (wiO ks (k : Int) = !wiN ks k) := by show _ = _; unfold wiO; rw [hs]; rfl
    have h4s := wiK_len hk4 k torn
    have hFs := wiK_fours hkF k torn
    clear hs hs2 hke
    generalize wiK ks k torn = Rs at *
    generalize (!wiN ks k) = Os at *
    go_wp2_with (first | (refine wpList_alloc_big rfl 75 rfl zf (unhide HZ) ?_) | (refine wpList_store_new rfl 75 _ _ rfl w1 zf (fsC ks).toArray rfl rfl rfl (size_fsa hkF hk4) hsz (one_fs ks) ?_) | (refine wpList_load_mid rfl 75 _ rfl w1.heap.size 0 rfl (fsC ks) _ r1 Try.underlying75 rfl (size_fsl hkF hk4) ?_))
    generalize w1.alloc (.cells (fsC ks).toArray 75) = w2 at *
    generalize w1.heap.size = kb at *
    refine (unhide HW _).mono ?_
    rintro e w3 ⟨rfl, b3⟩
    have t3 : w3.there kb 0 (fsC Rs).toArray.size := by rw [List.size_toArray, len_fsC _ hFs, h4s]; exact there_below t1 b3 sk
    have p3 := World.rangeAt_setCells_same w3 kb 0 (fsC Rs) t3
    have B3 := below_setCells kb hkl (fsC Rs) 0 _ (BK.trans (b3.mono BK.size))
    have HSF := hide (size_fsl hFs h4s)
    clear r1 t1 BK b3 HW
    go_wp2_with (first | (refine wpList_store_mid rfl 75 _ _ rfl kb 0 (fsC Rs).toArray rfl rfl t3 (size_fsa hFs h4s) (one_fs Rs) ?_) | (refine wpList_load_mid rfl 75 _ rfl kb 0 rfl (fsC Rs) _ p3 Try.underlying75 rfl (unhide HSF) ?_))
    generalize w3.setCells kb 0 (fsC Rs) = w4 at *
    refine (list_any Rs h4s hFs _).mono ?_
    rintro e w6 ⟨g, G, rfl, o6, b6⟩
    have o7 := o6.mono B3.size
    have B6 := B3.trans (b6.mono B3.size)
    clear o6 b6 B3 p3 t3
    go_wp2
    go_ret2
    refine ⟨_, by rw [unhide HO]; rfl, .inr ⟨g, G, 4, ?_, ?_⟩, B6⟩
    · rw [unhide HR, h4s]; rfl
    · rw [unhide HR, h4s]; exact o7
end Go.Proofs.Ytkikeapfjpnkgaa.ImplW
