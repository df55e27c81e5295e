/-
  Texts that belong together, one behind the other: ImplW, LawsA, LawsB, LawsE, OpenF.
-/
import Derived.Test.YtcmklcfedeeahaaQ7
import Derived.Deep.RegionHeld3
import Derived.Deep.DrawnRows
import Derived.ShutString
import Derived.ChangeOld
import Derived.Deep.Slices
import Derived.ChangeSame
import Derived.Lib.SmallJoins

/-
  The program's FlashWipe, for every list of blocks.
-/
namespace Go.Proofs.Ytcmklcfedeeahaa.ImplW
open Go.ChangeShapes Go.WideShapes Go.ChangeAt Go.RowKit OkA Big Fl ImplB ImplF ImplS Own ImplT ImplU SpecA SpecB SpecC SpecD SpecW SpecX
set_option linter.unusedVariables false
set_option linter.unusedSimpArgs false
attribute [local go_sem ↓] Go.wp_at_zero Go.wp_at_succ

section
variable {P : Program} {rest : List Oper} {o : Oper} {a : Act} {w : World} {Q : Exit → Act → World → Prop}
/-- Two operations may come up. -/
theorem twoL {l : List Oper} {md : Region.Mode} {S : World → Prop} (i j : Nat) {oi oj : Oper} {fuel : Nat} {listed : Array Bool} (hi : nth l i = some oi) (hj : nth l j = some oj) (hr : Region.ready md l.toArray listed = [i, j])
    (hwi : Region.wanted oi (yielded l.toArray a.tmps) = true) (hwj : Region.wanted oj (yielded l.toArray a.tmps) = true)
    (h1 : ∀ K' : Act → World → Prop, Shut (∀ a w, S w → (S w → wpAnyH P md l.toArray Q S fuel (listed.setIfInBounds i true) a w) → K' a w) → Oper.wp P oi a w K' Q)
    (h2 : ∀ K' : Act → World → Prop, Shut (∀ a w, S w → (S w → wpAnyH P md l.toArray Q S fuel (listed.setIfInBounds j true) a w) → K' a w) → Oper.wp P oj a w K' Q) : wpAnyH P md l.toArray Q S (fuel + 1) listed a w :=
  wpAnyH_ready hr (by simp) (AllReadyH.cons (nth_spec l i oi hi) (fun K hK => by rw [if_pos hwi]; exact h1 K hK) (AllReadyH.cons (nth_spec l j oj hj) (fun K hK => by rw [if_pos hwj]; exact h2 K hK) AllReadyH.nil))
theorem wp_build_two {K : Act → World → Prop} (T : TypeId) (x y : Operand) (ho : o.op = .build T #[(0, x), (1, y)]) (vx vy : Value) (hx : a.eval x = vx) (hy : a.eval y = vy) (cs : Array Value) (hb : P.built T [(0, vx), (1, vy)] = some cs)
    (h : K (a.put o.dst (.agg cs)) w) : o.wp P a w K Q := by
  have hp : ((#[(0, x), (1, y)] : Array (Nat × Operand)).map fun (i, x) => (i, a.eval x)).toList = [(0, vx), (1, vy)] := by simp [hx, hy]
  exact wp_build T _ ho (by rw [hp, hb]; rfl) (by rw [hp, hb]; exact h)
end
theorem wiB_len (b : Bk) (t : Bool) : (wiB b t).ps.length = 4 := by simp [wiB]
theorem size_bkA {b : Bk} (h4 : b.ps.length = 4) : (Try.prog.info? 80).map (·.size) = some (bkC b).toArray.size := by rw [List.size_toArray, len_bkC b h4]; kernel_rfl

def RowPost (w : World) (p : Pg) (e : Ending) (w' : World) : Prop := e = .returned (.agg (psC (List.replicate 4 p)).toArray) ∧ Below w.heap.size w w'
set_option maxRecDepth 100000 in
set_option maxHeartbeats 1000000 in
theorem rowAll' (zs : List Pg) (h4 : zs.length = 4) (hz : (Try.prog.info? 78).bind (·.zero) = some (.agg (psC zs).toArray)) (p : Pg) (w : World) :
    Calls Try.prog 143 #[.agg (pgC p).toArray] w fun e w' => RowPost w p e w' := by
  have b0 : Below w.heap.size w (w.alloc (.cells (pgC p).toArray 75)) := (Below.refl _ _).alloc (Nat.le_refl _) _
  have b1 := (b0.alloc b0.size (.cells (psC zs).toArray 78))
  have b2 := (b1.alloc b1.size (.cells (psC zs).toArray 78))
  have rp := World.rangeAt_alloc (World.rangeAt_alloc (rangeAt_new w (pgC p) 75) (.cells (psC zs).toArray 78)) (.cells (psC zs).toArray 78)
  have t1 := World.there_alloc (there_new (w.alloc (.cells (pgC p).toArray 75)) (psC zs) 78) (.cells (psC zs).toArray 78)
  have t2 := there_new ((w.alloc (.cells (pgC p).toArray 75)).alloc (.cells (psC zs).toArray 78)) (psC zs) 78
  simp only [World.size_alloc] at t1 t2
  have hl : (psC zs).length = 20 := by rw [len_psC, h4]
  rw [hl] at t1 t2
  have HZ := hide hz
  have HS5 := hide (size_pg p)
  have HA5 := hide (size_pga p)
  have O5 := one_pg p
  have HST := hide (fun w' j => wipe_step w' (w.heap.size + 1 + 1) j p)
  have hpl : (pgC p).toArray.size = 5 := by rw [List.size_toArray, len_pgC]
  have hr4 : (List.replicate 4 p).length = 4 := by simp
  have hR4 : (psC (List.replicate 4 p)).length = 20 := by rw [len_psC, hr4]
  clear hz hl b0 b1
  go_enter Try.func143, Try.ntmps143
  go_wp2_with (first | (refine wpList_box_big rfl 75 _ rfl (pgC p).toArray rfl ?_) | (refine wpList_alloc_big rfl 78 rfl (psC zs).toArray (unhide HZ) ?_))
  generalize ((w.alloc (.cells (pgC p).toArray 75)).alloc (.cells (psC zs).toArray 78)).alloc (.cells (psC zs).toArray 78) = w1 at *
  go_loopw [5] (fun i w' => ∃ j : Nat, j ≤ 4 ∧ i = .int .i64 j ∧ Hid (w' = w1.setCells (w.heap.size + 1 + 1) 0 (psC (List.replicate j p)))) (fun i _ => 4 - (intOf i).toNat)
  case atStart => exact ⟨0, by omega, rfl, rfl⟩
  case round =>
    obtain ⟨j, hj, rfl, hwr⟩ := hrel
    by_cases h0 : j = 4
    · subst h0
      have rr : wr.rangeAt (w.heap.size + 1 + 1) 0 (psC (List.replicate 4 p)) := by rw [unhide hwr]; exact World.rangeAt_setCells_same _ _ _ _ (by rw [hR4]; exact t2)
      have tt : wr.there (w.heap.size + 1) 0 (psC (List.replicate 4 p)).length := by rw [unhide hwr, hR4]; exact World.there_setCells t1 _ _ _
      have BB : Below w.heap.size w wr := by rw [unhide hwr]; exact below_setCells _ (by omega) _ _ _ b2
      have HZ1 := hide (size_row hr4)
      have HZ2 := hide (size_rowa hr4)
      have HO := one_ps (List.replicate 4 p)
      generalize hRe : psC (List.replicate 4 p) = rcs at *
      have HRE := hide hRe
      have RS := World.rangeAt_setCells_same _ _ _ _ tt
      clear hwr rp t1 t2 HST hRe hR4
      go_wp2_with (first | (refine wpList_load_mid rfl 78 _ rfl (w.heap.size + 1 + 1) 0 rfl rcs _ rr Try.underlying78 rfl (unhide HZ1) ?_) | (refine wpList_store_mid rfl 78 _ _ rfl (w.heap.size + 1) 0 rcs.toArray rfl rfl tt (unhide HZ2) HO ?_) | (refine bodyPost_ret (res_cell_mid Try.results143 _ _ (w.heap.size + 1) rcs _ rfl RS Try.underlying78 rfl (unhide HZ1)) rfl (unhide ?_)))
      exact hide ⟨by rw [unhide HRE], below_setCells _ (by omega) _ _ _ BB⟩
    · have hlt : (j : Int) < 4 := by omega
      have hlo : (0 : Int) ≤ (j : Int) := by omega
      have HS := hide (unhide HST w1 j)
      rw [← unhide hwr] at HS
      have r5 : wr.rangeAt w.heap.size 0 (pgC p) := by rw [unhide hwr]; exact World.rangeAt_setCells_apart rp _ _ _ (.inl (by omega))
      have t5 : wr.there (w.heap.size + 1 + 1) (j * 5) (pgC p).toArray.size := by
        rw [unhide hwr, hpl]
        have := there_sub (World.there_setCells t2 (w.heap.size + 1 + 1) 0 (psC (List.replicate j p))) (j * 5) 5 (by omega)
        rwa [Nat.zero_add] at this
      clear hwr rp t1 t2 HST
      generalize pgC p = pcs at *
      go_wp2_with (first | (refine wpList_load_mid rfl 75 _ rfl w.heap.size 0 rfl pcs _ r5 Try.underlying75 rfl (unhide HS5) ?_) | (refine wpList_store_mid rfl 75 _ _ rfl (w.heap.size + 1 + 1) (j * 5) pcs.toArray rfl rfl t5 (unhide HA5) O5 ?_))
      go_roundw
      case rel => exact ⟨j + 1, by omega, by first | rfl | go_num, (unhide HS).symm⟩
      case measure => simp [intOf]; omega
theorem rowAll_any (p : Pg) (w : World) :
    Calls Try.prog 143 #[.agg (pgC p).toArray] w fun e w' => RowPost w p e w' := rowAll' zPs rfl zero_ps p w

/-- What a change of kept blocks answers. -/
def KpPost (w : World) (ks : List Bk) (o : Bool) (e : Ending) (w' : World) : Prop := e = .returned (.tuple #[.agg (fsC ks).toArray, .bool o]) ∧ Below w.heap.size w w'
def wiK (ks : List Bk) (k : Nat) (torn : Bool) : List Bk := if wiN ks k then ks else wiL ks k torn
theorem wiK_len {ks : List Bk} (h4 : ks.length = 4) (k : Nat) (torn : Bool) : (wiK ks k torn).length = 4 := by
  unfold wiK; split
  · exact h4
  · rw [wiL_len]; exact h4
theorem wiK_fours {ks : List Bk} (hF : Fours ks) (k : Nat) (torn : Bool) : Fours (wiK ks k torn) := by
  unfold wiK; split
  · exact hF
  · exact wiL_fours hF

set_option maxRecDepth 100000 in
set_option maxHeartbeats 2000000 in
theorem wipeK_any (ks : List Bk) (hok : okB ks = true) (k : Nat) (hk : k < 4) (torn : Bool) (w : World) :
    Calls Try.prog 113 #[.agg (fsC ks).toArray, .int .i64 (k : Nat), .bool torn] w fun e w' => KpPost w (wiK ks k torn) (!wiN ks k) e w' := by
  obtain ⟨zf, hz, hz84⟩ := zrow
  have HZ := hide hz
  clear hz
  have hk4 := ok_len hok
  have hkF := ok_fours hok
  have rk := World.rangeAt_alloc (rangeAt_new w (fsC ks) 82) (.cells zf 82)
  have t1 := World.there_alloc (there_new w (fsC ks) 82) (.cells zf 82)
  rw [len_fsC _ hkF, hk4] at t1
  have tR := there_new (w.alloc (.cells (fsC ks).toArray 82)) zf.toList 82
  rw [Array.toArray_toList, Array.length_toList, hz84, World.size_alloc] at tR
  have BK : Below w.heap.size w ((w.alloc (.cells (fsC ks).toArray 82)).alloc (.cells zf 82)) := ((Below.refl _ _).alloc (Nat.le_refl _) _).alloc (by simp) _
  have sk : w.heap.size + 1 < ((w.alloc (.cells (fsC ks).toArray 82)).alloc (.cells zf 82)).heap.size := by simp
  have hkb : k < ks.length := by omega
  have hb4 : ks[k].ps.length = 4 := hkF.at k hkb
  obtain ⟨hw0, hw2⟩ := ok_worn hok k hkb
  have hgd : ks.getD k zBk = ks[k] := by rw [List.getD_eq_getElem?_getD, List.getElem?_eq_getElem hkb]; rfl
  have HR0 : Hid (wiK ks k torn = if wiN ks k then ks else wiL ks k torn) := rfl
  have HN : Hid (wiN ks k = decide (200 ≤ ks[k].wn)) := by show _ = _; unfold wiN; rw [hgd]
  have c20 := worn_bk hb4 (sub_fs hkF rk k hkb)
  have tk : ((w.alloc (.cells (fsC ks).toArray 82)).alloc (.cells zf 82)).there w.heap.size (k * 21) 21 := by
    have := there_sub t1 (k * 21) 21 (by omega)
    rwa [Nat.zero_add] at this
  have HWB : Hid (∀ t, wiL ks k t = ks.set k (wiB ks[k] t)) := fun t => by unfold wiL; rw [hgd]
  have HBT : Hid (∀ t, Try.prog.built 80 [(0, .agg (psC (List.replicate 4 (pgS t))).toArray), (1, .int .i64 (ks[k].wn + 1))] = some (bkC (wiB ks[k] t)).toArray) := fun t => built_bk _ _ (by simp)
  clear hok t1 hgd
  have hlo : (0 : Int) ≤ (k : Int) := by omega
  have hhi : (k : Int) < 4 := by omega
  generalize wiK ks k torn = Rs at *
  generalize ks[k] = b at *
  by_cases hw : b.wn = 200
  · have hw' : (b.wn == 200) = true := by simpa using hw
    have HNT : Hid (wiN ks k = true) := by show _ = _; rw [unhide HN]; simp; omega
    have HR : Hid (Rs = ks) := by show _ = _; rw [unhide HR0, unhide HNT]; rfl
    have tz : ((w.alloc (.cells (fsC ks).toArray 82)).alloc (.cells zf 82)).there (w.heap.size + 1) 0 (fsC ks).toArray.size := by rw [show (fsC ks).toArray.size = 84 by rw [List.size_toArray, len_fsC _ hkF, hk4]]; exact tR
    have pz := World.rangeAt_setCells_same _ _ _ (fsC ks) tz
    have Bz := below_setCells (w.heap.size + 1) (show w.heap.size ≤ w.heap.size + 1 by omega) (fsC ks) 0 _ BK
    have HSF := hide (size_fsl hkF hk4)
    clear hw HR0 HN HWB HBT tk tR
    go_enter Try.func113, Try.ntmps113
    go_wp2_with (first | (refine wpList_box_big rfl _ _ rfl (fsC ks).toArray rfl ?_) | (refine wpList_alloc_big rfl 82 rfl zf (unhide HZ) ?_) | (refine wpList_load_mid rfl 82 _ rfl w.heap.size 0 rfl (fsC ks) _ rk Try.underlying82 rfl (unhide HSF) ?_) | (refine wpList_store_mid rfl 82 _ _ rfl (w.heap.size + 1) 0 (fsC ks).toArray rfl rfl tz (size_fsa hkF hk4) (one_fs ks) ?_) | (refine bodyPost_ret (res_cell_tmp Try.results113 _ _ (w.heap.size + 1) (fsC ks) _ rfl pz Try.underlying82 rfl (unhide HSF)) rfl (unhide ?_)))
    exact hide ⟨by rw [unhide HR, unhide HNT]; rfl, Bz⟩
  have hw' : (b.wn == 200) = false := by simpa using hw
  have HNT : Hid (wiN ks k = false) := by show _ = _; rw [unhide HN]; simp; omega
  have HR : Hid (Rs = wiL ks k torn) := by show _ = _; rw [unhide HR0, unhide HNT]; rfl
  have HWR : Hid (IntKind.i64.wrap (b.wn + 1) = b.wn + 1) := by show _ = _; rw [IntKind.wrap_i64]; omega
  clear hw HR0 HN
  cases torn
  · have HB := hide (unhide HBT false)
    have HWL := hide (unhide HWB false)
    have HL5 : Hid ((bkC (wiB b false)).toArray.size = 21) := by show _ = _; rw [List.size_toArray, len_bkC _ (wiB_len b false)]
    have HZB := hide (size_bkA (wiB_len b false))
    have HOB := one_bk (wiB b false)
    clear HBT HWB
    go_enter Try.func113, Try.ntmps113
    go_wp2_with (first | (refine wpList_box_big rfl _ _ rfl (fsC ks).toArray rfl ?_) | (refine wpList_alloc_big rfl 82 rfl zf (unhide HZ) ?_))
    generalize (w.alloc (.cells (fsC ks).toArray 82)).alloc (.cells zf 82) = w2 at *
    refine wp_region_noPanic ?_
    refine wp_region_held_drew (S := fun w' => (w'.there w.heap.size (k * 21) 21 ∧ w'.there (w.heap.size + 1) 0 84) ∧ Below w.heap.size w w' ∧ w.heap.size + 1 < w'.heap.size) (by kernel_rfl) (⟨⟨by simpa using tk, by simpa using tR⟩, BK.drew, by simpa using sk⟩) (fun hHeld => ?_)
    have d20 : w2.drew.cell? ⟨w.heap.size, k * 21 + 20, none⟩ = some (.int .i64 b.wn) := by simpa using c20
    have rk2 : w2.drew.rangeAt w.heap.size 0 (fsC ks) := by simpa using rk
    clear c20 rk tk BK sk tR
    generalize w2.drew = w3 at *
    refine takeL 0 (.int .i64 k) rfl (by kernel_rfl) (by kernel_rfl) (by kernel_rfl) (fun _ _ _ h => h) (Or.inl ⟨rfl, fun _ _ => rfl⟩) hHeld ?_
    try simp only [Act.put, List.setIfInBounds_toArray, List.set_cons_zero, List.set_cons_succ]
    refine takeL 1 (.int .i64 0) rfl (by kernel_rfl) (by kernel_rfl) (by kernel_rfl) (fun _ _ _ h => h) (Or.inl ⟨rfl, fun _ _ => rfl⟩) hHeld ?_
    try simp only [Act.put, List.setIfInBounds_toArray, List.set_cons_zero, List.set_cons_succ]
    refine takeL 2 (.agg #[.int .i64 0, .int .i64 0, .int .i64 0, .int .i64 0, .int .i64 0]) rfl (by kernel_rfl) (by kernel_rfl) (by kernel_rfl) (fun _ _ _ h => h) (Or.inl ⟨rfl, fun w9 hSw => by go_simp⟩) hHeld ?_
    try simp only [Act.put, List.setIfInBounds_toArray, List.set_cons_zero, List.set_cons_succ]
    refine takeL 4 (.int .i64 k) rfl (by kernel_rfl) (by kernel_rfl) (by kernel_rfl) (fun _ _ _ h => h) (Or.inl ⟨rfl, fun _ _ => rfl⟩) hHeld ?_
    try simp only [Act.put, List.setIfInBounds_toArray, List.set_cons_zero, List.set_cons_succ]
    refine takeL 5 (.pointer (some ⟨w.heap.size, k * 21, none⟩)) rfl (by kernel_rfl) (by kernel_rfl) (by kernel_rfl) (fun _ _ _ h => h) (Or.inl ⟨rfl, fun w9 hSw => by go_simp⟩) hHeld ?_
    try simp only [Act.put, List.setIfInBounds_toArray, List.set_cons_zero, List.set_cons_succ]
    refine takeL 6 (.pointer (some ⟨w.heap.size, k * 21 + 20, none⟩)) rfl (by kernel_rfl) (by kernel_rfl) (by kernel_rfl) (fun _ _ _ h => h) (Or.inl ⟨rfl, fun w9 hSw => by go_simp⟩) hHeld ?_
    try simp only [Act.put, List.setIfInBounds_toArray, List.set_cons_zero, List.set_cons_succ]
    refine twoL 3 7 rfl rfl (by kernel_rfl) rfl rfl (fun K hK => ?_) (fun K hK => ?_)
    · go_simp
      refine (rowAll_any (pgS false) _).mono ?_
      rintro e w4 ⟨rfl, b4⟩
      go_wp2_with fail
      have rk4 := rangeAt_below rk2 b4 (Nat.lt_of_succ_lt hHeld.2.2)
      have d24 := (b4.cell (p := ⟨w.heap.size, k * 21 + 20, none⟩) (Nat.lt_of_succ_lt hHeld.2.2)).trans d20
      refine hK.out _ _ ⟨⟨there_below hHeld.1.1 b4 (Nat.lt_of_succ_lt hHeld.2.2), there_below hHeld.1.2 b4 hHeld.2.2⟩, hHeld.2.1.trans (b4.mono hHeld.2.1.size), Nat.lt_of_lt_of_le hHeld.2.2 b4.size⟩ (fun hHeld4 => ?_)
      clear hK K hHeld b4 rk2 d20
      have hHeld := hHeld4
      clear hHeld4
      try simp only [Act.put, List.setIfInBounds_toArray, List.set_cons_zero, List.set_cons_succ]
      refine oneL 7 rfl (by kernel_rfl) rfl (fun K hK => ?_)
      go_simp
      refine hK.out _ _ hHeld (fun hHeld => ?_)
      clear hK K
      try simp only [Act.put, List.setIfInBounds_toArray, List.set_cons_zero, List.set_cons_succ]
      refine takeL 8 (.int .i64 (b.wn + 1)) rfl (by kernel_rfl) (by kernel_rfl) (by kernel_rfl) (fun _ _ _ h => h) (Or.inl ⟨rfl, fun w9 hSw => by have he := unhide HWR; go_simp⟩) hHeld ?_
      try simp only [Act.put, List.setIfInBounds_toArray, List.set_cons_zero, List.set_cons_succ]
      refine oneL 9 rfl (by kernel_rfl) rfl (fun K hK => ?_)
      refine wp_build_two 80 _ _ rfl (.agg (psC (List.replicate 4 (pgS false))).toArray) (.int .i64 (b.wn + 1)) rfl rfl (bkC (wiB b false)).toArray (unhide HB) ?_
      refine hK.out _ _ hHeld (fun hHeld => ?_)
      clear hK K
      try simp only [Act.put, List.setIfInBounds_toArray, List.set_cons_zero, List.set_cons_succ]
      refine takeL 10 (.pointer (some ⟨w.heap.size, k * 21, none⟩)) rfl (by kernel_rfl) (by kernel_rfl) (by kernel_rfl) (fun _ _ _ h => h) (Or.inl ⟨rfl, fun w9 hSw => by go_simp⟩) hHeld ?_
      try simp only [Act.put, List.setIfInBounds_toArray, List.set_cons_zero, List.set_cons_succ]
      have rs := range_set bkC 21 (fun x hx => len_bkC x (hkF x hx)) k (by omega) (wiB b false) (len_bkC _ (wiB_len b false)) rk4 (by rw [Nat.zero_add]; exact hHeld.1.1)
      rw [Nat.zero_add] at rs
      have tk5 : w4.there w.heap.size (k * 21) (bkC (wiB b false)).toArray.size := by rw [unhide HL5]; exact hHeld.1.1
      have BS := below_setCells w.heap.size (Nat.le_refl _) (bkC (wiB b false)) (k * 21) _ hHeld.2.1
      have TS := World.there_setCells hHeld.1.1 w.heap.size (k * 21) (bkC (wiB b false))
      have TR5 := World.there_setCells hHeld.1.2 w.heap.size (k * 21) (bkC (wiB b false))
      have SS := hHeld.2.2
      rw [← size_setCells w.heap.size (bkC (wiB b false)) (k * 21) w4] at SS
      have RS := hide (show (w4.setCells w.heap.size (k * 21) (bkC (wiB b false))).rangeAt w.heap.size 0 (fsC (wiL ks k false)) by rw [unhide HWL]; exact rs)
      clear rs rk4 d24
      generalize bkC (wiB b false) = nb at *
      refine oneL 11 rfl (by kernel_rfl) rfl (fun K hK => ?_)
      refine wp_store_mid 80 _ _ rfl w.heap.size (k * 21) nb.toArray rfl rfl tk5 (unhide HZB) HOB ?_
      refine hK.out _ _ ⟨⟨TS, TR5⟩, BS, SS⟩ (fun _ => ?_)
      clear hK K hHeld TS tk5
      try simp only [Act.put, List.setIfInBounds_toArray, List.set_cons_zero, List.set_cons_succ]
      refine wpAnyH_done (by kernel_rfl) ?_ _
      refine NoPanic.normal ?_
      generalize w4.setCells w.heap.size (k * 21) nb = w5 at *
      have hFs := wiL_fours (t := false) hkF (k := k)
      have h4s : (wiL ks k false).length = 4 := by rw [wiL_len]; exact hk4
      generalize wiL ks k false = rs at *
      have HZ7 := hide (size_fsl hFs h4s)
      have RS' := unhide RS
      clear RS
      have tz : w5.there (w.heap.size + 1) 0 (fsC rs).toArray.size := by rw [show (fsC rs).toArray.size = 84 by rw [List.size_toArray, len_fsC _ hFs, h4s]]; exact TR5
      have pz := World.rangeAt_setCells_same w5 (w.heap.size + 1) 0 (fsC rs) tz
      have Bz := below_setCells (w.heap.size + 1) (show w.heap.size ≤ w.heap.size + 1 by omega) (fsC rs) 0 _ BS
      clear TR5 BS
      go_wp2_with (first | (refine wpList_load_mid rfl 82 _ rfl w.heap.size 0 rfl (fsC rs) _ RS' Try.underlying82 rfl (unhide HZ7) ?_) | (refine wpList_store_mid rfl 82 _ _ rfl (w.heap.size + 1) 0 (fsC rs).toArray rfl rfl tz (size_fsa hFs h4s) (one_fs rs) ?_) | (refine bodyPost_ret (res_cell_tmp Try.results113 _ _ (w.heap.size + 1) (fsC rs) _ rfl pz Try.underlying82 rfl (unhide HZ7)) rfl (unhide ?_)))
      exact hide ⟨by rw [unhide HR, unhide HNT]; rfl, Bz⟩
    · go_simp
      refine hK.out _ _ hHeld (fun hHeld => ?_)
      clear hK K
      try simp only [Act.put, List.setIfInBounds_toArray, List.set_cons_zero, List.set_cons_succ]
      refine takeL 8 (.int .i64 (b.wn + 1)) rfl (by kernel_rfl) (by kernel_rfl) (by kernel_rfl) (fun _ _ _ h => h) (Or.inl ⟨rfl, fun w9 hSw => by have he := unhide HWR; go_simp⟩) hHeld ?_
      try simp only [Act.put, List.setIfInBounds_toArray, List.set_cons_zero, List.set_cons_succ]
      refine oneL 3 rfl (by kernel_rfl) rfl (fun K hK => ?_)
      go_simp
      refine (rowAll_any (pgS false) _).mono ?_
      rintro e w4 ⟨rfl, b4⟩
      go_wp2_with fail
      have rk4 := rangeAt_below rk2 b4 (Nat.lt_of_succ_lt hHeld.2.2)
      have d24 := (b4.cell (p := ⟨w.heap.size, k * 21 + 20, none⟩) (Nat.lt_of_succ_lt hHeld.2.2)).trans d20
      refine hK.out _ _ ⟨⟨there_below hHeld.1.1 b4 (Nat.lt_of_succ_lt hHeld.2.2), there_below hHeld.1.2 b4 hHeld.2.2⟩, hHeld.2.1.trans (b4.mono hHeld.2.1.size), Nat.lt_of_lt_of_le hHeld.2.2 b4.size⟩ (fun hHeld4 => ?_)
      clear hK K hHeld b4 rk2 d20
      have hHeld := hHeld4
      clear hHeld4
      try simp only [Act.put, List.setIfInBounds_toArray, List.set_cons_zero, List.set_cons_succ]
      refine oneL 9 rfl (by kernel_rfl) rfl (fun K hK => ?_)
      refine wp_build_two 80 _ _ rfl (.agg (psC (List.replicate 4 (pgS false))).toArray) (.int .i64 (b.wn + 1)) rfl rfl (bkC (wiB b false)).toArray (unhide HB) ?_
      refine hK.out _ _ hHeld (fun hHeld => ?_)
      clear hK K
      try simp only [Act.put, List.setIfInBounds_toArray, List.set_cons_zero, List.set_cons_succ]
      refine takeL 10 (.pointer (some ⟨w.heap.size, k * 21, none⟩)) rfl (by kernel_rfl) (by kernel_rfl) (by kernel_rfl) (fun _ _ _ h => h) (Or.inl ⟨rfl, fun w9 hSw => by go_simp⟩) hHeld ?_
      try simp only [Act.put, List.setIfInBounds_toArray, List.set_cons_zero, List.set_cons_succ]
      have rs := range_set bkC 21 (fun x hx => len_bkC x (hkF x hx)) k (by omega) (wiB b false) (len_bkC _ (wiB_len b false)) rk4 (by rw [Nat.zero_add]; exact hHeld.1.1)
      rw [Nat.zero_add] at rs
      have tk5 : w4.there w.heap.size (k * 21) (bkC (wiB b false)).toArray.size := by rw [unhide HL5]; exact hHeld.1.1
      have BS := below_setCells w.heap.size (Nat.le_refl _) (bkC (wiB b false)) (k * 21) _ hHeld.2.1
      have TS := World.there_setCells hHeld.1.1 w.heap.size (k * 21) (bkC (wiB b false))
      have TR5 := World.there_setCells hHeld.1.2 w.heap.size (k * 21) (bkC (wiB b false))
      have SS := hHeld.2.2
      rw [← size_setCells w.heap.size (bkC (wiB b false)) (k * 21) w4] at SS
      have RS := hide (show (w4.setCells w.heap.size (k * 21) (bkC (wiB b false))).rangeAt w.heap.size 0 (fsC (wiL ks k false)) by rw [unhide HWL]; exact rs)
      clear rs rk4 d24
      generalize bkC (wiB b false) = nb at *
      refine oneL 11 rfl (by kernel_rfl) rfl (fun K hK => ?_)
      refine wp_store_mid 80 _ _ rfl w.heap.size (k * 21) nb.toArray rfl rfl tk5 (unhide HZB) HOB ?_
      refine hK.out _ _ ⟨⟨TS, TR5⟩, BS, SS⟩ (fun _ => ?_)
      clear hK K hHeld TS tk5
      try simp only [Act.put, List.setIfInBounds_toArray, List.set_cons_zero, List.set_cons_succ]
      refine wpAnyH_done (by kernel_rfl) ?_ _
      refine NoPanic.normal ?_
      generalize w4.setCells w.heap.size (k * 21) nb = w5 at *
      have hFs := wiL_fours (t := false) hkF (k := k)
      have h4s : (wiL ks k false).length = 4 := by rw [wiL_len]; exact hk4
      generalize wiL ks k false = rs at *
      have HZ7 := hide (size_fsl hFs h4s)
      have RS' := unhide RS
      clear RS
      have tz : w5.there (w.heap.size + 1) 0 (fsC rs).toArray.size := by rw [show (fsC rs).toArray.size = 84 by rw [List.size_toArray, len_fsC _ hFs, h4s]]; exact TR5
      have pz := World.rangeAt_setCells_same w5 (w.heap.size + 1) 0 (fsC rs) tz
      have Bz := below_setCells (w.heap.size + 1) (show w.heap.size ≤ w.heap.size + 1 by omega) (fsC rs) 0 _ BS
      clear TR5 BS
      go_wp2_with (first | (refine wpList_load_mid rfl 82 _ rfl w.heap.size 0 rfl (fsC rs) _ RS' Try.underlying82 rfl (unhide HZ7) ?_) | (refine wpList_store_mid rfl 82 _ _ rfl (w.heap.size + 1) 0 (fsC rs).toArray rfl rfl tz (size_fsa hFs h4s) (one_fs rs) ?_) | (refine bodyPost_ret (res_cell_tmp Try.results113 _ _ (w.heap.size + 1) (fsC rs) _ rfl pz Try.underlying82 rfl (unhide HZ7)) rfl (unhide ?_)))
      exact hide ⟨by rw [unhide HR, unhide HNT]; rfl, Bz⟩
  · have HB := hide (unhide HBT true)
    have HWL := hide (unhide HWB true)
    have HL5 : Hid ((bkC (wiB b true)).toArray.size = 21) := by show _ = _; rw [List.size_toArray, len_bkC _ (wiB_len b true)]
    have HZB := hide (size_bkA (wiB_len b true))
    have HOB := one_bk (wiB b true)
    clear HBT HWB
    go_enter Try.func113, Try.ntmps113
    go_wp2_with (first | (refine wpList_box_big rfl _ _ rfl (fsC ks).toArray rfl ?_) | (refine wpList_alloc_big rfl 82 rfl zf (unhide HZ) ?_))
    generalize (w.alloc (.cells (fsC ks).toArray 82)).alloc (.cells zf 82) = w2 at *
    refine wp_region_noPanic ?_
    refine wp_region_held_drew (S := fun w' => (w'.there w.heap.size (k * 21) 21 ∧ w'.there (w.heap.size + 1) 0 84) ∧ Below w.heap.size w w' ∧ w.heap.size + 1 < w'.heap.size) (by kernel_rfl) (⟨⟨by simpa using tk, by simpa using tR⟩, BK.drew, by simpa using sk⟩) (fun hHeld => ?_)
    have d20 : w2.drew.cell? ⟨w.heap.size, k * 21 + 20, none⟩ = some (.int .i64 b.wn) := by simpa using c20
    have rk2 : w2.drew.rangeAt w.heap.size 0 (fsC ks) := by simpa using rk
    clear c20 rk tk BK sk tR
    generalize w2.drew = w3 at *
    refine takeL 0 (.int .i64 k) rfl (by kernel_rfl) (by kernel_rfl) (by kernel_rfl) (fun _ _ _ h => h) (Or.inl ⟨rfl, fun _ _ => rfl⟩) hHeld ?_
    try simp only [Act.put, List.setIfInBounds_toArray, List.set_cons_zero, List.set_cons_succ]
    refine takeL 1 (.int .i64 2) rfl (by kernel_rfl) (by kernel_rfl) (by kernel_rfl) (fun _ _ _ h => h) (Or.inl ⟨rfl, fun _ _ => rfl⟩) hHeld ?_
    try simp only [Act.put, List.setIfInBounds_toArray, List.set_cons_zero, List.set_cons_succ]
    refine takeL 2 (.agg #[.int .i64 2, .int .i64 0, .int .i64 0, .int .i64 0, .int .i64 0]) rfl (by kernel_rfl) (by kernel_rfl) (by kernel_rfl) (fun _ _ _ h => h) (Or.inl ⟨rfl, fun w9 hSw => by go_simp⟩) hHeld ?_
    try simp only [Act.put, List.setIfInBounds_toArray, List.set_cons_zero, List.set_cons_succ]
    refine takeL 4 (.int .i64 k) rfl (by kernel_rfl) (by kernel_rfl) (by kernel_rfl) (fun _ _ _ h => h) (Or.inl ⟨rfl, fun _ _ => rfl⟩) hHeld ?_
    try simp only [Act.put, List.setIfInBounds_toArray, List.set_cons_zero, List.set_cons_succ]
    refine takeL 5 (.pointer (some ⟨w.heap.size, k * 21, none⟩)) rfl (by kernel_rfl) (by kernel_rfl) (by kernel_rfl) (fun _ _ _ h => h) (Or.inl ⟨rfl, fun w9 hSw => by go_simp⟩) hHeld ?_
    try simp only [Act.put, List.setIfInBounds_toArray, List.set_cons_zero, List.set_cons_succ]
    refine takeL 6 (.pointer (some ⟨w.heap.size, k * 21 + 20, none⟩)) rfl (by kernel_rfl) (by kernel_rfl) (by kernel_rfl) (fun _ _ _ h => h) (Or.inl ⟨rfl, fun w9 hSw => by go_simp⟩) hHeld ?_
    try simp only [Act.put, List.setIfInBounds_toArray, List.set_cons_zero, List.set_cons_succ]
    refine twoL 3 7 rfl rfl (by kernel_rfl) rfl rfl (fun K hK => ?_) (fun K hK => ?_)
    · go_simp
      refine (rowAll_any (pgS true) _).mono ?_
      rintro e w4 ⟨rfl, b4⟩
      go_wp2_with fail
      have rk4 := rangeAt_below rk2 b4 (Nat.lt_of_succ_lt hHeld.2.2)
      have d24 := (b4.cell (p := ⟨w.heap.size, k * 21 + 20, none⟩) (Nat.lt_of_succ_lt hHeld.2.2)).trans d20
      refine hK.out _ _ ⟨⟨there_below hHeld.1.1 b4 (Nat.lt_of_succ_lt hHeld.2.2), there_below hHeld.1.2 b4 hHeld.2.2⟩, hHeld.2.1.trans (b4.mono hHeld.2.1.size), Nat.lt_of_lt_of_le hHeld.2.2 b4.size⟩ (fun hHeld4 => ?_)
      clear hK K hHeld b4 rk2 d20
      have hHeld := hHeld4
      clear hHeld4
      try simp only [Act.put, List.setIfInBounds_toArray, List.set_cons_zero, List.set_cons_succ]
      refine oneL 7 rfl (by kernel_rfl) rfl (fun K hK => ?_)
      go_simp
      refine hK.out _ _ hHeld (fun hHeld => ?_)
      clear hK K
      try simp only [Act.put, List.setIfInBounds_toArray, List.set_cons_zero, List.set_cons_succ]
      refine takeL 8 (.int .i64 (b.wn + 1)) rfl (by kernel_rfl) (by kernel_rfl) (by kernel_rfl) (fun _ _ _ h => h) (Or.inl ⟨rfl, fun w9 hSw => by have he := unhide HWR; go_simp⟩) hHeld ?_
      try simp only [Act.put, List.setIfInBounds_toArray, List.set_cons_zero, List.set_cons_succ]
      refine oneL 9 rfl (by kernel_rfl) rfl (fun K hK => ?_)
      refine wp_build_two 80 _ _ rfl (.agg (psC (List.replicate 4 (pgS true))).toArray) (.int .i64 (b.wn + 1)) rfl rfl (bkC (wiB b true)).toArray (unhide HB) ?_
      refine hK.out _ _ hHeld (fun hHeld => ?_)
      clear hK K
      try simp only [Act.put, List.setIfInBounds_toArray, List.set_cons_zero, List.set_cons_succ]
      refine takeL 10 (.pointer (some ⟨w.heap.size, k * 21, none⟩)) rfl (by kernel_rfl) (by kernel_rfl) (by kernel_rfl) (fun _ _ _ h => h) (Or.inl ⟨rfl, fun w9 hSw => by go_simp⟩) hHeld ?_
      try simp only [Act.put, List.setIfInBounds_toArray, List.set_cons_zero, List.set_cons_succ]
      have rs := range_set bkC 21 (fun x hx => len_bkC x (hkF x hx)) k (by omega) (wiB b true) (len_bkC _ (wiB_len b true)) rk4 (by rw [Nat.zero_add]; exact hHeld.1.1)
      rw [Nat.zero_add] at rs
      have tk5 : w4.there w.heap.size (k * 21) (bkC (wiB b true)).toArray.size := by rw [unhide HL5]; exact hHeld.1.1
      have BS := below_setCells w.heap.size (Nat.le_refl _) (bkC (wiB b true)) (k * 21) _ hHeld.2.1
      have TS := World.there_setCells hHeld.1.1 w.heap.size (k * 21) (bkC (wiB b true))
      have TR5 := World.there_setCells hHeld.1.2 w.heap.size (k * 21) (bkC (wiB b true))
      have SS := hHeld.2.2
      rw [← size_setCells w.heap.size (bkC (wiB b true)) (k * 21) w4] at SS
      have RS := hide (show (w4.setCells w.heap.size (k * 21) (bkC (wiB b true))).rangeAt w.heap.size 0 (fsC (wiL ks k true)) by rw [unhide HWL]; exact rs)
      clear rs rk4 d24
      generalize bkC (wiB b true) = nb at *
      refine oneL 11 rfl (by kernel_rfl) rfl (fun K hK => ?_)
      refine wp_store_mid 80 _ _ rfl w.heap.size (k * 21) nb.toArray rfl rfl tk5 (unhide HZB) HOB ?_
      refine hK.out _ _ ⟨⟨TS, TR5⟩, BS, SS⟩ (fun _ => ?_)
      clear hK K hHeld TS tk5
      try simp only [Act.put, List.setIfInBounds_toArray, List.set_cons_zero, List.set_cons_succ]
      refine wpAnyH_done (by kernel_rfl) ?_ _
      refine NoPanic.normal ?_
      generalize w4.setCells w.heap.size (k * 21) nb = w5 at *
      have hFs := wiL_fours (t := true) hkF (k := k)
      have h4s : (wiL ks k true).length = 4 := by rw [wiL_len]; exact hk4
      generalize wiL ks k true = rs at *
      have HZ7 := hide (size_fsl hFs h4s)
      have RS' := unhide RS
      clear RS
      have tz : w5.there (w.heap.size + 1) 0 (fsC rs).toArray.size := by rw [show (fsC rs).toArray.size = 84 by rw [List.size_toArray, len_fsC _ hFs, h4s]]; exact TR5
      have pz := World.rangeAt_setCells_same w5 (w.heap.size + 1) 0 (fsC rs) tz
      have Bz := below_setCells (w.heap.size + 1) (show w.heap.size ≤ w.heap.size + 1 by omega) (fsC rs) 0 _ BS
      clear TR5 BS
      go_wp2_with (first | (refine wpList_load_mid rfl 82 _ rfl w.heap.size 0 rfl (fsC rs) _ RS' Try.underlying82 rfl (unhide HZ7) ?_) | (refine wpList_store_mid rfl 82 _ _ rfl (w.heap.size + 1) 0 (fsC rs).toArray rfl rfl tz (size_fsa hFs h4s) (one_fs rs) ?_) | (refine bodyPost_ret (res_cell_tmp Try.results113 _ _ (w.heap.size + 1) (fsC rs) _ rfl pz Try.underlying82 rfl (unhide HZ7)) rfl (unhide ?_)))
      exact hide ⟨by rw [unhide HR, unhide HNT]; rfl, Bz⟩
    · go_simp
      refine hK.out _ _ hHeld (fun hHeld => ?_)
      clear hK K
      try simp only [Act.put, List.setIfInBounds_toArray, List.set_cons_zero, List.set_cons_succ]
      refine takeL 8 (.int .i64 (b.wn + 1)) rfl (by kernel_rfl) (by kernel_rfl) (by kernel_rfl) (fun _ _ _ h => h) (Or.inl ⟨rfl, fun w9 hSw => by have he := unhide HWR; go_simp⟩) hHeld ?_
      try simp only [Act.put, List.setIfInBounds_toArray, List.set_cons_zero, List.set_cons_succ]
      refine oneL 3 rfl (by kernel_rfl) rfl (fun K hK => ?_)
      go_simp
      refine (rowAll_any (pgS true) _).mono ?_
      rintro e w4 ⟨rfl, b4⟩
      go_wp2_with fail
      have rk4 := rangeAt_below rk2 b4 (Nat.lt_of_succ_lt hHeld.2.2)
      have d24 := (b4.cell (p := ⟨w.heap.size, k * 21 + 20, none⟩) (Nat.lt_of_succ_lt hHeld.2.2)).trans d20
      refine hK.out _ _ ⟨⟨there_below hHeld.1.1 b4 (Nat.lt_of_succ_lt hHeld.2.2), there_below hHeld.1.2 b4 hHeld.2.2⟩, hHeld.2.1.trans (b4.mono hHeld.2.1.size), Nat.lt_of_lt_of_le hHeld.2.2 b4.size⟩ (fun hHeld4 => ?_)
      clear hK K hHeld b4 rk2 d20
      have hHeld := hHeld4
      clear hHeld4
      try simp only [Act.put, List.setIfInBounds_toArray, List.set_cons_zero, List.set_cons_succ]
      refine oneL 9 rfl (by kernel_rfl) rfl (fun K hK => ?_)
      refine wp_build_two 80 _ _ rfl (.agg (psC (List.replicate 4 (pgS true))).toArray) (.int .i64 (b.wn + 1)) rfl rfl (bkC (wiB b true)).toArray (unhide HB) ?_
      refine hK.out _ _ hHeld (fun hHeld => ?_)
      clear hK K
      try simp only [Act.put, List.setIfInBounds_toArray, List.set_cons_zero, List.set_cons_succ]
      refine takeL 10 (.pointer (some ⟨w.heap.size, k * 21, none⟩)) rfl (by kernel_rfl) (by kernel_rfl) (by kernel_rfl) (fun _ _ _ h => h) (Or.inl ⟨rfl, fun w9 hSw => by go_simp⟩) hHeld ?_
      try simp only [Act.put, List.setIfInBounds_toArray, List.set_cons_zero, List.set_cons_succ]
      have rs := range_set bkC 21 (fun x hx => len_bkC x (hkF x hx)) k (by omega) (wiB b true) (len_bkC _ (wiB_len b true)) rk4 (by rw [Nat.zero_add]; exact hHeld.1.1)
      rw [Nat.zero_add] at rs
      have tk5 : w4.there w.heap.size (k * 21) (bkC (wiB b true)).toArray.size := by rw [unhide HL5]; exact hHeld.1.1
      have BS := below_setCells w.heap.size (Nat.le_refl _) (bkC (wiB b true)) (k * 21) _ hHeld.2.1
      have TS := World.there_setCells hHeld.1.1 w.heap.size (k * 21) (bkC (wiB b true))
      have TR5 := World.there_setCells hHeld.1.2 w.heap.size (k * 21) (bkC (wiB b true))
      have SS := hHeld.2.2
      rw [← size_setCells w.heap.size (bkC (wiB b true)) (k * 21) w4] at SS
      have RS := hide (show (w4.setCells w.heap.size (k * 21) (bkC (wiB b true))).rangeAt w.heap.size 0 (fsC (wiL ks k true)) by rw [unhide HWL]; exact rs)
      clear rs rk4 d24
      generalize bkC (wiB b true) = nb at *
      refine oneL 11 rfl (by kernel_rfl) rfl (fun K hK => ?_)
      refine wp_store_mid 80 _ _ rfl w.heap.size (k * 21) nb.toArray rfl rfl tk5 (unhide HZB) HOB ?_
      refine hK.out _ _ ⟨⟨TS, TR5⟩, BS, SS⟩ (fun _ => ?_)
      clear hK K hHeld TS tk5
      try simp only [Act.put, List.setIfInBounds_toArray, List.set_cons_zero, List.set_cons_succ]
      refine wpAnyH_done (by kernel_rfl) ?_ _
      refine NoPanic.normal ?_
      generalize w4.setCells w.heap.size (k * 21) nb = w5 at *
      have hFs := wiL_fours (t := true) hkF (k := k)
      have h4s : (wiL ks k true).length = 4 := by rw [wiL_len]; exact hk4
      generalize wiL ks k true = rs at *
      have HZ7 := hide (size_fsl hFs h4s)
      have RS' := unhide RS
      clear RS
      have tz : w5.there (w.heap.size + 1) 0 (fsC rs).toArray.size := by rw [show (fsC rs).toArray.size = 84 by rw [List.size_toArray, len_fsC _ hFs, h4s]]; exact TR5
      have pz := World.rangeAt_setCells_same w5 (w.heap.size + 1) 0 (fsC rs) tz
      have Bz := below_setCells (w.heap.size + 1) (show w.heap.size ≤ w.heap.size + 1 by omega) (fsC rs) 0 _ BS
      clear TR5 BS
      go_wp2_with (first | (refine wpList_load_mid rfl 82 _ rfl w.heap.size 0 rfl (fsC rs) _ RS' Try.underlying82 rfl (unhide HZ7) ?_) | (refine wpList_store_mid rfl 82 _ _ rfl (w.heap.size + 1) 0 (fsC rs).toArray rfl rfl tz (size_fsa hFs h4s) (one_fs rs) ?_) | (refine bodyPost_ret (res_cell_tmp Try.results113 _ _ (w.heap.size + 1) (fsC rs) _ rfl pz Try.underlying82 rfl (unhide HZ7)) rfl (unhide ?_)))
      exact hide ⟨by rw [unhide HR, unhide HNT]; rfl, Bz⟩

set_option maxRecDepth 100000 in
set_option maxHeartbeats 2000000 in
theorem implWipe_any (a : Option Addr) (cap : Nat) (blk : Int) (torn : Bool) (bs : List Bk) (w : World) (hf : FsAt w a bs) (hm : bs.length ≤ 9223372036854775807) :
    Calls Try.prog 64 #[.slice a bs.length cap, .int .i64 blk, .bool torn] w fun e w' => OutPost w (wiR bs blk torn) (wiO bs blk) e w' := by
  obtain ⟨zf, hz, hz84⟩ := zrow
  have HZ := hide hz
  clear hz
  go_enter Try.func64, Try.ntmps64
  go_wp2_with fail
  refine (at_any a cap blk bs _ hf hm).mono ?_
  rintro e w1 ⟨ks, rfl, hk4, hkF, hke, b1⟩
  have hsz : zf.size = (fsC ks).toArray.size := by rw [hz84, List.size_toArray, len_fsC _ hkF, hk4]
  have r1 := rangeAt_new w1 (fsC ks) 82
  have t1 := there_new w1 (fsC ks) 82
  rw [len_fsC _ hkF, hk4] at t1
  have hkl := b1.size
  have BK := b1.alloc b1.size (.cells (fsC ks).toArray 82)
  have sk : w1.heap.size < (w1.alloc (.cells (fsC ks).toArray 82)).heap.size := by simp
  clear b1
  cases hs : okB bs && inB blk 0 3
  · have HR : Hid (wiR bs blk torn = []) := by show _ = _; unfold wiR; rw [hs]; rfl
    have HO : Hid (wiO bs blk = false) := by show _ = _; unfold wiO; rw [hs]; rfl
    clear hs hke
    go_wp2_with (first | (refine wpList_alloc_big rfl 82 rfl zf (unhide HZ) ?_) | (refine wpList_store_new rfl 82 _ _ rfl w1 zf (fsC ks).toArray rfl rfl rfl (size_fsa hkF hk4) hsz (one_fs ks) ?_))
    go_ret2
    rw [unhide HR, unhide HO]
    exact ⟨_, rfl, .inl ⟨rfl, _, _, rfl⟩, BK⟩
  · obtain rfl := hke hs
    have hs2 := hs
    rw [Bool.and_eq_true] at hs2
    obtain ⟨k, rfl, hk⟩ := in_range hs2.2
    have HW := hide (wipeK_any ks hs2.1 k hk torn)
    have HR : Hid (wiR ks (k : Int) torn = wiK ks k torn) := by show _ = _; unfold wiR; rw [hs]; rfl
    have HO : Hid (wiO ks (k : Int) = !wiN ks k) := by show _ = _; unfold wiO; rw [hs]; rfl
    have h4s := wiK_len hk4 k torn
    have hFs := wiK_fours hkF k torn
    clear hs hs2 hke
    generalize wiK ks k torn = Rs at *
    generalize (!wiN ks k) = Os at *
    go_wp2_with (first | (refine wpList_alloc_big rfl 82 rfl zf (unhide HZ) ?_) | (refine wpList_store_new rfl 82 _ _ rfl w1 zf (fsC ks).toArray rfl rfl rfl (size_fsa hkF hk4) hsz (one_fs ks) ?_) | (refine wpList_load_mid rfl 82 _ rfl w1.heap.size 0 rfl (fsC ks) _ r1 Try.underlying82 rfl (size_fsl hkF hk4) ?_))
    generalize w1.alloc (.cells (fsC ks).toArray 82) = w2 at *
    generalize w1.heap.size = kb at *
    refine (unhide HW _).mono ?_
    rintro e w3 ⟨rfl, b3⟩
    have t3 : w3.there kb 0 (fsC Rs).toArray.size := by rw [List.size_toArray, len_fsC _ hFs, h4s]; exact there_below t1 b3 sk
    have p3 := World.rangeAt_setCells_same w3 kb 0 (fsC Rs) t3
    have B3 := below_setCells kb hkl (fsC Rs) 0 _ (BK.trans (b3.mono BK.size))
    have HSF := hide (size_fsl hFs h4s)
    clear r1 t1 BK b3 HW
    go_wp2_with (first | (refine wpList_store_mid rfl 82 _ _ rfl kb 0 (fsC Rs).toArray rfl rfl t3 (size_fsa hFs h4s) (one_fs Rs) ?_) | (refine wpList_load_mid rfl 82 _ rfl kb 0 rfl (fsC Rs) _ p3 Try.underlying82 rfl (unhide HSF) ?_))
    generalize w3.setCells kb 0 (fsC Rs) = w4 at *
    refine (list_any Rs h4s hFs _).mono ?_
    rintro e w6 ⟨g, G, rfl, o6, b6⟩
    have o7 := o6.mono B3.size
    have B6 := B3.trans (b6.mono B3.size)
    clear o6 b6 B3 p3 t3
    go_wp2
    go_ret2
    refine ⟨_, by rw [unhide HO]; rfl, .inr ⟨g, G, 4, ?_, ?_⟩, B6⟩
    · rw [unhide HR, h4s]; rfl
    · rw [unhide HR, h4s]; exact o7
end Go.Proofs.Ytcmklcfedeeahaa.ImplW

/-
  The laws' helpers, for every list of blocks: how much there is of it; the same as the program's own blocks, in memory of its own.
-/
namespace Go.Proofs.Ytcmklcfedeeahaa.LawsA
open Go.ChangeShapes Go.WideShapes Go.ChangeAt Go.RowKit OkA Big Fl ImplB ImplF ImplS Own ImplT ImplU SpecA SpecB
set_option linter.unusedVariables false
set_option linter.unusedSimpArgs false

/-! How much. -/
def szR (l : Int) (n : Nat) : Int := if l - n < 0 then -1 else l - n
set_option maxHeartbeats 400000 in
theorem szPageS_any (a : Option Addr) (n cap : Nat) (l : Int) (w : World) (h0 : 0 ≤ l) (h1 : l ≤ 1048576) (hn : (n : Int) ≤ 9223372036854775807) :
    Calls Try.prog 135 #[.slice a n cap, .int .i64 l] w fun e w' => e = .returned (.int .i64 (szR l n)) ∧ w' = w := by
  by_cases h : l - n < 0
  · have HR : Hid (szR l n = -1) := if_pos h
    go_enter Try.func135, Try.ntmps135
    go_wp2
    go_ret
    exact ⟨by rw [unhide HR]; rfl, rfl⟩
  · have HR : Hid (szR l n = l - n) := if_neg h
    go_enter Try.func135, Try.ntmps135
    go_wp2
    go_ret
    exact ⟨by rw [unhide HR]; rfl, rfl⟩
set_option maxHeartbeats 400000 in
theorem szBlock_any (a : Option Addr) (n cap : Nat) (wn l : Int) (w : World) (h0 : 0 ≤ l) (h1 : l ≤ 1048576) (hn : (n : Int) ≤ 9223372036854775807) :
    Calls Try.prog 100 #[.agg #[.slice a n cap, .int .i64 wn], .int .i64 l] w fun e w' => e = .returned (.int .i64 (szR l n)) ∧ Below w.heap.size w w' := by
  have HC := hide (szPageS_any a n cap l (w.alloc (.cells #[.slice a n cap, .int .i64 wn] 108)) h0 h1 hn)
  by_cases h : l - n < 0
  · have hR : szR l n = -1 := if_pos h
    rw [hR] at HC ⊢
    clear hR
    go_enter Try.func100, Try.ntmps100
    go_wp2_with (go_at_call 135; refine (unhide HC).mono ?_; rintro e w' ⟨rfl, rfl⟩)
    go_ret
    exact ⟨rfl, (Below.refl _ _).alloc (Nat.le_refl _) _⟩
  · have hR : szR l n = l - n := if_neg h
    rw [hR] at HC ⊢
    clear hR
    go_enter Try.func100, Try.ntmps100
    go_wp2_with (go_at_call 135; refine (unhide HC).mono ?_; rintro e w' ⟨rfl, rfl⟩)
    go_ret
    exact ⟨rfl, (Below.refl _ _).alloc (Nat.le_refl _) _⟩

/-- Where it is not below 0 there is not much. -/
def SzPost (w : World) (bs : List Bk) (e : Ending) (w' : World) : Prop := ∃ r : Int, e = .returned (.int .i64 r) ∧ -1 ≤ r ∧ r ≤ 1048576 ∧ (0 ≤ r → bs.length ≤ 1048576 ∧ ∀ b ∈ bs, b.ps.length ≤ 1048576) ∧ Below w.heap.size w w'
/-- No list is longer than memory. -/
def Fit (bs : List Bk) : Prop := (bs.length : Int) ≤ 9223372036854775807 ∧ ∀ b ∈ bs, (b.ps.length : Int) ≤ 9223372036854775807

set_option maxHeartbeats 1000000 in
theorem szBlockS_any (a : Option Addr) (cap : Nat) (bs : List Bk) (w : World) (hf : FsAt w a bs) (hfit : Fit bs) :
    Calls Try.prog 54 #[.slice a bs.length cap, .int .i64 1048576] w fun e w' => SzPost w bs e w' := by
  have hl := hfit.1
  by_cases h : (1048576 : Int) - bs.length < 0
  · go_enter Try.func54, Try.ntmps54
    go_wp2
    go_ret
    exact ⟨-1, rfl, by omega, by omega, fun h => by omega, Below.refl _ _⟩
  have hlen : bs.length ≤ 1048576 := by omega
  have HF := hide hf
  clear hf
  go_enter Try.func54, Try.ntmps54
  go_wp2
  go_loopw [1, 5] (fun l i w' => ∃ (k : Nat) (q : Int), k ≤ bs.length ∧ i = .int .i64 k ∧ l = .int .i64 q ∧ 0 ≤ q ∧ q ≤ 1048576 ∧ Hid (∀ j (hj : j < bs.length), j < k → bs[j].ps.length ≤ 1048576) ∧ Below w.heap.size w w') (fun _ i _ => bs.length - (intOf i).toNat)
  case atStart => exact ⟨0, _, by omega, rfl, rfl, by omega, by omega, fun j hj h => by omega, Below.refl _ _⟩
  case round =>
    obtain ⟨k, q, hk, rfl, rfl, hq0, hq1, hall, bw⟩ := hrel
    by_cases h0 : k = bs.length
    · subst h0
      go_wp2
      go_ret
      exact ⟨q, rfl, by omega, hq1, fun _ => ⟨hlen, fun b hb => by
        obtain ⟨j, hj, rfl⟩ := List.getElem_of_mem hb
        exact hall.out j hj hj⟩, bw⟩
    · have hlt : (k : Int) < (bs.length : Int) := by omega
      have hkb : k < bs.length := by omega
      have hlo : (0 : Int) ≤ (k : Int) := by omega
      obtain ⟨fb, fo, rfl, hb⟩ : ∃ fb fo, a = some ⟨fb, fo, none⟩ ∧ ∀ i (hi : i < bs.length), BkAt w fb (fo + i * 2) bs[i] := by
        rcases unhide HF with rfl | h
        · simp at hkb
        · exact h
      obtain ⟨pa, pc, c0, c1, _⟩ := (hb k hkb).below bw
      have hn : (bs[k].ps.length : Int) ≤ 9223372036854775807 := hfit.2 _ (List.getElem_mem hkb)
      generalize hbk : bs[k] = b at *
      have HBK := hide hbk
      clear hbk hb
      have HC := hide (szBlock_any pa b.ps.length pc b.wn q wr hq0 hq1 hn)
      by_cases hneg : q - b.ps.length < 0
      · have hR : szR q b.ps.length = -1 := if_pos hneg
        rw [hR] at HC
        clear hR
        go_wp2_with fail
        refine (unhide HC).mono ?_
        rintro e w2 ⟨rfl, b2⟩
        clear c0 c1
        go_wp2
        go_ret
        exact ⟨-1, rfl, by omega, by omega, fun h => by omega, bw.trans (b2.mono bw.size)⟩
      · have hR : szR q b.ps.length = q - b.ps.length := if_neg hneg
        rw [hR] at HC
        clear hR
        go_wp2_with fail
        refine (unhide HC).mono ?_
        rintro e w2 ⟨rfl, b2⟩
        clear c0 c1
        go_wp2
        go_roundw
        case rel =>
          refine ⟨k + 1, _, by omega, by first | rfl | go_num, rfl, by omega, by omega, fun j hj h => ?_, bw.trans (b2.mono bw.size)⟩
          by_cases e : j = k
          · subst e; rw [unhide HBK]; omega
          · exact hall.out j hj (by omega)
        case measure => simp [intOf]; omega

theorem cell_top (w : World) (cs : Array Value) (T : TypeId) (n j : Nat) (v : Value) (h : n = w.heap.size) (hv : cs[j]? = some v) : (w.alloc (.cells cs T)).cell? ⟨n, j, none⟩ = some v := by
  rw [World.cell?_alloc_at cs T n j h, hv]
/-! The same as the program's blocks. -/
theorem zpg : (Try.prog.info? 75).bind (·.zero) = some (.agg (pgC zPg).toArray) := by kernel_rfl
theorem size_pg (p : Pg) : (Try.prog.info? 75).map (·.size) = some (pgC p).length := by rw [len_pgC]; kernel_rfl
theorem size_pga (p : Pg) : (Try.prog.info? 75).map (·.size) = some (pgC p).toArray.size := by rw [List.size_toArray, len_pgC]; kernel_rfl
theorem one_pg (p : Pg) : (pgC p).toArray.all (·.oneCell') = true := all_oneCell_toArray (one_pgC p)
theorem one_rec (k s a v : Int) : #[Value.int .i64 k, .int .i64 s, .int .i64 a, .int .i64 v].all (·.oneCell') = true := all_oneCell_toArray (cs := [.int .i64 k, .int .i64 s, .int .i64 a, .int .i64 v]) (by intro x hx; simp at hx; rcases hx with rfl | rfl | rfl | rfl <;> rfl)

def recC (p : Pg) : Array Value := #[.int .i64 p.k, .int .i64 p.s, .int .i64 p.a, .int .i64 p.v]
theorem one_recC (p : Pg) : (recC p).all (·.oneCell') = true := one_rec _ _ _ _
theorem size_recC (p : Pg) : (Try.prog.info? 59).map (·.size) = some (recC p).size := by show _ = some 4; kernel_rfl
set_option maxHeartbeats 1000000 in
theorem toPage_any (p : Pg) (w : World) :
    Calls Try.prog 152 #[.agg #[.int .i64 p.st, .int .i64 p.k, .int .i64 p.s, .int .i64 p.a, .int .i64 p.v]] w fun e w' => e = .returned (.agg (pgC p).toArray) ∧ Below w.heap.size w w' := by
  go_enter Try.func152, Try.ntmps152
  go_wp2_with fail
  refine (toRec_any _ _ _ _ _).mono ?_
  rintro e w1 ⟨rfl, b1⟩
  generalize hW : ((w.alloc (.cells #[.int .i64 p.st, .int .i64 p.k, .int .i64 p.s, .int .i64 p.a, .int .i64 p.v] 154)).alloc (.cells #[.int .i64 0, .int .i64 0, .int .i64 0, .int .i64 0, .int .i64 0] 75)).alloc (.cells #[.int .i64 p.st, .int .i64 0, .int .i64 0, .int .i64 0, .int .i64 0] 75) = W at b1
  have sW : W.heap.size = w.heap.size + 1 + 1 + 1 := by rw [← hW]; simp
  have t2 : W.there (w.heap.size + 1) 0 5 := by
    rw [← hW]
    have := World.there_alloc (there_new (w.alloc (.cells #[.int .i64 p.st, .int .i64 p.k, .int .i64 p.s, .int .i64 p.a, .int .i64 p.v] 154)) [.int .i64 0, .int .i64 0, .int .i64 0, .int .i64 0, .int .i64 0] 75) (.cells #[.int .i64 p.st, .int .i64 0, .int .i64 0, .int .i64 0, .int .i64 0] 75)
    simpa using this
  have t3 : W.there (w.heap.size + 1 + 1) 0 5 := by
    rw [← hW]
    have := there_new ((w.alloc (.cells #[.int .i64 p.st, .int .i64 p.k, .int .i64 p.s, .int .i64 p.a, .int .i64 p.v] 154)).alloc (.cells #[.int .i64 0, .int .i64 0, .int .i64 0, .int .i64 0, .int .i64 0] 75)) [.int .i64 p.st, .int .i64 0, .int .i64 0, .int .i64 0, .int .i64 0] 75
    simpa using this
  have r3 : W.cell? ⟨w.heap.size + 1 + 1, 0, none⟩ = some (.int .i64 p.st) := by
    rw [← hW]
    exact cell_top _ _ _ _ _ _ (by simp) rfl
  have B0 : Below w.heap.size w W := by rw [← hW]; exact (((Below.refl _ _).alloc (Nat.le_refl _) _).alloc (by simp) _).alloc (by simp; omega) _
  have T2 := there_below t2 b1 (by omega)
  have T3 := there_below t3 b1 (by omega)
  rw [← b1.cell (p := ⟨w.heap.size + 1 + 1, 0, none⟩) (by show w.heap.size + 1 + 1 < _; omega)] at r3
  have B1 := B0.trans (b1.mono (by omega))
  have T4 : w1.there (w.heap.size + 1 + 1) 1 (recC p).size := by have := there_sub T3 1 4 (by omega); rw [Nat.zero_add] at this; exact this
  have R3 : (w1.setCells (w.heap.size + 1 + 1) 1 (recC p).toList).rangeAt (w.heap.size + 1 + 1) 0 (pgC p) := by
    have h1 := World.rangeAt_setCells_same w1 (w.heap.size + 1 + 1) 1 (recC p).toList T4
    refine (range_app (l1 := [.int .i64 p.st])).2 ⟨fun j v hv => ?_, h1⟩
    obtain ⟨rfl, rfl⟩ : j = 0 ∧ v = .int .i64 p.st := by
      cases j with
      | zero => simpa using hv.symm
      | succ j => simp at hv
    rw [Own.cell_setCells_ne (.inr (.inl (by omega)))]
    exact r3
  have T5 : (w1.setCells (w.heap.size + 1 + 1) 1 (recC p).toList).there (w.heap.size + 1) 0 (pgC p).toArray.size := World.there_setCells T2 _ _ _
  have R5 := World.rangeAt_setCells_same _ _ _ (pgC p) T5
  have hrc : #[.int .i64 p.k, .int .i64 p.s, .int .i64 p.a, .int .i64 p.v] = recC p := rfl
  clear hW b1 t2 t3 r3 T2 T3 B0 sW
  rw [hrc]
  clear hrc
  have o4 := one_recC p
  have HI := hide (size_recC p)
  have o5 := one_pg p
  have HI5 := hide (size_pga p)
  have HI6 := hide (size_pg p)
  generalize recC p = rc at *
  generalize hpc : pgC p = pc at *
  have HPC := hide hpc
  clear hpc
  go_wp2_with (first | (refine wpList_store_mid rfl 59 _ _ rfl (w.heap.size + 1 + 1) 1 rc rfl rfl T4 (unhide HI) o4 ?_) | (refine wpList_load_mid rfl 75 _ rfl (w.heap.size + 1 + 1) 0 rfl pc _ R3 Try.underlying75 rfl (unhide HI6) ?_) | (refine wpList_store_mid rfl 75 _ _ rfl (w.heap.size + 1) 0 pc.toArray rfl rfl T5 (unhide HI5) o5 ?_) | (refine bodyPost_ret (res_cell_mid Try.results152 _ _ (w.heap.size + 1) pc _ rfl R5 Try.underlying75 rfl (unhide HI6)) rfl (unhide ?_)))
  exact hide ⟨by rw [unhide HPC], below_setCells _ (by omega) _ _ _ (below_setCells _ (by omega) _ _ _ B1)⟩

theorem psC_take (ps : List Pg) (k : Nat) (hk : k < ps.length) : psC (ps.take (k + 1)) = psC (ps.take k) ++ pgC ps[k] := by
  rw [List.take_succ_eq_append_getElem hk]; simp only [psC, List.flatMap_append, List.flatMap_cons, List.flatMap_nil, List.append_nil]
theorem there_made (w : World) (z : Array Value) (n : Nat) (T : TypeId) : (w.alloc (.cells (madeCells z n) T)).there w.heap.size 0 n := by
  have := there_new w (madeCells z n).toList T
  rw [Array.length_toList, size_madeCells] at this
  exact this

/-- A row of pages in new memory. -/
def RowPost (w : World) (ps : List Pg) (e : Ending) (w' : World) : Prop := e = .returned (.slice (some ⟨w.heap.size, 0, none⟩) ps.length ps.length) ∧ w'.rangeAt w.heap.size 0 (psC ps) ∧ w'.there w.heap.size 0 (ps.length * 5) ∧ w.heap.size < w'.heap.size ∧ Below w.heap.size w w'

set_option maxHeartbeats 1000000 in
theorem toPageS_any (a : Option Addr) (cap : Nat) (ps : List Pg) (w : World) (hps : PsAt w a ps) (hl : ps.length ≤ 1048576) :
    Calls Try.prog 136 #[.slice a ps.length cap] w fun e w' => RowPost w ps e w' := by
  have t0 := there_made w #[.int .i64 0, .int .i64 0, .int .i64 0, .int .i64 0, .int .i64 0] (ps.length * 5) 75
  have b0 : Below w.heap.size w (w.alloc (.cells (madeCells #[.int .i64 0, .int .i64 0, .int .i64 0, .int .i64 0, .int .i64 0] (ps.length * 5)) 75)) := (Below.refl _ _).alloc (Nat.le_refl _) _
  have hli : (ps.length : Int) ≤ 1048576 := by omega
  have HP := hide hps
  clear hps
  go_enter Try.func136, Try.ntmps136
  go_wp2_with (first | (refine wpList_make_big rfl 100 _ _ rfl ps.length rfl rfl 75 5 40 (.agg #[.int .i64 0, .int .i64 0, .int .i64 0, .int .i64 0, .int .i64 0]) Try.underlying100 (by kernel_rfl) (by omega) (by omega) ?_))
  generalize hw1 : w.alloc (.cells (madeCells #[.int .i64 0, .int .i64 0, .int .i64 0, .int .i64 0, .int .i64 0] (ps.length * 5)) 75) = w1 at *
  have s1 : w.heap.size < w1.heap.size := by rw [← hw1]; simp
  clear hw1
  go_loopw [4] (fun i w' => ∃ k : Nat, k ≤ ps.length ∧ i = .int .i64 k ∧ w'.rangeAt w.heap.size 0 (psC (ps.take k)) ∧ w'.there w.heap.size 0 (ps.length * 5) ∧ w.heap.size < w'.heap.size ∧ Below w.heap.size w w') (fun i _ => ps.length - (intOf i).toNat)
  case atStart => exact ⟨0, by omega, rfl, (fun j v hv => by simp [psC] at hv), t0, s1, b0⟩
  case round =>
    obtain ⟨k, hk, rfl, rk, tk, sk, bw⟩ := hrel
    clear t0 b0
    by_cases h0 : k = ps.length
    · subst h0
      rw [List.take_of_length_le (Nat.le_refl _)] at rk
      go_wp2
      go_ret
      exact ⟨rfl, rk, tk, sk, bw⟩
    · have hlt : (k : Int) < (ps.length : Int) := by omega
      have hkb : k < ps.length := by omega
      have hlo : (0 : Int) ≤ (k : Int) := by omega
      obtain ⟨pb, po, rfl, hr⟩ : ∃ pb po, a = some ⟨pb, po, none⟩ ∧ w.rangeAt pb po (psC ps) := by
        rcases unhide HP with rfl | h
        · simp at hkb
        · exact h
      obtain ⟨d0, d1, d2, d3, d4⟩ := PsAt.cells (rangeAt_below hr bw (cell_lt (PsAt.cells hr k hkb).1)) k hkb
      have HT := hide (psC_take ps k hkb)
      have lk : (psC (ps.take k)).length = k * 5 := by rw [len_psC, List.length_take, Nat.min_eq_left (by omega)]
      have LK := hide lk
      clear lk hr
      generalize ps[k] = p at *
      go_wp2_with fail
      refine (toPage_any p _).mono ?_
      rintro e w2 ⟨rfl, b2⟩
      have rk2 := rangeAt_below rk b2 sk
      have tk2 := there_below tk b2 sk
      have tk3 : w2.there w.heap.size (k * 5) (pgC p).toArray.size := by have := there_sub tk2 (k * 5) 5 (by omega); rw [Nat.zero_add] at this; exact this
      have bw2 := bw.trans (b2.mono bw.size)
      have ss := b2.size
      have o5 := one_pg p
      have HI5 := hide (size_pga p)
      have HL := hide (len_pgC p)
      clear d0 d1 d2 d3 d4 rk tk b2
      generalize pgC p = pc at *
      go_wp2_with (first | (refine wpList_store_mid rfl 75 _ _ rfl w.heap.size (k * 5) pc.toArray rfl rfl tk3 (unhide HI5) o5 ?_))
      go_roundw
      case rel =>
        refine ⟨k + 1, by omega, by first | rfl | go_num, ?_, World.there_setCells tk2 _ _ _, by rw [size_setCells]; omega, below_setCells _ (Nat.le_refl _) _ _ _ bw2⟩
        rw [unhide HT, range_app, unhide LK, Nat.zero_add]
        exact ⟨World.rangeAt_setCells_apart rk2 _ _ _ (.inr (.inl (by rw [unhide LK]; omega))), World.rangeAt_setCells_same _ _ _ _ tk3⟩
      case measure => simp [intOf]; omega
end Go.Proofs.Ytcmklcfedeeahaa.LawsA

/-
  The laws' helpers, for every list of blocks: a list of the program's own blocks out of the law's argument, in rows of its own; whether two lists of blocks are the same.
-/
namespace Go.Proofs.Ytcmklcfedeeahaa.LawsB
open Go.ChangeShapes Go.WideShapes Go.ChangeAt Go.RowKit OkA Big Fl ImplB ImplF ImplS Own ImplT ImplU SpecA SpecB LawsA
set_option linter.unusedVariables false
set_option linter.unusedSimpArgs false
attribute [local go_sem ↓] Go.wp_at_zero Go.wp_at_succ

theorem three_new (w : World) (A B C : Array Value) (T1 T2 T3 : TypeId) : (∀ j v, A[j]? = some v → (((w.alloc (.cells A T1)).alloc (.cells B T2)).alloc (.cells C T3)).cell? ⟨w.heap.size, j, none⟩ = some v) ∧ (∀ j v, B[j]? = some v → (((w.alloc (.cells A T1)).alloc (.cells B T2)).alloc (.cells C T3)).cell? ⟨w.heap.size + 1, j, none⟩ = some v) ∧ (∀ j v, C[j]? = some v → (((w.alloc (.cells A T1)).alloc (.cells B T2)).alloc (.cells C T3)).cell? ⟨w.heap.size + 1 + 1, j, none⟩ = some v) ∧
    (∀ j, (((w.alloc (.cells A T1)).alloc (.cells B T2)).alloc (.cells C T3)).frozen? ⟨w.heap.size + 1, j, none⟩ = false) ∧ (∀ j, (((w.alloc (.cells A T1)).alloc (.cells B T2)).alloc (.cells C T3)).frozen? ⟨w.heap.size + 1 + 1, j, none⟩ = false) := by
  refine ⟨fun j v h => ?_, fun j v h => ?_, fun j v h => cell_top _ _ _ _ _ _ (by simp) h, fun j => ?_, fun j => ?_⟩
  · rw [World.cell?_alloc_lt _ _ _ (by simp; omega), World.cell?_alloc_lt _ _ _ (by simp)]; exact cell_top _ _ _ _ _ _ rfl h
  · rw [World.cell?_alloc_lt _ _ _ (by simp)]; exact cell_top _ _ _ _ _ _ (by simp) h
  · rw [World.frozen?_alloc_past _ _ _ (by simp)]; exact frozen_of_row _ _ _ B T2 (by have := heap_alloc_new (w.alloc (.cells A T1)) (.cells B T2); rwa [World.size_alloc] at this)
  · exact frozen_of_row _ _ _ C T3 (by have := heap_alloc_new ((w.alloc (.cells A T1)).alloc (.cells B T2)) (.cells C T3); rwa [World.size_alloc, World.size_alloc] at this)
def blkL (p n : Nat) (wn : Int) : List Value := [.slice (some ⟨p, 0, none⟩) n n, .int .i64 wn]
def BlkPost (w : World) (b : Bk) (e : Ending) (w' : World) : Prop := ∃ p, e = .returned (.agg (blkL p b.ps.length b.wn).toArray) ∧ w.heap.size ≤ p ∧ p < w'.heap.size ∧ w'.rangeAt p 0 (psC b.ps) ∧ w'.there p 0 (b.ps.length * 5) ∧ Below w.heap.size w w'
theorem size_blk (p n : Nat) (wn : Int) : (Try.prog.info? 102).map (·.size) = some (blkL p n wn).length := by show _ = some 2; kernel_rfl
theorem size_blka (p n : Nat) (wn : Int) : (Try.prog.info? 102).map (·.size) = some (blkL p n wn).toArray.size := by show _ = some 2; kernel_rfl
theorem one_blk (p n : Nat) (wn : Int) : (blkL p n wn).toArray.all (·.oneCell') = true := one_two rfl rfl

set_option maxHeartbeats 1000000 in
theorem toBlock_any (a : Option Addr) (cap : Nat) (b : Bk) (w : World) (hps : PsAt w a b.ps) (hl : b.ps.length ≤ 1048576) :
    Calls Try.prog 102 #[.agg #[.slice a b.ps.length cap, .int .i64 b.wn]] w fun e w' => BlkPost w b e w' := by
  have bz : Below w.heap.size w (((w.alloc (.cells #[.slice a b.ps.length cap, .int .i64 b.wn] 108)).alloc (.cells #[.slice none 0 0, .int .i64 0] 102)).alloc (.cells #[.slice none 0 0, .int .i64 0] 102)) := (((Below.refl _ _).alloc (Nat.le_refl _) _).alloc (by simp) _).alloc (by simp; omega) _
  have HC := hide (toPageS_any a cap b.ps _ (hps.below bz) hl)
  clear hps
  go_enter Try.func102, Try.ntmps102
  go_wp2_with fail
  refine (unhide HC).mono ?_
  rintro e w1 ⟨rfl, rr, tt, ss, b1⟩
  obtain ⟨g1, g2, g3, g4, g5⟩ := three_new w #[.slice a b.ps.length cap, .int .i64 b.wn] #[.slice none 0 0, .int .i64 0] #[.slice none 0 0, .int .i64 0] 108 102 102
  have k1 : w1.cell? ⟨w.heap.size, 1, none⟩ = some (.int .i64 b.wn) := by rw [b1.cell (p := ⟨w.heap.size, 1, none⟩) (by simp; omega)]; exact g1 1 _ rfl
  have u0 : w1.cell? ⟨w.heap.size + 1, 0, none⟩ = some (.slice none 0 0) := by rw [b1.cell (p := ⟨w.heap.size + 1, 0, none⟩) (by simp)]; exact g2 0 _ rfl
  have v0 : w1.cell? ⟨w.heap.size + 1 + 1, 0, none⟩ = some (.slice none 0 0) := by rw [b1.cell (p := ⟨w.heap.size + 1 + 1, 0, none⟩) (by simp)]; exact g3 0 _ rfl
  have fu0 : w1.frozen? ⟨w.heap.size + 1, 0, none⟩ = false := by rw [b1.frozen (p := ⟨w.heap.size + 1, 0, none⟩) (by simp)]; exact g4 0
  have fv0 : w1.frozen? ⟨w.heap.size + 1 + 1, 0, none⟩ = false := by rw [b1.frozen (p := ⟨w.heap.size + 1 + 1, 0, none⟩) (by simp)]; exact g5 0
  have u1 : w1.cell? ⟨w.heap.size + 1, 1, none⟩ = some (.int .i64 0) := by rw [b1.cell (p := ⟨w.heap.size + 1, 1, none⟩) (by simp)]; exact g2 1 _ rfl
  have v1 : w1.cell? ⟨w.heap.size + 1 + 1, 1, none⟩ = some (.int .i64 0) := by rw [b1.cell (p := ⟨w.heap.size + 1 + 1, 1, none⟩) (by simp)]; exact g3 1 _ rfl
  have fu1 : w1.frozen? ⟨w.heap.size + 1, 1, none⟩ = false := by rw [b1.frozen (p := ⟨w.heap.size + 1, 1, none⟩) (by simp)]; exact g4 1
  have fv1 : w1.frozen? ⟨w.heap.size + 1 + 1, 1, none⟩ = false := by rw [b1.frozen (p := ⟨w.heap.size + 1 + 1, 1, none⟩) (by simp)]; exact g5 1
  clear g1 g2 g3 g4 g5
  have B1 := bz.trans (b1.mono bz.size)
  simp only [World.size_alloc] at rr tt ss
  clear b1 bz HC
  go_wp2
  have r5 : ((((w1.setCell ⟨w.heap.size + 1 + 1, 0, none⟩ (.slice (some ⟨w.heap.size + 1 + 1 + 1, 0, none⟩) b.ps.length b.ps.length)).setCell ⟨w.heap.size + 1 + 1, 1, none⟩ (.int .i64 b.wn)).setCell ⟨w.heap.size + 1, 0, none⟩ (.slice (some ⟨w.heap.size + 1 + 1 + 1, 0, none⟩) b.ps.length b.ps.length)).setCell ⟨w.heap.size + 1, 1, none⟩ (.int .i64 b.wn)).rangeAt (w.heap.size + 1) 0 (blkL (w.heap.size + 1 + 1 + 1) b.ps.length b.wn) := by
    intro j x hj
    match j, hj with
    | 0, hj => (obtain rfl : x = .slice (some ⟨w.heap.size + 1 + 1 + 1, 0, none⟩) b.ps.length b.ps.length := by simpa [blkL] using hj.symm); go_cell
    | 1, hj => (obtain rfl : x = .int .i64 b.wn := by simpa [blkL] using hj.symm); go_cell
    | n + 2, hj => simp [blkL] at hj
  refine bodyPost_ret (res_cell_mid Try.results102 _ _ (w.heap.size + 1) _ _ rfl r5 Try.underlying102 rfl (size_blk _ _ _)) rfl ⟨w.heap.size + 1 + 1 + 1, rfl, by omega, by simpa using ss, ?_, ?_, ?_⟩
  · intro j x hj
    rw [World.cell?_setCell_other _ _ _ _ (addr_ne (by omega)), World.cell?_setCell_other _ _ _ _ (addr_ne (by omega)), World.cell?_setCell_other _ _ _ _ (addr_ne (by omega)), World.cell?_setCell_other _ _ _ _ (addr_ne (by omega))]
    exact rr j x hj
  · intro j hj
    rw [World.cell?_setCell_other _ _ _ _ (addr_ne (by omega)), World.cell?_setCell_other _ _ _ _ (addr_ne (by omega)), World.cell?_setCell_other _ _ _ _ (addr_ne (by omega)), World.cell?_setCell_other _ _ _ _ (addr_ne (by omega))]
    simp only [World.frozen?_setCell]
    exact tt j hj
  · exact (((B1.setCell (by show w.heap.size ≤ w.heap.size + 1 + 1; omega) _).setCell (by show w.heap.size ≤ w.heap.size + 1 + 1; omega) _).setCell (by show w.heap.size ≤ w.heap.size + 1; omega) _).setCell (by show w.heap.size ≤ w.heap.size + 1; omega) _

set_option maxHeartbeats 1000000 in
theorem toBlockS_any (a : Option Addr) (cap : Nat) (bs : List Bk) (w : World) (hf : FsAt w a bs) (hl : bs.length ≤ 1048576) (hp : ∀ b ∈ bs, b.ps.length ≤ 1048576) :
    Calls Try.prog 56 #[.slice a bs.length cap] w fun e w' => ∃ g G, e = .returned (.slice (some ⟨g, 0, none⟩) bs.length bs.length) ∧ Own w' w.heap.size g G bs bs.length ∧ Below w.heap.size w w' := by
  have t0 := there_made w #[.slice none 0 0, .int .i64 0] (bs.length * 2) 102
  have b0 : Below w.heap.size w (w.alloc (.cells (madeCells #[.slice none 0 0, .int .i64 0] (bs.length * 2)) 102)) := (Below.refl _ _).alloc (Nat.le_refl _) _
  have hli : (bs.length : Int) ≤ 1048576 := by omega
  have HF := hide hf
  have HP := hide hp
  clear hf hp
  go_enter Try.func56, Try.ntmps56
  go_wp2_with (first | (refine wpList_make_big rfl 22 _ _ rfl bs.length rfl rfl 102 2 32 (.agg #[.slice none 0 0, .int .i64 0]) Try.underlying22 made_bs (by omega) (by omega) ?_))
  generalize hw1 : w.alloc (.cells (madeCells #[.slice none 0 0, .int .i64 0] (bs.length * 2)) 102) = w1 at *
  have s1 : w.heap.size < w1.heap.size := by rw [← hw1]; simp
  clear hw1
  have o1 : Own w1 w.heap.size w.heap.size [] [] bs.length := Own.start (Nat.le_refl _) s1 t0
  clear t0
  go_loopw [4] (fun i w' => ∃ k : Nat, k ≤ bs.length ∧ i = .int .i64 k ∧ (∃ G, Own w' w.heap.size w.heap.size G (bs.take k) bs.length) ∧ Below w.heap.size w w') (fun i _ => bs.length - (intOf i).toNat)
  case atStart => exact ⟨0, by omega, rfl, ⟨[], by simpa using o1⟩, b0⟩
  case round =>
    obtain ⟨k, hk, rfl, ⟨G, ok⟩, bw⟩ := hrel
    clear o1 b0
    by_cases h0 : k = bs.length
    · subst h0
      rw [List.take_of_length_le (Nat.le_refl _)] at ok
      go_wp2
      go_ret
      exact ⟨w.heap.size, G, rfl, ok, bw⟩
    · have hlt : (k : Int) < (bs.length : Int) := by omega
      have hkb : k < bs.length := by omega
      have hlo : (0 : Int) ≤ (k : Int) := by omega
      obtain ⟨fb, fo, rfl, hb⟩ : ∃ fb fo, a = some ⟨fb, fo, none⟩ ∧ ∀ i (hi : i < bs.length), BkAt w fb (fo + i * 2) bs[i] := by
        rcases unhide HF with rfl | h
        · simp at hkb
        · exact h
      obtain ⟨pa, pc, c0, c1, hps⟩ := (hb k hkb).below bw
      have hpl := unhide HP _ (List.getElem_mem hkb)
      have HT := hide (List.take_succ_eq_append_getElem hkb)
      clear hb
      generalize bs[k] = b at *
      have HC := hide (toBlock_any pa pc b wr hps hpl)
      clear hps
      go_wp2_with fail
      refine (unhide HC).mono ?_
      rintro e w2 ⟨p, rfl, hp1, hp2, rr, tt, b2⟩
      have o2 := ok.below b2 (Nat.le_refl _)
      have hnew := ok.hi
      have hlw := bw.size
      have tl : (bs.take k).length = k := by simp; omega
      have tk3 : w2.there w.heap.size (k * 2) (blkL p b.ps.length b.wn).toArray.size := by have := there_sub o2.room (k * 2) 2 (by omega); rw [Nat.zero_add] at this; exact this
      have op : Own (w2.setCells w.heap.size (k * 2) (blkL p b.ps.length b.wn)) w.heap.size w.heap.size (G ++ [p]) (bs.take k ++ [b]) bs.length := by
        have := o2.push (by omega) p b.ps.length b (by omega) hp2 (fun h => by have := hnew _ h; omega) rr tt
        rw [tl] at this; exact this
      have bw2 := bw.trans (b2.mono bw.size)
      have HI := hide (size_blka p b.ps.length b.wn)
      have o5 := one_blk p b.ps.length b.wn
      clear c0 c1 HC rr tt b2 ok o2
      generalize blkL p b.ps.length b.wn = bc at *
      go_wp2_with (first | (refine wpList_store_mid rfl 102 _ _ rfl w.heap.size (k * 2) bc.toArray rfl rfl tk3 (unhide HI) o5 ?_))
      go_roundw
      case rel => exact ⟨k + 1, by omega, by first | rfl | go_num, ⟨G ++ [p], by rw [unhide HT]; exact op⟩, below_setCells _ (Nat.le_refl _) _ _ _ bw2⟩
      case measure => simp [intOf]; omega
end Go.Proofs.Ytcmklcfedeeahaa.LawsB

/-
  The laws' helpers: whether two lists of blocks are the same: true of two that hold the same, wherever they lie.
-/
namespace Go.Proofs.Ytcmklcfedeeahaa.LawsE
open Go.ChangeShapes Go.WideShapes Go.ChangeAt Go.RowKit OkA Big Fl ImplB ImplF ImplS Own ImplT ImplU SpecA SpecB LawsA LawsB
set_option linter.unusedVariables false
set_option linter.unusedSimpArgs false
attribute [local go_sem ↓] Go.wp_at_zero Go.wp_at_succ

set_option maxHeartbeats 400000 in
theorem eqRec_any (k s a v : Int) (w : World) :
    Calls Try.prog 67 #[.agg #[.int .i64 k, .int .i64 s, .int .i64 a, .int .i64 v], .agg #[.int .i64 k, .int .i64 s, .int .i64 a, .int .i64 v]] w fun e w' => e = .returned (.bool true) ∧ Below w.heap.size w w' := by
  go_enter Try.func67, Try.ntmps67
  go_wp2
  go_ret
  exact ⟨rfl, ((Below.refl _ _).alloc (Nat.le_refl _) _).alloc (by simp) _⟩
set_option maxHeartbeats 400000 in
theorem eqPage_any (p : Pg) (w : World) :
    Calls Try.prog 151 #[.agg (pgC p).toArray, .agg (pgC p).toArray] w fun e w' => e = .returned (.bool true) ∧ Below w.heap.size w w' := by
  show Calls Try.prog 151 #[.agg #[.int .i64 p.st, .int .i64 p.k, .int .i64 p.s, .int .i64 p.a, .int .i64 p.v], .agg #[.int .i64 p.st, .int .i64 p.k, .int .i64 p.s, .int .i64 p.a, .int .i64 p.v]] w _
  go_enter Try.func151, Try.ntmps151
  go_wp2_with fail
  refine (eqRec_any _ _ _ _ _).mono ?_
  rintro e w1 ⟨rfl, b1⟩
  have B0 : ∀ x y, Below w.heap.size w ((w.alloc x).alloc y) := fun x y => ((Below.refl _ _).alloc (Nat.le_refl _) _).alloc (by simp) _
  have B1 := (B0 _ _).trans (b1.mono (B0 _ _).size)
  clear b1 B0
  go_wp2
  go_ret
  exact ⟨rfl, B1⟩
theorem PsAt.drew {w : World} {a : Option Addr} {ps : List Pg} (h : PsAt w a ps) : PsAt w.drew a ps := h.below ((Below.refl _ _).drew)
theorem range_pg {w : World} {b o : Nat} {ps : List Pg} (h : w.rangeAt b o (psC ps)) (k : Nat) (hk : k < ps.length) : w.rangeAt b (o + k * 5) (pgC ps[k]) := by
  have := rangeAt_sub h (k * 5) 5
  rwa [part_ps ps k hk] at this

set_option maxHeartbeats 1000000 in
theorem eqPageS_any (a1 a2 : Option Addr) (cap1 cap2 : Nat) (ps : List Pg) (w : World) (h1 : PsAt w a1 ps) (h2 : PsAt w a2 ps) (hl : ps.length ≤ 1048576) :
    Calls Try.prog 134 #[.slice a1 ps.length cap1, .slice a2 ps.length cap2] w fun e w' => e = .returned (.bool true) ∧ Below w.heap.size w w' := by
  have hli : (ps.length : Int) ≤ 1048576 := by omega
  have H1 := hide h1
  have H2 := hide h2
  clear h1 h2
  go_enter Try.func134, Try.ntmps134
  go_wp2
  go_loopw [5] (fun i w' => ∃ k : Nat, k ≤ ps.length ∧ i = .int .i64 k ∧ Below w.heap.size w w') (fun i _ => ps.length - (intOf i).toNat)
  case atStart => exact ⟨0, by omega, rfl, Below.refl _ _⟩
  case round =>
    obtain ⟨k, hk, rfl, bw⟩ := hrel
    by_cases h0 : k = ps.length
    · subst h0
      go_wp2
      go_ret
      exact ⟨rfl, bw⟩
    · have hlt : (k : Int) < (ps.length : Int) := by omega
      have hkb : k < ps.length := by omega
      have hlo : (0 : Int) ≤ (k : Int) := by omega
      obtain ⟨b1, o1, rfl, g1⟩ : ∃ b o, a1 = some ⟨b, o, none⟩ ∧ wr.rangeAt b o (psC ps) := by
        rcases (unhide H1).below bw with rfl | h
        · simp at hkb
        · exact h
      obtain ⟨b2, o2, rfl, g2⟩ : ∃ b o, a2 = some ⟨b, o, none⟩ ∧ wr.rangeAt b o (psC ps) := by
        rcases (unhide H2).below bw with rfl | h
        · simp at hkb
        · exact h
      have l1 := cell_lt (PsAt.cells g1 k hkb).1
      have l2 := cell_lt (PsAt.cells g2 k hkb).1
      have x1 := range_pg g1 k hkb
      have x2 := range_pg g2 k hkb
      have HC := hide (eqPage_any ps[k])
      have HS1 := hide (size_pg ps[k])
      have HS2 := hide (size_pg ps[k])
      clear g1 g2
      generalize pgC ps[k] = pc at *
      go_wp2_with fail
      refine wp_region_noPanic ?_
      refine wp_region_held_drew (S := fun w' => w'.rangeAt b1 (o1 + k * 5) pc ∧ w'.rangeAt b2 (o2 + k * 5) pc) (by kernel_rfl) (⟨by simpa using x1, by simpa using x2⟩) (fun hHeld => ?_)
      refine takeL 0 (.slice (some ⟨b1, o1, none⟩) ps.length cap1) rfl (by kernel_rfl) (by kernel_rfl) (by kernel_rfl) (fun _ _ _ h => h) (Or.inl ⟨rfl, fun _ _ => rfl⟩) hHeld ?_
      try simp only [Act.put, List.setIfInBounds_toArray, List.set_cons_zero, List.set_cons_succ]
      refine takeL 1 (.int .i64 k) rfl (by kernel_rfl) (by kernel_rfl) (by kernel_rfl) (fun _ _ _ h => h) (Or.inl ⟨rfl, fun _ _ => rfl⟩) hHeld ?_
      try simp only [Act.put, List.setIfInBounds_toArray, List.set_cons_zero, List.set_cons_succ]
      refine takeL 2 (.pointer (some ⟨b1, o1 + k * 5, none⟩)) rfl (by kernel_rfl) (by kernel_rfl) (by kernel_rfl) (fun _ _ _ h => h) (Or.inl ⟨rfl, fun w9 hSw => by go_simp⟩) hHeld ?_
      try simp only [Act.put, List.setIfInBounds_toArray, List.set_cons_zero, List.set_cons_succ]
      refine takeL 3 (_) rfl (by kernel_rfl) (by kernel_rfl) (by kernel_rfl) (fun _ _ _ h => h) (yieldsIf_load_mid rfl 75 _ rfl b1 (o1 + k * 5) rfl pc _ (fun _ h => h.1) Try.underlying75 rfl (unhide HS1)) hHeld ?_
      try simp only [Act.put, List.setIfInBounds_toArray, List.set_cons_zero, List.set_cons_succ]
      refine takeL 4 (.slice (some ⟨b2, o2, none⟩) ps.length cap2) rfl (by kernel_rfl) (by kernel_rfl) (by kernel_rfl) (fun _ _ _ h => h) (Or.inl ⟨rfl, fun _ _ => rfl⟩) hHeld ?_
      try simp only [Act.put, List.setIfInBounds_toArray, List.set_cons_zero, List.set_cons_succ]
      refine takeL 5 (.int .i64 k) rfl (by kernel_rfl) (by kernel_rfl) (by kernel_rfl) (fun _ _ _ h => h) (Or.inl ⟨rfl, fun _ _ => rfl⟩) hHeld ?_
      try simp only [Act.put, List.setIfInBounds_toArray, List.set_cons_zero, List.set_cons_succ]
      refine takeL 6 (.pointer (some ⟨b2, o2 + k * 5, none⟩)) rfl (by kernel_rfl) (by kernel_rfl) (by kernel_rfl) (fun _ _ _ h => h) (Or.inl ⟨rfl, fun w9 hSw => by go_simp⟩) hHeld ?_
      try simp only [Act.put, List.setIfInBounds_toArray, List.set_cons_zero, List.set_cons_succ]
      refine takeL 7 (_) rfl (by kernel_rfl) (by kernel_rfl) (by kernel_rfl) (fun _ _ _ h => h) (yieldsIf_load_mid rfl 75 _ rfl b2 (o2 + k * 5) rfl pc _ (fun _ h => h.2) Try.underlying75 rfl (unhide HS2)) hHeld ?_
      try simp only [Act.put, List.setIfInBounds_toArray, List.set_cons_zero, List.set_cons_succ]
      refine oneL 8 rfl (by kernel_rfl) rfl (fun K hK => ?_)
      go_simp
      refine (unhide HC _).mono ?_
      rintro e wz ⟨rfl, bz⟩
      go_wp2_with fail
      refine hK.out _ _ ⟨rangeAt_below hHeld.1 bz (by simpa using l1), rangeAt_below hHeld.2 bz (by simpa using l2)⟩ (fun hHeld => ?_)
      clear hK K
      try simp only [Act.put, List.setIfInBounds_toArray, List.set_cons_zero, List.set_cons_succ]
      refine takeL 9 (.bool false) rfl (by kernel_rfl) (by kernel_rfl) (by kernel_rfl) (fun _ _ _ h => h) (Or.inl ⟨rfl, fun w9 hSw => by go_simp⟩) hHeld ?_
      try simp only [Act.put, List.setIfInBounds_toArray, List.set_cons_zero, List.set_cons_succ]
      refine wpAnyH_done (by kernel_rfl) ?_ _
      refine NoPanic.normal ?_
      have B2 := bw.drew.trans (bz.mono bw.size)
      clear bz bw x1 x2
      go_wp2
      go_roundw
      case rel => exact ⟨k + 1, by omega, by first | rfl | go_num, B2⟩
      case measure => simp [intOf]; omega

set_option maxHeartbeats 400000 in
theorem eqBlock_any (a1 a2 : Option Addr) (cap1 cap2 : Nat) (b : Bk) (w : World) (h1 : PsAt w a1 b.ps) (h2 : PsAt w a2 b.ps) (hl : b.ps.length ≤ 1048576) :
    Calls Try.prog 97 #[.agg #[.slice a1 b.ps.length cap1, .int .i64 b.wn], .agg #[.slice a2 b.ps.length cap2, .int .i64 b.wn]] w fun e w' => e = .returned (.bool true) ∧ Below w.heap.size w w' := by
  have B0 : Below w.heap.size w ((w.alloc (.cells #[.slice a1 b.ps.length cap1, .int .i64 b.wn] 102)).alloc (.cells #[.slice a2 b.ps.length cap2, .int .i64 b.wn] 102)) := ((Below.refl _ _).alloc (Nat.le_refl _) _).alloc (by simp) _
  have HC := hide (eqPageS_any a1 a2 cap1 cap2 b.ps _ (h1.below B0) (h2.below B0) hl)
  clear h1 h2
  go_enter Try.func97, Try.ntmps97
  go_wp2_with fail
  refine (unhide HC).mono ?_
  rintro e w1 ⟨rfl, b1⟩
  have k1 : w1.cell? ⟨w.heap.size, 1, none⟩ = some (.int .i64 b.wn) := by rw [b1.cell (p := ⟨w.heap.size, 1, none⟩) (by simp; omega), World.cell?_alloc_lt _ _ _ (by simp)]; exact cell_top _ _ _ _ _ _ rfl rfl
  have k2 : w1.cell? ⟨w.heap.size + 1, 1, none⟩ = some (.int .i64 b.wn) := by rw [b1.cell (p := ⟨w.heap.size + 1, 1, none⟩) (by simp)]; exact cell_top _ _ _ _ _ _ (by simp) rfl
  have B1 := B0.trans (b1.mono B0.size)
  clear b1 B0 HC
  go_wp2
  go_ret
  exact ⟨rfl, B1⟩

theorem blk_range {w : World} {b o : Nat} {x y : Value} (h0 : w.cell? ⟨b, o, none⟩ = some x) (h1 : w.cell? ⟨b, o + 1, none⟩ = some y) : w.rangeAt b o [x, y] := fun j v hv => by
  match j, hv with
  | 0, hv => (obtain rfl : v = x := by simpa using hv.symm); exact h0
  | 1, hv => (obtain rfl : v = y := by simpa using hv.symm); exact h1
  | n + 2, hv => simp at hv

set_option maxHeartbeats 1000000 in
theorem eqBlockS_any (a1 a2 : Option Addr) (cap1 cap2 : Nat) (bs : List Bk) (w : World) (h1 : FsAt w a1 bs) (h2 : FsAt w a2 bs) (hl : bs.length ≤ 1048576) (hp : ∀ b ∈ bs, b.ps.length ≤ 1048576) :
    Calls Try.prog 51 #[.slice a1 bs.length cap1, .slice a2 bs.length cap2] w fun e w' => e = .returned (.bool true) ∧ Below w.heap.size w w' := by
  have hli : (bs.length : Int) ≤ 1048576 := by omega
  have H1 := hide h1
  have H2 := hide h2
  have HP := hide hp
  clear h1 h2 hp
  go_enter Try.func51, Try.ntmps51
  go_wp2
  go_loopw [5] (fun i w' => ∃ k : Nat, k ≤ bs.length ∧ i = .int .i64 k ∧ Below w.heap.size w w') (fun i _ => bs.length - (intOf i).toNat)
  case atStart => exact ⟨0, by omega, rfl, Below.refl _ _⟩
  case round =>
    obtain ⟨k, hk, rfl, bw⟩ := hrel
    by_cases h0 : k = bs.length
    · subst h0
      go_wp2
      go_ret
      exact ⟨rfl, bw⟩
    · have hlt : (k : Int) < (bs.length : Int) := by omega
      have hkb : k < bs.length := by omega
      have hlo : (0 : Int) ≤ (k : Int) := by omega
      obtain ⟨b1, o1, rfl, g1⟩ : ∃ b o, a1 = some ⟨b, o, none⟩ ∧ ∀ i (hi : i < bs.length), BkAt wr b (o + i * 2) bs[i] := by
        rcases (unhide H1).below bw with rfl | h
        · simp at hkb
        · exact h
      obtain ⟨b2, o2, rfl, g2⟩ : ∃ b o, a2 = some ⟨b, o, none⟩ ∧ ∀ i (hi : i < bs.length), BkAt wr b (o + i * 2) bs[i] := by
        rcases (unhide H2).below bw with rfl | h
        · simp at hkb
        · exact h
      obtain ⟨p1, c1, d0, d1, q1⟩ := g1 k hkb
      obtain ⟨p2, c2, e0, e1, q2⟩ := g2 k hkb
      have l1 := cell_lt d0
      have l2 := cell_lt e0
      have x1 := blk_range d0 d1
      have x2 := blk_range e0 e1
      have HC := hide (fun (w : World) (h : PsAt w p1 bs[k].ps) (h' : PsAt w p2 bs[k].ps) => eqBlock_any p1 p2 c1 c2 bs[k] w h h' (unhide HP _ (List.getElem_mem hkb)))
      have HS1 : Hid ((Try.prog.info? 102).map (·.size) = some [Value.slice p1 bs[k].ps.length c1, Value.int .i64 bs[k].wn].length) := by show _ = some 2; kernel_rfl
      have HS2 : Hid ((Try.prog.info? 102).map (·.size) = some [Value.slice p2 bs[k].ps.length c2, Value.int .i64 bs[k].wn].length) := by show _ = some 2; kernel_rfl
      have hpc : #[Value.slice p1 bs[k].ps.length c1, Value.int .i64 bs[k].wn] = [Value.slice p1 bs[k].ps.length c1, Value.int .i64 bs[k].wn].toArray := rfl
      have hqc : #[Value.slice p2 bs[k].ps.length c2, Value.int .i64 bs[k].wn] = [Value.slice p2 bs[k].ps.length c2, Value.int .i64 bs[k].wn].toArray := rfl
      clear g1 g2 d0 d1 e0 e1 hpc hqc
      generalize [Value.slice p1 bs[k].ps.length c1, Value.int .i64 bs[k].wn] = pc at *
      generalize [Value.slice p2 bs[k].ps.length c2, Value.int .i64 bs[k].wn] = qc at *
      go_wp2_with fail
      refine wp_region_noPanic ?_
      refine wp_region_held_drew (S := fun w' => w'.rangeAt b1 (o1 + k * 2) pc ∧ w'.rangeAt b2 (o2 + k * 2) qc) (by kernel_rfl) (⟨by simpa using x1, by simpa using x2⟩) (fun hHeld => ?_)
      refine takeL 0 (.slice (some ⟨b1, o1, none⟩) bs.length cap1) rfl (by kernel_rfl) (by kernel_rfl) (by kernel_rfl) (fun _ _ _ h => h) (Or.inl ⟨rfl, fun _ _ => rfl⟩) hHeld ?_
      try simp only [Act.put, List.setIfInBounds_toArray, List.set_cons_zero, List.set_cons_succ]
      refine takeL 1 (.int .i64 k) rfl (by kernel_rfl) (by kernel_rfl) (by kernel_rfl) (fun _ _ _ h => h) (Or.inl ⟨rfl, fun _ _ => rfl⟩) hHeld ?_
      try simp only [Act.put, List.setIfInBounds_toArray, List.set_cons_zero, List.set_cons_succ]
      refine takeL 2 (.pointer (some ⟨b1, o1 + k * 2, none⟩)) rfl (by kernel_rfl) (by kernel_rfl) (by kernel_rfl) (fun _ _ _ h => h) (Or.inl ⟨rfl, fun w9 hSw => by go_simp⟩) hHeld ?_
      try simp only [Act.put, List.setIfInBounds_toArray, List.set_cons_zero, List.set_cons_succ]
      refine takeL 3 (_) rfl (by kernel_rfl) (by kernel_rfl) (by kernel_rfl) (fun _ _ _ h => h) (yieldsIf_load_mid rfl 102 _ rfl b1 (o1 + k * 2) rfl pc _ (fun _ h => h.1) Try.underlying102 rfl (unhide HS1)) hHeld ?_
      try simp only [Act.put, List.setIfInBounds_toArray, List.set_cons_zero, List.set_cons_succ]
      refine takeL 4 (.slice (some ⟨b2, o2, none⟩) bs.length cap2) rfl (by kernel_rfl) (by kernel_rfl) (by kernel_rfl) (fun _ _ _ h => h) (Or.inl ⟨rfl, fun _ _ => rfl⟩) hHeld ?_
      try simp only [Act.put, List.setIfInBounds_toArray, List.set_cons_zero, List.set_cons_succ]
      refine takeL 5 (.int .i64 k) rfl (by kernel_rfl) (by kernel_rfl) (by kernel_rfl) (fun _ _ _ h => h) (Or.inl ⟨rfl, fun _ _ => rfl⟩) hHeld ?_
      try simp only [Act.put, List.setIfInBounds_toArray, List.set_cons_zero, List.set_cons_succ]
      refine takeL 6 (.pointer (some ⟨b2, o2 + k * 2, none⟩)) rfl (by kernel_rfl) (by kernel_rfl) (by kernel_rfl) (fun _ _ _ h => h) (Or.inl ⟨rfl, fun w9 hSw => by go_simp⟩) hHeld ?_
      try simp only [Act.put, List.setIfInBounds_toArray, List.set_cons_zero, List.set_cons_succ]
      refine takeL 7 (_) rfl (by kernel_rfl) (by kernel_rfl) (by kernel_rfl) (fun _ _ _ h => h) (yieldsIf_load_mid rfl 102 _ rfl b2 (o2 + k * 2) rfl qc _ (fun _ h => h.2) Try.underlying102 rfl (unhide HS2)) hHeld ?_
      try simp only [Act.put, List.setIfInBounds_toArray, List.set_cons_zero, List.set_cons_succ]
      refine oneL 8 rfl (by kernel_rfl) rfl (fun K hK => ?_)
      go_simp
      refine (unhide HC _ (PsAt.drew q1) (PsAt.drew q2)).mono ?_
      rintro e wz ⟨rfl, bz⟩
      go_wp2_with fail
      refine hK.out _ _ ⟨rangeAt_below hHeld.1 bz (by simpa using l1), rangeAt_below hHeld.2 bz (by simpa using l2)⟩ (fun hHeld => ?_)
      clear hK K
      try simp only [Act.put, List.setIfInBounds_toArray, List.set_cons_zero, List.set_cons_succ]
      refine takeL 9 (.bool false) rfl (by kernel_rfl) (by kernel_rfl) (by kernel_rfl) (fun _ _ _ h => h) (Or.inl ⟨rfl, fun w9 hSw => by go_simp⟩) hHeld ?_
      try simp only [Act.put, List.setIfInBounds_toArray, List.set_cons_zero, List.set_cons_succ]
      refine wpAnyH_done (by kernel_rfl) ?_ _
      refine NoPanic.normal ?_
      have B2 := bw.drew.trans (bz.mono bw.size)
      clear bz bw x1 x2
      go_wp2
      go_roundw
      case rel => exact ⟨k + 1, by omega, by first | rfl | go_num, B2⟩
      case measure => simp [intOf]; omega
end Go.Proofs.Ytcmklcfedeeahaa.LawsE

/-
  A law's argument that is a list of blocks, opened: whatever it is, blocks and pages of ints lie there.
-/
namespace Go.Proofs.Ytcmklcfedeeahaa.OpenF
open Go.ChangeShapes Go.WideShapes Go.ChangeAt Go.RowKit Go.Joins Go.Deep OkA Big Fl ImplS LawsA
set_option linter.unusedVariables false
set_option linter.unusedSimpArgs false

theorem range_flat {α : Type} (f : α → List Value) (n : Nat) {w : World} {b : Nat} : ∀ (l : List α) (o : Nat), (∀ x ∈ l, (f x).length = n) → (∀ i (hi : i < l.length), w.rangeAt b (o + i * n) (f l[i])) → w.rangeAt b o (l.flatMap f)
  | [], o, _, _ => fun j v hv => by simp at hv
  | x :: r, o, h1, h2 => by
    rw [List.flatMap_cons, range_app, h1 x (by simp)]
    refine ⟨by have := h2 0 (by simp); rw [Nat.zero_mul, Nat.add_zero] at this; exact this, range_flat f n r (o + n) (fun y hy => h1 y (by simp [hy])) fun i hi => ?_⟩
    have := h2 (i + 1) (by simpa using hi)
    rw [show o + n + i * n = o + (i + 1) * n by rw [Nat.add_mul]; omega]
    simpa using this
theorem spot_none {w : World} {b o : Nat} {s : Option Nat} {v : Value} (h : w.cell? ⟨b, o, s⟩ = some v) : s = none := by simpa using World.cell?_spot h

theorem list2 {cs : List Value} (h : cs.length = 2) : ∃ a b, cs = [a, b] := by
  match cs, h with
  | [a, b], _ => exact ⟨a, b, rfl⟩
theorem list4 {cs : List Value} (h : cs.length = 4) : ∃ a b c d, cs = [a, b, c, d] := by
  match cs, h with
  | [a, b, c, d], _ => exact ⟨a, b, c, d, rfl⟩
theorem list5 {cs : List Value} (h : cs.length = 5) : ∃ a b c d e, cs = [a, b, c, d, e] := by
  match cs, h with
  | [a, b, c, d, e], _ => exact ⟨a, b, c, d, e, rfl⟩
variable {H : Type} {enc : TypeId × Value → H} {w : World}

theorem open_rec {fuel : Nat} {cs : List Value} {x : DataW H × List MemPlace} (h : DataW.trod enc Try.prog w 0 (fun _ => true) true fuel 56 cs = some x) :
    ∃ k s a v : Int, cs = [.int .i64 k, .int .i64 s, .int .i64 a, .int .i64 v] := by
  obtain ⟨y0, y1, y2, y3, n, _, hl, h0, h1, h2, h3⟩ := trod_struct4 Try.underlying56 h
  rw [show Try.prog.cellsOf 56 = 4 by kernel_rfl] at hl
  obtain ⟨c0, c1, c2, c3, rfl⟩ := list4 hl
  rw [show Try.prog.cellsOf 3 = 1 by kernel_rfl] at h0 h1 h2 h3
  obtain ⟨x0, e0, _, _⟩ := DataW.trod_int Try.underlying3 h0
  obtain ⟨x1, e1, _, _⟩ := DataW.trod_int Try.underlying3 h1
  obtain ⟨x2, e2, _, _⟩ := DataW.trod_int Try.underlying3 h2
  obtain ⟨x3, e3, _, _⟩ := DataW.trod_int Try.underlying3 h3
  simp at e0 e1 e2 e3
  subst e0 e1 e2 e3
  exact ⟨_, _, _, _, rfl⟩
theorem open_page {fuel : Nat} {cs : List Value} {x : DataW H × List MemPlace} (h : DataW.trod enc Try.prog w 0 (fun _ => true) true fuel 154 cs = some x) : ∃ p : Pg, cs = pgC p := by
  obtain ⟨y0, y1, n, _, hl, h0, h1⟩ := trod_struct2 Try.underlying154 h
  rw [show Try.prog.cellsOf 154 = 5 by kernel_rfl] at hl
  obtain ⟨c0, c1, c2, c3, c4, rfl⟩ := list5 hl
  rw [show Try.prog.cellsOf 3 = 1 by kernel_rfl] at h0
  rw [show Try.prog.cellsOf 56 = 4 by kernel_rfl] at h1
  obtain ⟨x0, e0, _, _⟩ := DataW.trod_int Try.underlying3 h0
  obtain ⟨k, s, a, v, e1⟩ := open_rec h1
  simp at e0 e1
  obtain ⟨rfl, rfl, rfl, rfl⟩ := e1
  subst e0
  exact ⟨⟨x0, k, s, a, v⟩, rfl⟩
theorem open_pages {fuel : Nat} {V : Value} {x : DataW H × List MemPlace} (h : DataW.trod enc Try.prog w 0 (fun _ => true) true fuel 106 [V] = some x) :
    ∃ a ps cap, V = .slice a (ps : List Pg).length cap ∧ PsAt w a ps ∧ ps.length ≤ 9223372036854775807 := by
  rcases open_slice Try.underlying106 h with ⟨h0, _⟩ | ⟨a, len, cap, m, n, D, Pl, hc, _, hl, hm, hmm, _, hx⟩
  · simp at h0; subst h0; exact ⟨none, [], 0, rfl, .inl rfl, by simp⟩
  · simp at hc
    subst hc
    have hlm : len ≤ m := by rw [hmm]; simp; exact hl
    rw [show Try.prog.cellsOf 154 = 5 by kernel_rfl] at hx
    have hp : ∀ i, i < len → ∃ p : Pg, ∀ j, j < 5 → w.cell? ((a.add (i * 5)).add j) = (pgC p)[j]? := fun i hi => by
      obtain ⟨cs', h1, h2⟩ := hx i (by omega)
      obtain ⟨p, rfl⟩ := open_page h2
      obtain ⟨_, _, h3⟩ := World.cells?_some h1
      exact ⟨p, h3⟩
    have : Inhabited Pg := ⟨⟨0, 0, 0, 0, 0⟩⟩
    obtain ⟨P, hP⟩ := choose_lt hp
    refine ⟨some a, (List.range len).map P, cap, by simp, ?_, ?_⟩
    · by_cases h0 : len = 0
      · subst h0; exact .inl rfl
      · obtain ⟨b, o, s⟩ := a
        have c0 := hP 0 (by omega) 0 (by omega)
        rw [Nat.zero_mul] at c0
        have hs : s = none := by
          have : w.cell? ⟨b, o, s⟩ = some (.int .i64 (P 0).st) := by simpa [Addr.add, pgC] using c0
          exact spot_none this
        subst hs
        refine .inr ⟨b, o, rfl, range_flat pgC 5 _ o (fun _ _ => rfl) fun i hi j v hv => ?_⟩
        simp only [List.length_map, List.length_range] at hi
        simp only [List.getElem_map, List.getElem_range] at hv
        have hj : j < 5 := by have := (List.getElem?_eq_some_iff.1 hv).1; simpa [len_pgC] using this
        have := hP i hi j hj
        rw [Addr.add_mid, Addr.add_mid] at this
        rw [this]; exact hv
    · simp
      have h1 := hm
      unfold maxLen at h1
      omega
theorem open_block {fuel : Nat} {cs : List Value} {x : DataW H × List MemPlace} (h : DataW.trod enc Try.prog w 0 (fun _ => true) true fuel 108 cs = some x) :
    ∃ (b : Bk) (a : Option Addr) (cap : Nat), cs = [.slice a b.ps.length cap, .int .i64 b.wn] ∧ PsAt w a b.ps ∧ b.ps.length ≤ 9223372036854775807 := by
  obtain ⟨y0, y1, n, _, hl, h0, h1⟩ := trod_struct2 Try.underlying108 h
  rw [show Try.prog.cellsOf 108 = 2 by kernel_rfl] at hl
  obtain ⟨c0, c1, rfl⟩ := list2 hl
  rw [show Try.prog.cellsOf 3 = 1 by kernel_rfl] at h1
  rw [show Try.prog.cellsOf 106 = 1 by kernel_rfl] at h0
  obtain ⟨x0, e0, _, _⟩ := DataW.trod_int Try.underlying3 h1
  obtain ⟨a, ps, cap, e1, hps, hle⟩ := open_pages h0
  simp at e0
  subst e0 e1
  exact ⟨⟨ps, x0⟩, a, cap, rfl, hps, hle⟩
theorem open_flash {fuel : Nat} {V : Value} {x : DataW H × List MemPlace} (h : DataW.trod enc Try.prog w 0 (fun _ => true) true fuel 30 [V] = some x) :
    ∃ a bs cap, V = .slice a (bs : List Bk).length cap ∧ FsAt w a bs ∧ Fit bs := by
  rcases open_slice Try.underlying30 h with ⟨h0, _⟩ | ⟨a, len, cap, m, n, D, Pl, hc, _, hl, hm, hmm, _, hx⟩
  · simp at h0; subst h0; exact ⟨none, [], 0, rfl, .inl rfl, by simp, fun b hb => by simp at hb⟩
  · simp at hc
    subst hc
    have hlm : len ≤ m := by rw [hmm]; simp; exact hl
    rw [show Try.prog.cellsOf 108 = 2 by kernel_rfl] at hx
    have hp : ∀ i, i < len → ∃ b : Bk, b.ps.length ≤ 9223372036854775807 ∧ ∃ pa pc, w.cell? ((a.add (i * 2)).add 0) = some (.slice pa b.ps.length pc) ∧ w.cell? ((a.add (i * 2)).add 1) = some (.int .i64 b.wn) ∧ PsAt w pa b.ps := fun i hi => by
      obtain ⟨cs', h1, h2⟩ := hx i (by omega)
      obtain ⟨b, pa, pc, rfl, hps, hle⟩ := open_block h2
      obtain ⟨_, _, h3⟩ := World.cells?_some h1
      exact ⟨b, hle, pa, pc, h3 0 (by omega), h3 1 (by omega), hps⟩
    have : Inhabited Bk := ⟨⟨[], 0⟩⟩
    obtain ⟨B, hB⟩ := choose_lt hp
    refine ⟨some a, (List.range len).map B, cap, by simp, ?_, ?_, ?_⟩
    · by_cases h0 : len = 0
      · subst h0; exact .inl rfl
      · obtain ⟨b, o, s⟩ := a
        obtain ⟨_, pa, pc, c0, _⟩ := hB 0 (by omega)
        rw [Nat.zero_mul] at c0
        have hs : s = none := by
          have : w.cell? ⟨b, o, s⟩ = some (.slice pa (B 0).ps.length pc) := by simpa [Addr.add] using c0
          exact spot_none this
        subst hs
        refine .inr ⟨b, o, rfl, fun i hi => ?_⟩
        simp only [List.length_map, List.length_range] at hi
        obtain ⟨_, pa, pc, d0, d1, d2⟩ := hB i hi
        simp only [List.getElem_map, List.getElem_range]
        rw [Addr.add_mid, Addr.add_mid] at d0 d1
        exact ⟨pa, pc, d0, d1, d2⟩
    · simp
      have h1 := hm
      unfold maxLen at h1
      omega
    · intro b hb
      simp at hb
      obtain ⟨i, hi, rfl⟩ := hb
      have := (hB i hi).1
      omega
end Go.Proofs.Ytcmklcfedeeahaa.OpenF
