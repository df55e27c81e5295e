/-
  The program's StoreOk, StoreRead, StoreAll and StoreDirty.
-/
import Derived.Test.YtahloklmogkaeaaStF
namespace Go.Proofs.Ytahloklmogkaeaa.StG
open Go.ChangeShapes Go.WideShapes Go.ChangeAt Go.RowKit Go.Shelf OkA Big Fl ImplB ImplF ImplS _root_.Go.Proofs.Ytahloklmogkaeaa.Own ImplT ImplU SpecA SpecB SpecC SpecD SpecW SpecF SpecG SpecH Ok2 Pl FindP ImplO SpecX SpecO ImplQ ImplW ImplL FindN FindL FindV FindQ Kp StA MpA StB StC StD StE StF
set_option linter.unusedVariables false
set_option linter.unusedSimpArgs false
attribute [local go_sem ↓] Go.wp_at_zero Go.wp_at_succ

theorem size7 {sk : List Value} (h : sk.length = 7) : (Try.prog.info? 72).map (·.size) = some sk.length := by rw [h]; kernel_rfl
theorem size7a {sk : List Value} (h : sk.length = 7) : (Try.prog.info? 72).map (·.size) = some sk.toArray.size := by rw [List.size_toArray]; exact size7 h
/-- A store lies there. -/
structure SAt (w : World) (fa : Option Addr) (bs : List Bk) (da : Option Addr) (dk : List Int) : Prop where
  fs : FsAt w fa bs
  ds : DkAt w da dk
theorem SAt.below {w w' : World} {fa : Option Addr} {bs : List Bk} {da : Option Addr} {dk : List Int} (h : SAt w fa bs da dk) (hb : Below w.heap.size w w') : SAt w' fa bs da dk := ⟨h.fs.below hb, h.ds.below hb⟩

set_option maxRecDepth 100000 in
set_option maxHeartbeats 1000000 in
theorem implOk_any (fa : Option Addr) (fc : Nat) (bs : List Bk) (da : Option Addr) (dc : Nat) (dk : List Int) (w : World) (h : SAt w fa bs da dk) (hm : bs.length ≤ 9223372036854775807) (hm2 : dk.length ≤ 9223372036854775807) :
    Calls Try.prog 27 #[.agg #[.slice fa bs.length fc, .slice da dk.length dc]] w fun e w' => e = .returned (.bool (stI bs dk)) ∧ Below w.heap.size w w' := by
  have B0 : Below w.heap.size w (w.alloc (.cells #[.slice fa bs.length fc, .slice da dk.length dc] 25)) := (Below.refl _ _).alloc (Nat.le_refl _) _
  have HC := hide (storeOf_any fa fc bs da dc dk _ (h.below B0).fs (h.below B0).ds hm hm2)
  clear h
  go_enter Try.func27, Try.ntmps27
  go_wp2_with fail
  refine (unhide HC).mono ?_
  rintro e w1 ⟨sk, rfl, hs7, hone, _, b1⟩
  have B1 := (B0.trans (b1.mono B0.size)).alloc (B0.trans (b1.mono B0.size)).size (.cells sk.toArray 72)
  have hsz : zSk.toArray.size = sk.toArray.size := by rw [List.size_toArray, List.size_toArray, hs7]; rfl
  go_wp2_with (first | (refine wpList_alloc_big rfl 72 rfl zSk.toArray zero_sk ?_) | (refine wpList_store_new rfl 72 _ _ rfl w1 zSk.toArray sk.toArray rfl rfl rfl (size7a hs7) hsz (all_oneCell_toArray hone) ?_))
  go_ret
  exact ⟨rfl, B1⟩

/-- What StoreRead answers, as the program reckons it. -/
def rdI (bs : List Bk) (dk : List Int) (addr : Int) : Int := if stI bs dk && inB addr 1 6 then mpV (mpF bs) dk addr else -1
set_option maxRecDepth 100000 in
set_option maxHeartbeats 1000000 in
theorem implRead_any (fa : Option Addr) (fc : Nat) (bs : List Bk) (da : Option Addr) (dc : Nat) (dk : List Int) (addr : Int) (w : World) (h : SAt w fa bs da dk) (hm : bs.length ≤ 9223372036854775807) (hm2 : dk.length ≤ 9223372036854775807) :
    Calls Try.prog 29 #[.agg #[.slice fa bs.length fc, .slice da dk.length dc], .int .i64 addr] w fun e w' => e = .returned (.int .i64 (rdI bs dk addr)) ∧ Below w.heap.size w w' := by
  have B0 : Below w.heap.size w (w.alloc (.cells #[.slice fa bs.length fc, .slice da dk.length dc] 25)) := (Below.refl _ _).alloc (Nat.le_refl _) _
  have HC := hide (storeOf_any fa fc bs da dc dk _ (h.below B0).fs (h.below B0).ds hm hm2)
  have HR : Hid (rdI bs dk addr = if stI bs dk && inB addr 1 6 then mpV (mpF bs) dk addr else -1) := rfl
  have HW := hide (fun (w' : World) => within_any addr 1 6 w')
  clear h
  generalize rdI bs dk addr = R at *
  go_enter Try.func29, Try.ntmps29
  go_wp2_with fail
  refine (unhide HC).mono ?_
  rintro e w1 ⟨sk, rfl, hs7, hone, hsk, b1⟩
  have bA : Below w1.heap.size w1 (w1.alloc (.cells sk.toArray 72)) := (Below.refl _ _).alloc (Nat.le_refl _) _
  have B1 := (B0.trans (b1.mono B0.size)).trans (bA.mono (B0.trans (b1.mono B0.size)).size)
  have hsz : zSk.toArray.size = sk.toArray.size := by rw [List.size_toArray, List.size_toArray, hs7]; rfl
  have rK := rangeAt_new w1 sk 72
  have HSK := hide (size7 hs7)
  clear B0 b1 HC
  cases hs : stI bs dk
  · have HE : Hid (R = -1) := by show _ = _; rw [unhide HR, hs]; rfl
    go_wp2_with (first | (refine wpList_alloc_big rfl 72 rfl zSk.toArray zero_sk ?_) | (refine wpList_store_new rfl 72 _ _ rfl w1 zSk.toArray sk.toArray rfl rfl rfl (size7a hs7) hsz (all_oneCell_toArray hone) ?_))
    go_ret
    exact ⟨by rw [unhide HE]; rfl, B1⟩
  · obtain ⟨mb, rfl, hd6, hM⟩ := hsk hs
    have hM1 := hM.below bA hM.lt
    cases hin : inB addr 1 6
    · have HE : Hid (R = -1) := by show _ = _; rw [unhide HR, hs, hin]; rfl
      rw [hin] at HW
      go_wp2_with (first | (refine wpList_alloc_big rfl 72 rfl zSk.toArray zero_sk ?_) | (refine wpList_store_new rfl 72 _ _ rfl w1 zSk.toArray (skC mb dk).toArray rfl rfl rfl (size7a hs7) hsz (all_oneCell_toArray hone) ?_) | (go_at_call 72; refine (unhide HW _).mono ?_; rintro e w' ⟨rfl, rfl⟩))
      go_ret
      exact ⟨by rw [unhide HE]; rfl, B1⟩
    · have HE : Hid (R = mpV (mpF bs) dk addr) := by show _ = _; rw [unhide HR, hs, hin]; rfl
      rw [hin] at HW
      have ha : 1 ≤ addr ∧ addr ≤ 6 := by simpa [inB] using hin
      have HV := hide (value_any mb 6 (mpF bs) dk hd6 addr ha.1 ha.2 _ hM1)
      rw [← unhide HE] at HV
      go_wp2_with (first | (refine wpList_alloc_big rfl 72 rfl zSk.toArray zero_sk ?_) | (refine wpList_store_new rfl 72 _ _ rfl w1 zSk.toArray (skC mb dk).toArray rfl rfl rfl (size7a hs7) hsz (all_oneCell_toArray hone) ?_) | (go_at_call 72; refine (unhide HW _).mono ?_; rintro e w' ⟨rfl, rfl⟩) | (refine wpList_load_mid rfl 72 _ rfl w1.heap.size 0 rfl (skC mb dk) _ rK Try.underlying72 rfl (unhide HSK) ?_))
      refine (unhide HV).mono ?_
      rintro e w3 ⟨rfl, b3⟩
      have B3 := B1.trans (b3.mono B1.size)
      clear rK HV
      go_wp2
      go_ret
      exact ⟨rfl, B3⟩

/-- Which addresses are dirty, as the program reckons them. -/
def dyI (bs : List Bk) (dk : List Int) : List Int := if stI bs dk then whK kindD (mpF bs) 6 else []
set_option maxRecDepth 100000 in
set_option maxHeartbeats 1000000 in
theorem implDirty_any (fa : Option Addr) (fc : Nat) (bs : List Bk) (da : Option Addr) (dc : Nat) (dk : List Int) (w : World) (h : SAt w fa bs da dk) (hm : bs.length ≤ 9223372036854775807) (hm2 : dk.length ≤ 9223372036854775807) :
    Calls Try.prog 36 #[.agg #[.slice fa bs.length fc, .slice da dk.length dc]] w fun e w' => IsPost w (dyI bs dk) e w' := by
  have B0 : Below w.heap.size w (w.alloc (.cells #[.slice fa bs.length fc, .slice da dk.length dc] 25)) := (Below.refl _ _).alloc (Nat.le_refl _) _
  have HC := hide (storeOf_any fa fc bs da dc dk _ (h.below B0).fs (h.below B0).ds hm hm2)
  have HR : Hid (dyI bs dk = if stI bs dk then whK kindD (mpF bs) 6 else []) := rfl
  clear h
  generalize dyI bs dk = R at *
  go_enter Try.func36, Try.ntmps36
  go_wp2_with fail
  refine (unhide HC).mono ?_
  rintro e w1 ⟨sk, rfl, hs7, hone, hsk, b1⟩
  have bA : Below w1.heap.size w1 (w1.alloc (.cells sk.toArray 72)) := (Below.refl _ _).alloc (Nat.le_refl _) _
  have B1 := (B0.trans (b1.mono B0.size)).trans (bA.mono (B0.trans (b1.mono B0.size)).size)
  have hsz : zSk.toArray.size = sk.toArray.size := by rw [List.size_toArray, List.size_toArray, hs7]; rfl
  have rK := rangeAt_new w1 sk 72
  have HSK := hide (size7 hs7)
  clear B0 b1 HC
  cases hs : stI bs dk
  · have HE : Hid (R = []) := by show _ = _; rw [unhide HR, hs]; rfl
    go_wp2_with (first | (refine wpList_alloc_big rfl 72 rfl zSk.toArray zero_sk ?_) | (refine wpList_store_new rfl 72 _ _ rfl w1 zSk.toArray sk.toArray rfl rfl rfl (size7a hs7) hsz (all_oneCell_toArray hone) ?_))
    go_ret
    exact ⟨_, rfl, by rw [unhide HE]; exact (Rw.nil _ _).new, B1⟩
  · obtain ⟨mb, rfl, hd6, hM⟩ := hsk hs
    have hM1 := hM.below bA hM.lt
    have HE : Hid (R = whK kindD (mpF bs) 6) := by show _ = _; rw [unhide HR, hs]; rfl
    have HV := hide (whoseD_any mb 6 (mpF bs) dk hd6 _ hM1)
    rw [← unhide HE] at HV
    go_wp2_with (first | (refine wpList_alloc_big rfl 72 rfl zSk.toArray zero_sk ?_) | (refine wpList_store_new rfl 72 _ _ rfl w1 zSk.toArray (skC mb dk).toArray rfl rfl rfl (size7a hs7) hsz (all_oneCell_toArray hone) ?_) | (refine wpList_load_mid rfl 72 _ rfl w1.heap.size 0 rfl (skC mb dk) _ rK Try.underlying72 rfl (unhide HSK) ?_))
    refine (unhide HV).mono ?_
    rintro e w3 ⟨v, rfl, hR, b3⟩
    have B3 := B1.trans (b3.mono B1.size)
    have hR3 := hR.mono B1.size
    clear rK HV hR
    go_wp2
    go_ret
    exact ⟨v, rfl, hR3.new, B3⟩

/-- All values, as the program reckons them. -/
def alI (bs : List Bk) (dk : List Int) : List Int := if stI bs dk then (List.range 6).map fun i => mpV (mpF bs) dk ((i : Nat) + 1 : Int) else []
theorem made6 : madeCells (Value.int .i64 0).cells (6 * 1) = (isC zDk6).toArray := by kernel_rfl
theorem _root_.Go.Proofs.Ytahloklmogkaeaa.ImplL.CsAt.setInt {w : World} {b k : Nat} {l : List Int} (h : CsAt w b (isC l)) (hk : k < l.length) (x : Int) : CsAt (w.setCell ⟨b, k, none⟩ (.int .i64 x)) b (isC (l.set k x)) := by
  have e : w.setCell ⟨b, k, none⟩ (.int .i64 x) = w.setCells b k [.int .i64 x] := rfl
  have ht : w.there b k 1 := by have := there_sub h.free k 1 (by rw [len_isC]; omega); rwa [Nat.zero_add] at this
  have hs : (isC (l.set k x)) = (isC l).set k (.int .i64 x) := by simp [isC, List.map_set]
  rw [e, hs]
  refine ⟨fun j v hv => ?_, by rw [List.length_set]; exact World.there_setCells h.free _ _ _⟩
  rw [Nat.zero_add]
  by_cases q : j = k
  · subst q
    rw [List.getElem?_set_self (by rw [len_isC]; exact hk)] at hv
    have := cell_setCells_eq (vs := [.int .i64 x]) ht 0 (by simp)
    rw [Nat.add_zero] at this
    rw [this]; simpa using hv
  · rw [List.getElem?_set_ne (fun e => q e.symm)] at hv
    rw [cell_setCells_ne (.inr (by simp; omega))]
    have := h.cells j v hv
    rwa [Nat.zero_add] at this

set_option maxRecDepth 100000 in
set_option maxHeartbeats 1000000 in
theorem implAll_any (fa : Option Addr) (fc : Nat) (bs : List Bk) (da : Option Addr) (dc : Nat) (dk : List Int) (w : World) (h : SAt w fa bs da dk) (hm : bs.length ≤ 9223372036854775807) (hm2 : dk.length ≤ 9223372036854775807) :
    Calls Try.prog 31 #[.agg #[.slice fa bs.length fc, .slice da dk.length dc]] w fun e w' => IsPost w (alI bs dk) e w' := by
  have B0 : Below w.heap.size w (w.alloc (.cells #[.slice fa bs.length fc, .slice da dk.length dc] 25)) := (Below.refl _ _).alloc (Nat.le_refl _) _
  have HC := hide (storeOf_any fa fc bs da dc dk _ (h.below B0).fs (h.below B0).ds hm hm2)
  have HR : Hid (alI bs dk = if stI bs dk then (List.range 6).map fun i => mpV (mpF bs) dk ((i : Nat) + 1 : Int) else []) := rfl
  clear h
  generalize alI bs dk = R at *
  go_enter Try.func31, Try.ntmps31
  go_wp2_with fail
  refine (unhide HC).mono ?_
  rintro e w1 ⟨sk, rfl, hs7, hone, hsk, b1⟩
  have bA : Below w1.heap.size w1 (w1.alloc (.cells sk.toArray 72)) := (Below.refl _ _).alloc (Nat.le_refl _) _
  have B1 := (B0.trans (b1.mono B0.size)).trans (bA.mono (B0.trans (b1.mono B0.size)).size)
  have hsz : zSk.toArray.size = sk.toArray.size := by rw [List.size_toArray, List.size_toArray, hs7]; rfl
  have HSK := hide (size7 hs7)
  have q1 : w.heap.size ≤ w1.heap.size := (B0.trans (b1.mono B0.size)).size
  clear B0 b1 HC
  cases hs : stI bs dk
  · have HE : Hid (R = []) := by show _ = _; rw [unhide HR, hs]; rfl
    go_wp2_with (first | (refine wpList_alloc_big rfl 72 rfl zSk.toArray zero_sk ?_) | (refine wpList_store_new rfl 72 _ _ rfl w1 zSk.toArray sk.toArray rfl rfl rfl (size7a hs7) hsz (all_oneCell_toArray hone) ?_))
    go_ret
    exact ⟨_, rfl, by rw [unhide HE]; exact .inl ⟨rfl, _, _, rfl⟩, B1⟩
  · obtain ⟨mb, rfl, hd6, hM⟩ := hsk hs
    have hM1 := hM.below bA hM.lt
    have hml := hM.lt
    have HE : Hid (R = (List.range 6).map fun i => mpV (mpF bs) dk ((i : Nat) + 1 : Int)) := by show _ = _; rw [unhide HR, hs]; rfl
    have HV := hide (fun (k : Nat) (hk : k < 6) (w' : World) (h : MapAt w' mb 6 (mpF bs)) => value_any mb 6 (mpF bs) dk hd6 ((k : Int) + 1) (by omega) (by omega) w' h)
    have cK := (CsAt.new w1 (skC mb dk) 72).alloc (by simp) (.cells (isC zDk6).toArray 3)
    have cN := CsAt.new (w1.alloc (.cells (skC mb dk).toArray 72)) (isC zDk6) 3
    rw [World.size_alloc] at cN
    have B2 := B1.alloc (by simp; omega) (.cells (isC zDk6).toArray 3)
    have hM2 := hM1.below ((Below.refl (w1.alloc (.cells (skC mb dk).toArray 72)).heap.size _).alloc (Nat.le_refl _) (.cells (isC zDk6).toArray 3)) hM1.lt
    have s2 : w1.heap.size + 2 ≤ ((w1.alloc (.cells (skC mb dk).toArray 72)).alloc (.cells (isC zDk6).toArray 3)).heap.size := by simp
    clear hM hM1 bA B1
    generalize mpF bs = f at *
    go_wp2_with (first | (refine wpList_alloc_big rfl 72 rfl zSk.toArray zero_sk ?_) | (refine wpList_store_new rfl 72 _ _ rfl w1 zSk.toArray (skC mb dk).toArray rfl rfl rfl (size7a hs7) hsz (all_oneCell_toArray hone) ?_) | (refine wpList_make_big rfl 23 _ _ rfl 6 rfl rfl 3 1 8 (.int .i64 0) Try.underlying23 made_int (by omega) (by omega) ?_; rw [made6]))
    generalize (w1.alloc (.cells (skC mb dk).toArray 72)).alloc (.cells (isC zDk6).toArray 3) = w2 at *
    generalize hK : w1.heap.size = S at *
    go_loopw [17] (fun i w' => ∃ (k : Nat) (l : List Int), k ≤ 6 ∧ i = .int .i64 k ∧ l.length = 6 ∧ Hid (∀ j, j < k → l.getD j 0 = mpV f dk ((j : Nat) + 1 : Int)) ∧ CsAt w' (S + 1) (isC l) ∧ CsAt w' S (skC mb dk) ∧ MapAt w' mb 6 f ∧ S + 2 ≤ w'.heap.size ∧ Below w.heap.size w w') (fun i _ => 6 - (intOf i).toNat)
    case atStart => exact ⟨0, zDk6, by omega, rfl, rfl, (fun j hj => by omega), cN, cK, hM2, s2, B2⟩
    case round =>
      clear cN cK hM2 s2 B2
      obtain ⟨k, l, hk, rfl, hl6, HI, hN, hC, hMm, hS, hB⟩ := hrel
      by_cases h0 : k = 6
      · subst h0
        have HL : Hid (R = l) := by
          show _ = _
          rw [unhide HE]
          apply List.ext_getElem (by simp [hl6])
          intro j h1 h2
          have := unhide HI j (by omega)
          rw [List.getD_eq_getElem?_getD, List.getElem?_eq_getElem h2] at this
          simp at this
          simp [this]
        have hlt : S + 1 < wr.heap.size := by omega
        go_wp2
        go_ret
        exact ⟨_, rfl, by rw [unhide HL]; exact .inr ⟨S + 1, 6, by rw [hl6]; rfl, by omega, hlt, hN⟩, hB⟩
      · have hk6 : k < 6 := by omega
        have hlt : (k : Int) < 6 := by omega
        have hlo : (0 : Int) ≤ (k : Int) := by omega
        have rK := hC.cells
        go_wp2_with (refine wpList_load_mid rfl 72 _ rfl S 0 rfl (skC mb dk) _ rK Try.underlying72 rfl (unhide HSK) ?_)
        refine (unhide HV k hk6 _ hMm).mono ?_
        rintro e w3 ⟨rfl, b3⟩
        have hN3 := hN.below b3 (by omega)
        have hC3 := hC.below b3 (by omega)
        have hM3 := hMm.below b3 hMm.lt
        have hB3 := hB.trans (b3.mono hB.size)
        have hS3 := Nat.le_trans hS b3.size
        clear rK hN hC hMm hB hS b3
        have hkl : k < (isC l).length := by rw [len_isC]; omega
        have x0 := hN3.cell k _ (List.getElem?_eq_getElem hkl)
        have f0 := hN3.frozen k hkl
        generalize (isC l)[k] = old at *
        have HI2 : Hid (∀ j, j < k + 1 → (l.set k (mpV f dk ((k : Int) + 1))).getD j 0 = mpV f dk ((j : Nat) + 1 : Int)) := fun j hj => by
          rw [List.getD_eq_getElem?_getD]
          by_cases q : j = k
          · subst q; rw [List.getElem?_set_self (by omega)]; rfl
          · rw [List.getElem?_set_ne (fun e => q e.symm), ← List.getD_eq_getElem?_getD]; exact unhide HI j (by omega)
        generalize mpV f dk ((k : Int) + 1) = v at *
        have hN4 := hN3.setInt (k := k) (by omega) v
        have kz := keptC w3 (S + 1) k [.int .i64 v]
        have hC4 : CsAt (w3.setCell ⟨S + 1, k, none⟩ (.int .i64 v)) S (skC mb dk) := hC3.other (show S ≠ S + 1 by omega) k [.int .i64 v]
        have hM4 : MapAt (w3.setCell ⟨S + 1, k, none⟩ (.int .i64 v)) mb 6 f := hM3.keptL kz (by simp; omega)
        have hB4 : Below w.heap.size w (w3.setCell ⟨S + 1, k, none⟩ (.int .i64 v)) := hB3.setCell (show w.heap.size ≤ S + 1 by omega) _
        have hS4 : S + 2 ≤ (w3.setCell ⟨S + 1, k, none⟩ (.int .i64 v)).heap.size := by rw [World.size_setCell]; exact hS3
        have hl7 : (l.set k v).length = 6 := by rw [List.length_set]; exact hl6
        clear kz hN3 hC3 hM3 hB3
        go_wp2
        go_roundw
        case rel => exact ⟨k + 1, l.set k v, by omega, by first | rfl | go_num, hl7, HI2, hN4, hC4, hM4, hS4, hB4⟩
        case measure => simp [intOf]; omega
end Go.Proofs.Ytahloklmogkaeaa.StG
