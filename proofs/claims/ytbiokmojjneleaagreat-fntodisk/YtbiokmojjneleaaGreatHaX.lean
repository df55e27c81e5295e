/-
  Texts that belong together, one behind the other: StG, SpS.
-/
import Derived.Test.YtbiokmojjneleaaGreatHaW
import Derived.Test.YtbiokmojjneleaaGreatRaP

/-
  The program's StoreOk, StoreRead, StoreAll and StoreDirty.
-/
namespace Go.Proofs.YtbiokmojjneleaaGreat.StG
open Go.ChangeShapes Go.WideShapes Go.ChangeAt Go.RowKit Go.Shelf OkA Big Fl ImplB ImplF ImplS _root_.Go.Proofs.YtbiokmojjneleaaGreat.Own ImplT ImplU SpecA SpecB SpecC SpecD SpecW SpecF SpecG SpecH Ok2 Pl FindP ImplO SpecX SpecO ImplQ ImplW ImplL FindN FindL FindV FindQ Kp StA MpA StB StC StD StE StF
set_option linter.unusedVariables false
set_option linter.unusedSimpArgs false
attribute [local go_sem ↓] Go.wp_at_zero Go.wp_at_succ

theorem size7 {sk : List Value} (h : sk.length = 91) : (Tryz.prog.info? 78).map (·.size) = some sk.length := by rw [h]; kernel_rfl
theorem size7a {sk : List Value} (h : sk.length = 91) : (Tryz.prog.info? 78).map (·.size) = some sk.toArray.size := by rw [List.size_toArray]; exact size7 h
/-- A store lies there. -/
structure SAt (w : World) (fa : Option Addr) (bs : List Bk) (da : Option Addr) (dk : List Int) : Prop where
  fs : FsAt w fa bs
  ds : DkAt w da dk
theorem SAt.below {w w' : World} {fa : Option Addr} {bs : List Bk} {da : Option Addr} {dk : List Int} (h : SAt w fa bs da dk) (hb : Below w.heap.size w w') : SAt w' fa bs da dk := ⟨h.fs.below hb, h.ds.below hb⟩

set_option maxRecDepth 100000 in
set_option maxHeartbeats 1000000 in
theorem implOk_any (fa : Option Addr) (fc : Nat) (bs : List Bk) (da : Option Addr) (dc : Nat) (dk : List Int) (w : World) (h : SAt w fa bs da dk) (hm : bs.length ≤ 9223372036854775807) (hm2 : dk.length ≤ 9223372036854775807) :
    Calls Tryz.prog 24 #[.agg #[.slice fa bs.length fc, .slice da dk.length dc]] w fun e w' => e = .returned (.bool (stI bs dk)) ∧ Below w.heap.size w w' := by
  have B0 : Below w.heap.size w (w.alloc (.cells #[.slice fa bs.length fc, .slice da dk.length dc] 26)) := (Below.refl _ _).alloc (Nat.le_refl _) _
  have HC := hide (storeOf_any fa fc bs da dc dk _ (h.below B0).fs (h.below B0).ds hm hm2)
  clear h
  go_enter Tryz.func24, Tryz.ntmps24
  go_wp2_with fail
  refine (unhide HC).mono ?_
  rintro e w1 ⟨sk, rfl, hs7, hone, _, b1, _⟩
  have B1 := (B0.trans (b1.mono B0.size)).alloc (B0.trans (b1.mono B0.size)).size (.cells sk.toArray 78)
  have hsz : zSk.toArray.size = sk.toArray.size := by rw [List.size_toArray, List.size_toArray, hs7, len_zsk]
  go_wp2_with (first | (refine wpList_alloc_big rfl 78 rfl zSk.toArray zero_sk ?_) | (refine wpList_store_new rfl 78 _ _ rfl w1 zSk.toArray sk.toArray rfl rfl rfl (size7a hs7) hsz (all_oneCell_toArray hone) ?_))
  go_ret
  exact ⟨rfl, B1⟩

/-- What StoreRead answers, as the program reckons it. -/
def rdI (bs : List Bk) (dk : List Int) (addr : Int) : Int := if stI bs dk && inB addr 1 6 then mpV (mpF bs) dk addr else -1
set_option maxRecDepth 100000 in
set_option maxHeartbeats 1000000 in
theorem implRead_any (fa : Option Addr) (fc : Nat) (bs : List Bk) (da : Option Addr) (dc : Nat) (dk : List Int) (addr : Int) (w : World) (h : SAt w fa bs da dk) (hm : bs.length ≤ 9223372036854775807) (hm2 : dk.length ≤ 9223372036854775807) :
    Calls Tryz.prog 38 #[.agg #[.slice fa bs.length fc, .slice da dk.length dc], .int .i64 addr] w fun e w' => e = .returned (.int .i64 (rdI bs dk addr)) ∧ Below w.heap.size w w' := by
  have B0 : Below w.heap.size w (w.alloc (.cells #[.slice fa bs.length fc, .slice da dk.length dc] 26)) := (Below.refl _ _).alloc (Nat.le_refl _) _
  have HC := hide (storeOf_any fa fc bs da dc dk _ (h.below B0).fs (h.below B0).ds hm hm2)
  have HR : Hid (rdI bs dk addr = if stI bs dk && inB addr 1 6 then mpV (mpF bs) dk addr else -1) := rfl
  have HW := hide (fun (w' : World) => within_any addr 1 6 w')
  clear h
  generalize rdI bs dk addr = R at *
  go_enter Tryz.func38, Tryz.ntmps38
  go_wp2_with fail
  refine (unhide HC).mono ?_
  rintro e w1 ⟨sk, rfl, hs7, hone, hsk, b1, _⟩
  have bA : Below w1.heap.size w1 (w1.alloc (.cells sk.toArray 78)) := (Below.refl _ _).alloc (Nat.le_refl _) _
  have B1 := (B0.trans (b1.mono B0.size)).trans (bA.mono (B0.trans (b1.mono B0.size)).size)
  have hsz : zSk.toArray.size = sk.toArray.size := by rw [List.size_toArray, List.size_toArray, hs7, len_zsk]
  have rK := rangeAt_new w1 sk 78
  have HSK := hide (size7 hs7)
  clear B0 b1 HC
  cases hs : stI bs dk
  · have HE : Hid (R = -1) := by show _ = _; rw [unhide HR, hs]; rfl
    go_wp2_with (first | (refine wpList_alloc_big rfl 78 rfl zSk.toArray zero_sk ?_) | (refine wpList_store_new rfl 78 _ _ rfl w1 zSk.toArray sk.toArray rfl rfl rfl (size7a hs7) hsz (all_oneCell_toArray hone) ?_))
    go_ret
    exact ⟨by rw [unhide HE]; rfl, B1⟩
  · obtain ⟨mb, rfl, hok, hd6, hM⟩ := hsk hs
    have hM1 := hM.below bA hM.lt
    cases hin : inB addr 1 6
    · have HE : Hid (R = -1) := by show _ = _; rw [unhide HR, hs, hin]; rfl
      rw [hin] at HW
      go_wp2_with (first | (refine wpList_alloc_big rfl 78 rfl zSk.toArray zero_sk ?_) | (refine wpList_store_new rfl 78 _ _ rfl w1 zSk.toArray (skC bs mb dk).toArray rfl rfl rfl (size7a hs7) hsz (all_oneCell_toArray hone) ?_) | (go_at_call 67; refine (unhide HW _).mono ?_; rintro e w' ⟨rfl, rfl⟩))
      go_ret
      exact ⟨by rw [unhide HE]; rfl, B1⟩
    · have HE : Hid (R = mpV (mpF bs) dk addr) := by show _ = _; rw [unhide HR, hs, hin]; rfl
      rw [hin] at HW
      have ha : 1 ≤ addr ∧ addr ≤ 6 := by simpa [inB] using hin
      have HV := hide (value_any bs (ok_len hok) (ok_fours hok) mb 6 (mpF bs) dk hd6 addr ha.1 ha.2 _ hM1)
      rw [← unhide HE] at HV
      go_wp2_with (first | (refine wpList_alloc_big rfl 78 rfl zSk.toArray zero_sk ?_) | (refine wpList_store_new rfl 78 _ _ rfl w1 zSk.toArray (skC bs mb dk).toArray rfl rfl rfl (size7a hs7) hsz (all_oneCell_toArray hone) ?_) | (go_at_call 67; refine (unhide HW _).mono ?_; rintro e w' ⟨rfl, rfl⟩) | (refine wpList_load_mid rfl 78 _ rfl w1.heap.size 0 rfl (skC bs mb dk) _ rK Tryz.underlying78 rfl (unhide HSK) ?_))
      refine (unhide HV).mono ?_
      rintro e w3 ⟨rfl, b3⟩
      have B3 := B1.trans (b3.mono B1.size)
      clear rK HV
      go_wp2
      go_ret
      exact ⟨rfl, B3⟩

/-- Which addresses are dirty, as the program reckons them. -/
def dyI (bs : List Bk) (dk : List Int) : List Int := if stI bs dk then whK kindD (mpF bs) 6 else []
set_option maxRecDepth 100000 in
set_option maxHeartbeats 1000000 in
theorem implDirty_any (fa : Option Addr) (fc : Nat) (bs : List Bk) (da : Option Addr) (dc : Nat) (dk : List Int) (w : World) (h : SAt w fa bs da dk) (hm : bs.length ≤ 9223372036854775807) (hm2 : dk.length ≤ 9223372036854775807) :
    Calls Tryz.prog 39 #[.agg #[.slice fa bs.length fc, .slice da dk.length dc]] w fun e w' => IsPost w (dyI bs dk) e w' := by
  have B0 : Below w.heap.size w (w.alloc (.cells #[.slice fa bs.length fc, .slice da dk.length dc] 26)) := (Below.refl _ _).alloc (Nat.le_refl _) _
  have HC := hide (storeOf_any fa fc bs da dc dk _ (h.below B0).fs (h.below B0).ds hm hm2)
  have HR : Hid (dyI bs dk = if stI bs dk then whK kindD (mpF bs) 6 else []) := rfl
  clear h
  generalize dyI bs dk = R at *
  go_enter Tryz.func39, Tryz.ntmps39
  go_wp2_with fail
  refine (unhide HC).mono ?_
  rintro e w1 ⟨sk, rfl, hs7, hone, hsk, b1, _⟩
  have bA : Below w1.heap.size w1 (w1.alloc (.cells sk.toArray 78)) := (Below.refl _ _).alloc (Nat.le_refl _) _
  have B1 := (B0.trans (b1.mono B0.size)).trans (bA.mono (B0.trans (b1.mono B0.size)).size)
  have hsz : zSk.toArray.size = sk.toArray.size := by rw [List.size_toArray, List.size_toArray, hs7, len_zsk]
  have rK := rangeAt_new w1 sk 78
  have HSK := hide (size7 hs7)
  clear B0 b1 HC
  cases hs : stI bs dk
  · have HE : Hid (R = []) := by show _ = _; rw [unhide HR, hs]; rfl
    go_wp2_with (first | (refine wpList_alloc_big rfl 78 rfl zSk.toArray zero_sk ?_) | (refine wpList_store_new rfl 78 _ _ rfl w1 zSk.toArray sk.toArray rfl rfl rfl (size7a hs7) hsz (all_oneCell_toArray hone) ?_))
    go_ret
    exact ⟨_, rfl, by rw [unhide HE]; exact (Rw.nil _ _).new, B1⟩
  · obtain ⟨mb, rfl, hok, hd6, hM⟩ := hsk hs
    have hM1 := hM.below bA hM.lt
    have HE : Hid (R = whK kindD (mpF bs) 6) := by show _ = _; rw [unhide HR, hs]; rfl
    have HV := hide (whoseD_any bs (ok_len hok) (ok_fours hok) mb 6 (mpF bs) dk hd6 _ hM1)
    rw [← unhide HE] at HV
    go_wp2_with (first | (refine wpList_alloc_big rfl 78 rfl zSk.toArray zero_sk ?_) | (refine wpList_store_new rfl 78 _ _ rfl w1 zSk.toArray (skC bs mb dk).toArray rfl rfl rfl (size7a hs7) hsz (all_oneCell_toArray hone) ?_) | (refine wpList_load_mid rfl 78 _ rfl w1.heap.size 0 rfl (skC bs mb dk) _ rK Tryz.underlying78 rfl (unhide HSK) ?_))
    refine (unhide HV).mono ?_
    rintro e w3 ⟨v, rfl, hR, b3⟩
    have B3 := B1.trans (b3.mono B1.size)
    have hR3 := hR.mono B1.size
    clear rK HV hR
    go_wp2
    go_ret
    exact ⟨v, rfl, hR3.new, B3⟩

/-- All values, as the program reckons them. -/
def alI (bs : List Bk) (dk : List Int) : List Int := if stI bs dk then (List.range 6).map fun i => mpV (mpF bs) dk ((i : Nat) + 1 : Int) else []
theorem made6 : madeCells (Value.int .i64 0).cells (6 * 1) = (isC zDk6).toArray := by kernel_rfl
theorem _root_.Go.Proofs.YtbiokmojjneleaaGreat.ImplL.CsAt.setInt {w : World} {b k : Nat} {l : List Int} (h : CsAt w b (isC l)) (hk : k < l.length) (x : Int) : CsAt (w.setCell ⟨b, k, none⟩ (.int .i64 x)) b (isC (l.set k x)) := by
  have e : w.setCell ⟨b, k, none⟩ (.int .i64 x) = w.setCells b k [.int .i64 x] := rfl
  have ht : w.there b k 1 := by have := there_sub h.free k 1 (by rw [len_isC]; omega); rwa [Nat.zero_add] at this
  have hs : (isC (l.set k x)) = (isC l).set k (.int .i64 x) := by simp [isC, List.map_set]
  rw [e, hs]
  refine ⟨fun j v hv => ?_, by rw [List.length_set]; exact World.there_setCells h.free _ _ _⟩
  rw [Nat.zero_add]
  by_cases q : j = k
  · subst q
    rw [List.getElem?_set_self (by rw [len_isC]; exact hk)] at hv
    have := cell_setCells_eq (vs := [.int .i64 x]) ht 0 (by simp)
    rw [Nat.add_zero] at this
    rw [this]; simpa using hv
  · rw [List.getElem?_set_ne (fun e => q e.symm)] at hv
    rw [cell_setCells_ne (.inr (by simp; omega))]
    have := h.cells j v hv
    rwa [Nat.zero_add] at this

set_option maxRecDepth 100000 in
set_option maxHeartbeats 1000000 in
theorem implAll_any (fa : Option Addr) (fc : Nat) (bs : List Bk) (da : Option Addr) (dc : Nat) (dk : List Int) (w : World) (h : SAt w fa bs da dk) (hm : bs.length ≤ 9223372036854775807) (hm2 : dk.length ≤ 9223372036854775807) :
    Calls Tryz.prog 30 #[.agg #[.slice fa bs.length fc, .slice da dk.length dc]] w fun e w' => IsPost w (alI bs dk) e w' := by
  have B0 : Below w.heap.size w (w.alloc (.cells #[.slice fa bs.length fc, .slice da dk.length dc] 26)) := (Below.refl _ _).alloc (Nat.le_refl _) _
  have HC := hide (storeOf_any fa fc bs da dc dk _ (h.below B0).fs (h.below B0).ds hm hm2)
  have HR : Hid (alI bs dk = if stI bs dk then (List.range 6).map fun i => mpV (mpF bs) dk ((i : Nat) + 1 : Int) else []) := rfl
  clear h
  generalize alI bs dk = R at *
  go_enter Tryz.func30, Tryz.ntmps30
  go_wp2_with fail
  refine (unhide HC).mono ?_
  rintro e w1 ⟨sk, rfl, hs7, hone, hsk, b1, _⟩
  have bA : Below w1.heap.size w1 (w1.alloc (.cells sk.toArray 78)) := (Below.refl _ _).alloc (Nat.le_refl _) _
  have B1 := (B0.trans (b1.mono B0.size)).trans (bA.mono (B0.trans (b1.mono B0.size)).size)
  have hsz : zSk.toArray.size = sk.toArray.size := by rw [List.size_toArray, List.size_toArray, hs7, len_zsk]
  have HSK := hide (size7 hs7)
  have q1 : w.heap.size ≤ w1.heap.size := (B0.trans (b1.mono B0.size)).size
  clear B0 b1 HC
  cases hs : stI bs dk
  · have HE : Hid (R = []) := by show _ = _; rw [unhide HR, hs]; rfl
    go_wp2_with (first | (refine wpList_alloc_big rfl 78 rfl zSk.toArray zero_sk ?_) | (refine wpList_store_new rfl 78 _ _ rfl w1 zSk.toArray sk.toArray rfl rfl rfl (size7a hs7) hsz (all_oneCell_toArray hone) ?_))
    go_ret
    exact ⟨_, rfl, by rw [unhide HE]; exact .inl ⟨rfl, _, _, rfl⟩, B1⟩
  · obtain ⟨mb, rfl, hok, hd6, hM⟩ := hsk hs
    have hM1 := hM.below bA hM.lt
    have hml := hM.lt
    have HE : Hid (R = (List.range 6).map fun i => mpV (mpF bs) dk ((i : Nat) + 1 : Int)) := by show _ = _; rw [unhide HR, hs]; rfl
    have HV := hide (fun (k : Nat) (hk : k < 6) (w' : World) (h : MapAt w' mb 6 (mpF bs)) => value_any bs (ok_len hok) (ok_fours hok) mb 6 (mpF bs) dk hd6 ((k : Int) + 1) (by omega) (by omega) w' h)
    have cK := (CsAt.new w1 (skC bs mb dk) 78).alloc (by simp) (.cells (isC zDk6).toArray 3)
    have cN := CsAt.new (w1.alloc (.cells (skC bs mb dk).toArray 78)) (isC zDk6) 3
    rw [World.size_alloc] at cN
    have B2 := B1.alloc (by simp; omega) (.cells (isC zDk6).toArray 3)
    have hM2 := hM1.below ((Below.refl (w1.alloc (.cells (skC bs mb dk).toArray 78)).heap.size _).alloc (Nat.le_refl _) (.cells (isC zDk6).toArray 3)) hM1.lt
    have s2 : w1.heap.size + 2 ≤ ((w1.alloc (.cells (skC bs mb dk).toArray 78)).alloc (.cells (isC zDk6).toArray 3)).heap.size := by simp
    clear hM hM1 bA B1
    generalize mpF bs = f at *
    go_wp2_with (first | (refine wpList_alloc_big rfl 78 rfl zSk.toArray zero_sk ?_) | (refine wpList_store_new rfl 78 _ _ rfl w1 zSk.toArray (skC bs mb dk).toArray rfl rfl rfl (size7a hs7) hsz (all_oneCell_toArray hone) ?_) | (refine wpList_make_big rfl 24 _ _ rfl 6 rfl rfl 3 1 8 (.int .i64 0) Tryz.underlying24 made_int (by omega) (by omega) ?_; rw [made6]))
    generalize (w1.alloc (.cells (skC bs mb dk).toArray 78)).alloc (.cells (isC zDk6).toArray 3) = w2 at *
    generalize hK : w1.heap.size = S at *
    go_loopw [17] (fun i w' => ∃ (k : Nat) (l : List Int), k ≤ 6 ∧ i = .int .i64 k ∧ l.length = 6 ∧ Hid (∀ j, j < k → l.getD j 0 = mpV f dk ((j : Nat) + 1 : Int)) ∧ CsAt w' (S + 1) (isC l) ∧ CsAt w' S (skC bs mb dk) ∧ MapAt w' mb 6 f ∧ S + 2 ≤ w'.heap.size ∧ Below w.heap.size w w') (fun i _ => 6 - (intOf i).toNat)
    case atStart => exact ⟨0, zDk6, by omega, rfl, rfl, (fun j hj => by omega), cN, cK, hM2, s2, B2⟩
    case round =>
      clear cN cK hM2 s2 B2
      obtain ⟨k, l, hk, rfl, hl6, HI, hN, hC, hMm, hS, hB⟩ := hrel
      by_cases h0 : k = 6
      · subst h0
        have HL : Hid (R = l) := by
          show _ = _
          rw [unhide HE]
          apply List.ext_getElem (by simp [hl6])
          intro j h1 h2
          have := unhide HI j (by omega)
          rw [List.getD_eq_getElem?_getD, List.getElem?_eq_getElem h2] at this
          simp at this
          simp [this]
        have hlt : S + 1 < wr.heap.size := by omega
        go_wp2
        go_ret
        exact ⟨_, rfl, by rw [unhide HL]; exact .inr ⟨S + 1, 6, by rw [hl6]; rfl, by omega, hlt, hN⟩, hB⟩
      · have hk6 : k < 6 := by omega
        have hlt : (k : Int) < 6 := by omega
        have hlo : (0 : Int) ≤ (k : Int) := by omega
        have rK := hC.cells
        go_wp2_with (refine wpList_load_mid rfl 78 _ rfl S 0 rfl (skC bs mb dk) _ rK Tryz.underlying78 rfl (unhide HSK) ?_)
        refine (unhide HV k hk6 _ hMm).mono ?_
        rintro e w3 ⟨rfl, b3⟩
        have hN3 := hN.below b3 (by omega)
        have hC3 := hC.below b3 (by omega)
        have hM3 := hMm.below b3 hMm.lt
        have hB3 := hB.trans (b3.mono hB.size)
        have hS3 := Nat.le_trans hS b3.size
        clear rK hN hC hMm hB hS b3
        have hkl : k < (isC l).length := by rw [len_isC]; omega
        have x0 := hN3.cell k _ (List.getElem?_eq_getElem hkl)
        have f0 := hN3.frozen k hkl
        generalize (isC l)[k] = old at *
        have HI2 : Hid (∀ j, j < k + 1 → (l.set k (mpV f dk ((k : Int) + 1))).getD j 0 = mpV f dk ((j : Nat) + 1 : Int)) := fun j hj => by
          rw [List.getD_eq_getElem?_getD]
          by_cases q : j = k
          · subst q; rw [List.getElem?_set_self (by omega)]; rfl
          · rw [List.getElem?_set_ne (fun e => q e.symm), ← List.getD_eq_getElem?_getD]; exact unhide HI j (by omega)
        generalize mpV f dk ((k : Int) + 1) = v at *
        have hN4 := hN3.setInt (k := k) (by omega) v
        have kz := keptC w3 (S + 1) k [.int .i64 v]
        have hC4 : CsAt (w3.setCell ⟨S + 1, k, none⟩ (.int .i64 v)) S (skC bs mb dk) := hC3.other (show S ≠ S + 1 by omega) k [.int .i64 v]
        have hM4 : MapAt (w3.setCell ⟨S + 1, k, none⟩ (.int .i64 v)) mb 6 f := hM3.keptL kz (by simp; omega)
        have hB4 : Below w.heap.size w (w3.setCell ⟨S + 1, k, none⟩ (.int .i64 v)) := hB3.setCell (show w.heap.size ≤ S + 1 by omega) _
        have hS4 : S + 2 ≤ (w3.setCell ⟨S + 1, k, none⟩ (.int .i64 v)).heap.size := by rw [World.size_setCell]; exact hS3
        have hl7 : (l.set k v).length = 6 := by rw [List.length_set]; exact hl6
        clear kz hN3 hC3 hM3 hB3
        go_wp2
        go_roundw
        case rel => exact ⟨k + 1, l.set k v, by omega, by first | rfl | go_num, hl7, HI2, hN4, hC4, hM4, hS4, hB4⟩
        case measure => simp [intOf]; omega
end Go.Proofs.YtbiokmojjneleaaGreat.StG

/-
  The specification's StoreOk; it is what the program tells.
-/
namespace Go.Proofs.YtbiokmojjneleaaGreat.SpS
open Go.ChangeShapes Go.WideShapes Go.ChangeAt Go.RowKit Go.Shelf OkA Big Fl ImplB ImplF ImplS _root_.Go.Proofs.YtbiokmojjneleaaGreat.Own ImplT ImplU SpecA SpecB SpecC SpecD SpecW SpecF SpecG SpecH Ok2 Pl FindP ImplO SpecX SpecO ImplQ ImplW ImplL FindN FindL FindV FindQ Kp Gd StA MpA StB StC StD StE StF StG
set_option linter.unusedVariables false
set_option linter.unusedSimpArgs false
attribute [local go_sem ↓] Go.wp_at_zero Go.wp_at_succ
attribute [local go_sem] onlyIf_t onlyIf_f

/-- What is wrong with an address: its number on the slow disk, or that it is clean, and the slow disk has another value. -/
def badA (bs : List Bk) (dk : List Int) (i : Nat) : Bool := !inB (dk.getD i 0) 0 9 || (lastO bs ((i : Int) + 1) && (lastR bs ((i : Int) + 1)).k == 2 && (lastR bs ((i : Int) + 1)).v != dk.getD i 0)
/-- The store is ok. -/
def stB (bs : List Bk) (dk : List Int) : Bool := ordR bs && dk.length == 6 && (List.range 6).all fun i => !badA bs dk i

set_option maxRecDepth 100000 in
set_option maxHeartbeats 2000000 in
theorem specOk_st (fa : Option Addr) (fc : Nat) (bs : List Bk) (da : Option Addr) (dc : Nat) (dk : List Int) (w : World) (h : SAt w fa bs da dk) (hm : bs.length ≤ 1048576) (hp : ∀ b ∈ bs, b.ps.length ≤ 1048576) (hm2 : dk.length ≤ 1048576) :
    Calls Tryz.prog 29 #[.agg #[.slice fa bs.length fc, .slice da dk.length dc]] w fun e w' => e = .returned (.bool (stB bs dk)) ∧ Below w.heap.size w w' := by
  have B0 : Below w.heap.size w (w.alloc (.cells #[.slice fa bs.length fc, .slice da dk.length dc] 26)) := (Below.refl _ _).alloc (Nat.le_refl _) _
  have cS := store_box w (.slice fa bs.length fc) (.slice da dk.length dc)
  have s0 : w.heap.size < (w.alloc (.cells #[.slice fa bs.length fc, .slice da dk.length dc] 26)).heap.size := by simp
  have HA := hide (h.below B0)
  have HO := hide (specOrder_any fa fc bs _ (h.below B0).fs hm)
  have HLA := hide (fun (addr : Int) (w' : World) (h : FsAt w' fa bs) => SpecL.last_any fa fc bs addr w' h hm hp)
  have HR : Hid (stB bs dk = (ordR bs && dk.length == 6 && (List.range 6).all fun i => !badA bs dk i)) := rfl
  have hmi : (dk.length : Int) ≤ 1048576 := by omega
  have x0 := cS.cell 0 _ rfl
  clear h
  generalize stB bs dk = R at *
  generalize ordR bs = ob at *
  go_enter Tryz.func29, Tryz.ntmps29
  go_wp2_with fail
  generalize w.alloc (.cells #[.slice fa bs.length fc, .slice da dk.length dc] 26) = w0 at *
  refine (unhide HO).mono ?_
  rintro e w1 ⟨rfl, b1⟩
  have cS1 := cS.below b1 (by omega)
  have HA1 := hide ((unhide HA).below b1)
  have B1 := B0.trans (b1.mono B0.size)
  have s1 := Nat.lt_of_lt_of_le s0 b1.size
  have x1 := cS1.cell 1 _ rfl
  clear cS HA B0 b1 s0 x0
  cases ob
  · have HE : Hid (R = false) := by show _ = _; rw [unhide HR]; rfl
    go_wp2
    go_ret
    exact ⟨by rw [unhide HE]; rfl, B1⟩
  by_cases h6 : dk.length = 6
  rotate_left
  · have HE : Hid (R = false) := by show _ = _; rw [unhide HR]; simp [h6]
    have g6 : ((dk.length : Int) != 6) = true := by simp; omega
    go_wp2
    go_ret
    exact ⟨by rw [unhide HE]; rfl, B1⟩
  have g6 : ((dk.length : Int) != 6) = false := by simp; omega
  have HE : Hid (R = (List.range 6).all fun i => !badA bs dk i) := by show _ = _; rw [unhide HR, h6]; rfl
  obtain ⟨db, dof, rfl, hd⟩ : ∃ b o, da = some ⟨b, o, none⟩ ∧ w1.rangeAt b o (isC dk) := by
    rcases (unhide HA1).ds with rfl | h
    · simp at h6
    · exact h
  have HF := hide (unhide HA1).fs
  have HD := hide hd
  have hdl : db < w1.heap.size := cell_lt (isC_at hd 0 (by omega))
  clear hd HA1 HR
  rw [h6] at cS1 x1 ⊢
  go_wp2
  clear x1
  go_loopw [3] (fun i w' => ∃ k : Nat, k ≤ 6 ∧ i = .int .i64 k ∧ Hid (∀ j, j < k → badA bs dk j = false) ∧ Hid (Below w1.heap.size w1 w')) (fun i _ => 6 - (intOf i).toNat)
  case atStart => exact ⟨0, by omega, rfl, (fun j hj => by omega), Below.refl _ _⟩
  case round =>
    obtain ⟨k, hk, rfl, HI, HW⟩ := hrel
    have bw := unhide HW
    have B2 := B1.trans (bw.mono B1.size)
    by_cases h0 : k = 6
    · subst h0
      have HT : Hid (R = true) := by
        show _ = _
        rw [unhide HE, List.all_eq_true]
        intro j hj
        rw [unhide HI j (by simpa using hj)]; rfl
      clear bw
      go_wp2
      go_ret
      exact ⟨by rw [unhide HT]; rfl, B2⟩
    · have hk6 : k < 6 := by omega
      have hlt : (k : Int) < 6 := by omega
      have hlo : (0 : Int) ≤ (k : Int) := by omega
      have cS2 := cS1.below bw s1
      have y0 := cS2.cell 0 _ rfl
      have hl := unhide HLA ((k : Int) + 1) wr ((unhide HF).below bw)
      have HL := hide hl
      have HB : Hid (badA bs dk k = (!inB (dk.getD k 0) 0 9 || (lastO bs ((k : Int) + 1) && (lastR bs ((k : Int) + 1)).k == 2 && (lastR bs ((k : Int) + 1)).v != dk.getD k 0))) := rfl
      have dn := isC_at (rangeAt_below (unhide HD) bw hdl) k (by omega)
      have s2 := Nat.lt_of_lt_of_le s1 bw.size
      have hd2 := Nat.lt_of_lt_of_le hdl bw.size
      have HW6 := hide (fun (w' : World) => l6In_any (dk.getD k 0) 0 9 w')
      clear hl HW
      go_wp2_with fail
      refine (unhide HL).mono ?_
      rintro e w3 ⟨rfl, b3⟩
      have cS3 := cS2.below b3 s2
      rw [← b3.cell (p := ⟨db, dof + k, none⟩) hd2] at dn
      have bw3 := bw.trans (b3.mono bw.size)
      have q3 := b3.size
      clear HL b3 cS2 y0 bw
      generalize lastO bs ((k : Int) + 1) = o at *
      generalize lastR bs ((k : Int) + 1) = r at *
      have bA : Below w3.heap.size w3 (w3.alloc (.cells (rcC r).toArray 36)) := (Below.refl _ _).alloc (Nat.le_refl _) _
      have cX := CsAt.new w3 (rcC r) 36
      have cS4 := cS3.below bA (by omega)
      rw [← bA.cell (p := ⟨db, dof + k, none⟩) (by show db < _; omega)] at dn
      have bw4 := bw3.trans (bA.mono bw3.size)
      have s4 : w3.heap.size < (w3.alloc (.cells (rcC r).toArray 36)).heap.size := by simp
      rw [show (rcC r).toArray = #[.int .i64 r.k, .int .i64 r.s, .int .i64 r.a, .int .i64 r.v] from rfl] at *
      go_wp2
      generalize hW : w3.alloc (.cells #[.int .i64 r.k, .int .i64 r.s, .int .i64 r.a, .int .i64 r.v] 36) = W at *
      generalize w3.heap.size = Rb at *
      have hdb : db < W.heap.size := by omega
      have hsb : w.heap.size < W.heap.size := by omega
      have HC : Hid (∀ w', Below W.heap.size W w' → w'.cell? ⟨w.heap.size, 1, none⟩ = some (.slice (some ⟨db, dof, none⟩) 6 dc) ∧ w'.cell? ⟨db, dof + k, none⟩ = some (.int .i64 (dk.getD k 0)) ∧ w'.cell? ⟨Rb, 0, none⟩ = some (.int .i64 r.k) ∧ w'.cell? ⟨Rb, 3, none⟩ = some (.int .i64 r.v)) := fun w' hb =>
        ⟨by rw [hb.cell (p := ⟨w.heap.size, 1, none⟩) hsb]; exact cS4.cell 1 _ rfl, by rw [hb.cell (p := ⟨db, dof + k, none⟩) hdb]; exact dn, by rw [hb.cell (p := ⟨Rb, 0, none⟩) s4]; exact cX.cell 0 _ rfl, by rw [hb.cell (p := ⟨Rb, 3, none⟩) s4]; exact cX.cell 3 _ rfl⟩
      clear hW bA cX cS3 cS4 dn bw3
      generalize dk.getD k 0 = d at *
      generalize hkk : (r.k == 2) = kk at *
      generalize hvv : (r.v != d) = vv at *
      generalize hin : inB d 0 9 = q at *
      clear hin
      refine wp_region_noPanic ?_
      refine wp_region_held_drew (S := fun w' => Below W.heap.size W w') (by kernel_rfl) ((Below.refl _ _).drew) (fun hHeld => ?_)
      refine takeL 0 (.pointer (some ⟨w.heap.size, 1, none⟩)) rfl (by kernel_rfl) (by kernel_rfl) (by kernel_rfl) (fun _ _ _ h => h) (Or.inl ⟨rfl, fun w9 hSw => by go_simp⟩) hHeld ?_
      try simp only [Act.put, List.setIfInBounds_toArray, List.set_cons_zero, List.set_cons_succ]
      refine takeL 1 (.slice (some ⟨db, dof, none⟩) 6 dc) rfl (by kernel_rfl) (by kernel_rfl) (by kernel_rfl) (fun _ _ _ h => h) (Or.inl ⟨rfl, fun w9 hSw => by have hc := unhide HC _ hSw; have hc1 := hc.1; have hc2 := hc.2.1; have hc3 := hc.2.2.1; have hc4 := hc.2.2.2; clear hc; go_simp⟩) hHeld ?_
      try simp only [Act.put, List.setIfInBounds_toArray, List.set_cons_zero, List.set_cons_succ]
      refine takeL 2 (.int .i64 (k : Nat)) rfl (by kernel_rfl) (by kernel_rfl) (by kernel_rfl) (fun _ _ _ h => h) (Or.inl ⟨rfl, fun _ _ => rfl⟩) hHeld ?_
      try simp only [Act.put, List.setIfInBounds_toArray, List.set_cons_zero, List.set_cons_succ]
      refine takeL 3 (.pointer (some ⟨db, dof + k, none⟩)) rfl (by kernel_rfl) (by kernel_rfl) (by kernel_rfl) (fun _ _ _ h => h) (Or.inl ⟨rfl, fun w9 hSw => by go_simp⟩) hHeld ?_
      try simp only [Act.put, List.setIfInBounds_toArray, List.set_cons_zero, List.set_cons_succ]
      refine takeL 4 (.int .i64 d) rfl (by kernel_rfl) (by kernel_rfl) (by kernel_rfl) (fun _ _ _ h => h) (Or.inl ⟨rfl, fun w9 hSw => by have hc := unhide HC _ hSw; have hc1 := hc.1; have hc2 := hc.2.1; have hc3 := hc.2.2.1; have hc4 := hc.2.2.2; clear hc; go_simp⟩) hHeld ?_
      try simp only [Act.put, List.setIfInBounds_toArray, List.set_cons_zero, List.set_cons_succ]
      refine oneL 5 rfl (by kernel_rfl) rfl (fun K hK => ?_)
      go_simp
      refine (unhide HW6 _).mono ?_
      rintro e w9 ⟨rfl, hw9⟩
      obtain rfl := hw9.symm
      go_wp2_with fail
      refine hK.out _ _ hHeld (fun hHeld => ?_)
      clear hK K
      try simp only [Act.put, List.setIfInBounds_toArray, List.set_cons_zero, List.set_cons_succ]
      refine takeL 6 (.bool (!q)) rfl (by kernel_rfl) (by kernel_rfl) (by kernel_rfl) (fun _ _ _ h => h) (Or.inl ⟨rfl, fun w9 hSw => by go_simp⟩) hHeld ?_
      try simp only [Act.put, List.setIfInBounds_toArray, List.set_cons_zero, List.set_cons_succ]
      refine takeL 7 (.bool (!q)) rfl (by kernel_rfl) (by kernel_rfl) (by kernel_rfl) (fun _ _ _ h => h) (Or.inl ⟨rfl, fun _ _ => rfl⟩) hHeld ?_
      try simp only [Act.put, List.setIfInBounds_toArray, List.set_cons_zero, List.set_cons_succ]
      refine takeG 8 (q) (.bool o) rfl (by kernel_rfl) (by kernel_rfl) (by kernel_rfl) (fun _ _ _ h => h) (by cases q <;> rfl) (fun hb w9 hSw => by cases q <;> first | (cases hb; done) | (go_simp)) hHeld ?_
      try simp only [Act.put, List.setIfInBounds_toArray, List.set_cons_zero, List.set_cons_succ]
      refine takeG 9 (q) (.bool o) rfl (by kernel_rfl) (by kernel_rfl) (by kernel_rfl) (fun _ _ _ h => h) (by cases q <;> rfl) (fun hb w9 hSw => by cases q <;> first | (cases hb; done) | (go_simp)) hHeld ?_
      try simp only [Act.put, List.setIfInBounds_toArray, List.set_cons_zero, List.set_cons_succ]
      refine takeG 10 (q && o) (.pointer (some ⟨Rb, 0, none⟩)) rfl (by kernel_rfl) (by kernel_rfl) (by kernel_rfl) (fun _ _ _ h => h) (by cases q <;> cases o <;> rfl) (fun hb w9 hSw => by cases q <;> cases o <;> first | (cases hb; done) | (go_simp)) hHeld ?_
      try simp only [Act.put, List.setIfInBounds_toArray, List.set_cons_zero, List.set_cons_succ]
      refine takeG 11 (q && o) (.int .i64 r.k) rfl (by kernel_rfl) (by kernel_rfl) (by kernel_rfl) (fun _ _ _ h => h) (by cases q <;> cases o <;> rfl) (fun hb w9 hSw => by cases q <;> cases o <;> first | (cases hb; done) | (have hc := unhide HC _ hSw; have hc1 := hc.1; have hc2 := hc.2.1; have hc3 := hc.2.2.1; have hc4 := hc.2.2.2; clear hc; go_simp)) hHeld ?_
      try simp only [Act.put, List.setIfInBounds_toArray, List.set_cons_zero, List.set_cons_succ]
      refine takeG 12 (q && o) (.bool kk) rfl (by kernel_rfl) (by kernel_rfl) (by kernel_rfl) (fun _ _ _ h => h) (by cases q <;> cases o <;> rfl) (fun hb w9 hSw => by cases q <;> cases o <;> first | (cases hb; done) | (go_simp)) hHeld ?_
      try simp only [Act.put, List.setIfInBounds_toArray, List.set_cons_zero, List.set_cons_succ]
      refine takeG 13 (q) (.bool (o && kk)) rfl (by kernel_rfl) (by kernel_rfl) (by kernel_rfl) (fun _ _ _ h => h) (by cases q <;> cases o <;> rfl) (fun hb w9 hSw => by cases q <;> cases o <;> first | (cases hb; done) | (go_simp)) hHeld ?_
      try simp only [Act.put, List.setIfInBounds_toArray, List.set_cons_zero, List.set_cons_succ]
      refine takeG 14 (q) (.bool (o && kk)) rfl (by kernel_rfl) (by kernel_rfl) (by kernel_rfl) (fun _ _ _ h => h) (by cases q <;> rfl) (fun hb w9 hSw => by cases q <;> first | (cases hb; done) | (go_simp)) hHeld ?_
      try simp only [Act.put, List.setIfInBounds_toArray, List.set_cons_zero, List.set_cons_succ]
      refine takeG 15 (q && (o && kk)) (.pointer (some ⟨Rb, 3, none⟩)) rfl (by kernel_rfl) (by kernel_rfl) (by kernel_rfl) (fun _ _ _ h => h) (by cases q <;> cases o <;> cases kk <;> rfl) (fun hb w9 hSw => by cases q <;> cases o <;> cases kk <;> first | (cases hb; done) | (go_simp)) hHeld ?_
      try simp only [Act.put, List.setIfInBounds_toArray, List.set_cons_zero, List.set_cons_succ]
      refine takeG 16 (q && (o && kk)) (.int .i64 r.v) rfl (by kernel_rfl) (by kernel_rfl) (by kernel_rfl) (fun _ _ _ h => h) (by cases q <;> cases o <;> cases kk <;> rfl) (fun hb w9 hSw => by cases q <;> cases o <;> cases kk <;> first | (cases hb; done) | (have hc := unhide HC _ hSw; have hc1 := hc.1; have hc2 := hc.2.1; have hc3 := hc.2.2.1; have hc4 := hc.2.2.2; clear hc; go_simp)) hHeld ?_
      try simp only [Act.put, List.setIfInBounds_toArray, List.set_cons_zero, List.set_cons_succ]
      refine takeG 17 (q && (o && kk)) (.pointer (some ⟨w.heap.size, 1, none⟩)) rfl (by kernel_rfl) (by kernel_rfl) (by kernel_rfl) (fun _ _ _ h => h) (by cases q <;> cases o <;> cases kk <;> rfl) (fun hb w9 hSw => by cases q <;> cases o <;> cases kk <;> first | (cases hb; done) | (go_simp)) hHeld ?_
      try simp only [Act.put, List.setIfInBounds_toArray, List.set_cons_zero, List.set_cons_succ]
      refine takeG 18 (q && (o && kk)) (.slice (some ⟨db, dof, none⟩) 6 dc) rfl (by kernel_rfl) (by kernel_rfl) (by kernel_rfl) (fun _ _ _ h => h) (by cases q <;> cases o <;> cases kk <;> rfl) (fun hb w9 hSw => by cases q <;> cases o <;> cases kk <;> first | (cases hb; done) | (have hc := unhide HC _ hSw; have hc1 := hc.1; have hc2 := hc.2.1; have hc3 := hc.2.2.1; have hc4 := hc.2.2.2; clear hc; go_simp)) hHeld ?_
      try simp only [Act.put, List.setIfInBounds_toArray, List.set_cons_zero, List.set_cons_succ]
      refine takeG 19 (q && (o && kk)) (.int .i64 (k : Nat)) rfl (by kernel_rfl) (by kernel_rfl) (by kernel_rfl) (fun _ _ _ h => h) (by cases q <;> cases o <;> cases kk <;> rfl) (fun hb w9 hSw => by cases q <;> cases o <;> cases kk <;> first | (cases hb; done) | (go_simp)) hHeld ?_
      try simp only [Act.put, List.setIfInBounds_toArray, List.set_cons_zero, List.set_cons_succ]
      refine takeG 20 (q && (o && kk)) (.pointer (some ⟨db, dof + k, none⟩)) rfl (by kernel_rfl) (by kernel_rfl) (by kernel_rfl) (fun _ _ _ h => h) (by cases q <;> cases o <;> cases kk <;> rfl) (fun hb w9 hSw => by cases q <;> cases o <;> cases kk <;> first | (cases hb; done) | (go_simp)) hHeld ?_
      try simp only [Act.put, List.setIfInBounds_toArray, List.set_cons_zero, List.set_cons_succ]
      refine takeG 21 (q && (o && kk)) (.int .i64 d) rfl (by kernel_rfl) (by kernel_rfl) (by kernel_rfl) (fun _ _ _ h => h) (by cases q <;> cases o <;> cases kk <;> rfl) (fun hb w9 hSw => by cases q <;> cases o <;> cases kk <;> first | (cases hb; done) | (have hc := unhide HC _ hSw; have hc1 := hc.1; have hc2 := hc.2.1; have hc3 := hc.2.2.1; have hc4 := hc.2.2.2; clear hc; go_simp)) hHeld ?_
      try simp only [Act.put, List.setIfInBounds_toArray, List.set_cons_zero, List.set_cons_succ]
      refine takeG 22 (q && (o && kk)) (.bool vv) rfl (by kernel_rfl) (by kernel_rfl) (by kernel_rfl) (fun _ _ _ h => h) (by cases q <;> cases o <;> cases kk <;> rfl) (fun hb w9 hSw => by cases q <;> cases o <;> cases kk <;> first | (cases hb; done) | (go_simp)) hHeld ?_
      try simp only [Act.put, List.setIfInBounds_toArray, List.set_cons_zero, List.set_cons_succ]
      refine takeG 23 (q) (.bool (o && kk && vv)) rfl (by kernel_rfl) (by kernel_rfl) (by kernel_rfl) (fun _ _ _ h => h) (by cases q <;> cases o <;> cases kk <;> rfl) (fun hb w9 hSw => by cases q <;> cases o <;> cases kk <;> first | (cases hb; done) | (go_simp)) hHeld ?_
      try simp only [Act.put, List.setIfInBounds_toArray, List.set_cons_zero, List.set_cons_succ]
      refine takeL 24 (.bool (!q || (o && kk && vv))) rfl (by kernel_rfl) (by kernel_rfl) (by kernel_rfl) (fun _ _ _ h => h) (Or.inl ⟨rfl, fun w9 hSw => by cases q <;> (go_simp)⟩) hHeld ?_
      try simp only [Act.put, List.setIfInBounds_toArray, List.set_cons_zero, List.set_cons_succ]
      refine wpAnyH_done (by kernel_rfl) ?_ _
      refine NoPanic.normal ?_
      have B3 := B1.trans ((bw4.trans (hHeld.mono bw4.size)).mono B1.size)
      have HW2 := hide (bw4.trans (hHeld.mono bw4.size))
      rename_i W2 _
      clear hkk hvv hHeld bw4
      generalize (!q || (o && kk && vv)) = z at *
      cases z
      · have HI2 : Hid (∀ j, j < k + 1 → badA bs dk j = false) := fun j hj => by
          by_cases e : j = k
          · subst e; exact unhide HB
          · exact unhide HI j (by omega)
        go_wp2
        go_roundw
        case rel => exact ⟨k + 1, by omega, by first | rfl | go_num, HI2, HW2⟩
        case measure => simp [intOf]; omega
      · have HF2 : Hid (R = false) := by
          show _ = _
          rw [unhide HE]
          cases e : (List.range 6).all fun i => !badA bs dk i
          · rfl
          · rw [List.all_eq_true] at e
            have := e k (by simpa using hk6)
            rw [unhide HB] at this; cases this
        go_wp2
        go_ret
        exact ⟨by rw [unhide HF2]; rfl, B3⟩
end Go.Proofs.YtbiokmojjneleaaGreat.SpS
