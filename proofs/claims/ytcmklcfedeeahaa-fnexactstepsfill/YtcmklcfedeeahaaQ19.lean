/-
  Texts that belong together, one behind the other: StG, FindD, RmA, WrA.
-/
import Derived.Test.YtcmklcfedeeahaaQ18

/-
  The program's StoreOk, StoreRead, StoreAll and StoreDirty.
-/
namespace Go.Proofs.Ytcmklcfedeeahaa.StG
open Go.ChangeShapes Go.WideShapes Go.ChangeAt Go.RowKit Go.Shelf OkA Big Fl ImplB ImplF ImplS _root_.Go.Proofs.Ytcmklcfedeeahaa.Own ImplT ImplU SpecA SpecB SpecC SpecD SpecW SpecF SpecG SpecH Ok2 Pl FindP ImplO SpecX SpecO ImplQ ImplW ImplL FindN FindL FindV FindQ Kp StA MpA StB StC StD StE StF
set_option linter.unusedVariables false
set_option linter.unusedSimpArgs false
attribute [local go_sem ↓] Go.wp_at_zero Go.wp_at_succ

theorem size7 {sk : List Value} (h : sk.length = 91) : (Try.prog.info? 87).map (·.size) = some sk.length := by rw [h]; kernel_rfl
theorem size7a {sk : List Value} (h : sk.length = 91) : (Try.prog.info? 87).map (·.size) = some sk.toArray.size := by rw [List.size_toArray]; exact size7 h
/-- A store lies there. -/
structure SAt (w : World) (fa : Option Addr) (bs : List Bk) (da : Option Addr) (dk : List Int) : Prop where
  fs : FsAt w fa bs
  ds : DkAt w da dk
theorem SAt.below {w w' : World} {fa : Option Addr} {bs : List Bk} {da : Option Addr} {dk : List Int} (h : SAt w fa bs da dk) (hb : Below w.heap.size w w') : SAt w' fa bs da dk := ⟨h.fs.below hb, h.ds.below hb⟩

set_option maxRecDepth 100000 in
set_option maxHeartbeats 1000000 in
theorem implOk_any (fa : Option Addr) (fc : Nat) (bs : List Bk) (da : Option Addr) (dc : Nat) (dk : List Int) (w : World) (h : SAt w fa bs da dk) (hm : bs.length ≤ 9223372036854775807) (hm2 : dk.length ≤ 9223372036854775807) :
    Calls Try.prog 30 #[.agg #[.slice fa bs.length fc, .slice da dk.length dc]] w fun e w' => e = .returned (.bool (stI bs dk)) ∧ Below w.heap.size w w' := by
  have B0 : Below w.heap.size w (w.alloc (.cells #[.slice fa bs.length fc, .slice da dk.length dc] 25)) := (Below.refl _ _).alloc (Nat.le_refl _) _
  have HC := hide (storeOf_any fa fc bs da dc dk _ (h.below B0).fs (h.below B0).ds hm hm2)
  clear h
  go_enter Try.func30, Try.ntmps30
  go_wp2_with fail
  refine (unhide HC).mono ?_
  rintro e w1 ⟨sk, rfl, hs7, hone, _, b1, _⟩
  have B1 := (B0.trans (b1.mono B0.size)).alloc (B0.trans (b1.mono B0.size)).size (.cells sk.toArray 87)
  have hsz : zSk.toArray.size = sk.toArray.size := by rw [List.size_toArray, List.size_toArray, hs7, len_zsk]
  go_wp2_with (first | (refine wpList_alloc_big rfl 87 rfl zSk.toArray zero_sk ?_) | (refine wpList_store_new rfl 87 _ _ rfl w1 zSk.toArray sk.toArray rfl rfl rfl (size7a hs7) hsz (all_oneCell_toArray hone) ?_))
  go_ret
  exact ⟨rfl, B1⟩

/-- What StoreRead answers, as the program reckons it. -/
def rdI (bs : List Bk) (dk : List Int) (addr : Int) : Int := if stI bs dk && inB addr 1 6 then mpV (mpF bs) dk addr else -1
set_option maxRecDepth 100000 in
set_option maxHeartbeats 1000000 in
theorem implRead_any (fa : Option Addr) (fc : Nat) (bs : List Bk) (da : Option Addr) (dc : Nat) (dk : List Int) (addr : Int) (w : World) (h : SAt w fa bs da dk) (hm : bs.length ≤ 9223372036854775807) (hm2 : dk.length ≤ 9223372036854775807) :
    Calls Try.prog 32 #[.agg #[.slice fa bs.length fc, .slice da dk.length dc], .int .i64 addr] w fun e w' => e = .returned (.int .i64 (rdI bs dk addr)) ∧ Below w.heap.size w w' := by
  have B0 : Below w.heap.size w (w.alloc (.cells #[.slice fa bs.length fc, .slice da dk.length dc] 25)) := (Below.refl _ _).alloc (Nat.le_refl _) _
  have HC := hide (storeOf_any fa fc bs da dc dk _ (h.below B0).fs (h.below B0).ds hm hm2)
  have HR : Hid (rdI bs dk addr = if stI bs dk && inB addr 1 6 then mpV (mpF bs) dk addr else -1) := rfl
  have HW := hide (fun (w' : World) => within_any addr 1 6 w')
  clear h
  generalize rdI bs dk addr = R at *
  go_enter Try.func32, Try.ntmps32
  go_wp2_with fail
  refine (unhide HC).mono ?_
  rintro e w1 ⟨sk, rfl, hs7, hone, hsk, b1, _⟩
  have bA : Below w1.heap.size w1 (w1.alloc (.cells sk.toArray 87)) := (Below.refl _ _).alloc (Nat.le_refl _) _
  have B1 := (B0.trans (b1.mono B0.size)).trans (bA.mono (B0.trans (b1.mono B0.size)).size)
  have hsz : zSk.toArray.size = sk.toArray.size := by rw [List.size_toArray, List.size_toArray, hs7, len_zsk]
  have rK := rangeAt_new w1 sk 87
  have HSK := hide (size7 hs7)
  clear B0 b1 HC
  cases hs : stI bs dk
  · have HE : Hid (R = -1) := by show _ = _; rw [unhide HR, hs]; rfl
    go_wp2_with (first | (refine wpList_alloc_big rfl 87 rfl zSk.toArray zero_sk ?_) | (refine wpList_store_new rfl 87 _ _ rfl w1 zSk.toArray sk.toArray rfl rfl rfl (size7a hs7) hsz (all_oneCell_toArray hone) ?_))
    go_ret
    exact ⟨by rw [unhide HE]; rfl, B1⟩
  · obtain ⟨mb, rfl, hok, hd6, hM⟩ := hsk hs
    have hM1 := hM.below bA hM.lt
    cases hin : inB addr 1 6
    · have HE : Hid (R = -1) := by show _ = _; rw [unhide HR, hs, hin]; rfl
      rw [hin] at HW
      go_wp2_with (first | (refine wpList_alloc_big rfl 87 rfl zSk.toArray zero_sk ?_) | (refine wpList_store_new rfl 87 _ _ rfl w1 zSk.toArray (skC bs mb dk).toArray rfl rfl rfl (size7a hs7) hsz (all_oneCell_toArray hone) ?_) | (go_at_call 84; refine (unhide HW _).mono ?_; rintro e w' ⟨rfl, rfl⟩))
      go_ret
      exact ⟨by rw [unhide HE]; rfl, B1⟩
    · have HE : Hid (R = mpV (mpF bs) dk addr) := by show _ = _; rw [unhide HR, hs, hin]; rfl
      rw [hin] at HW
      have ha : 1 ≤ addr ∧ addr ≤ 6 := by simpa [inB] using hin
      have HV := hide (value_any bs (ok_len hok) (ok_fours hok) mb 6 (mpF bs) dk hd6 addr ha.1 ha.2 _ hM1)
      rw [← unhide HE] at HV
      go_wp2_with (first | (refine wpList_alloc_big rfl 87 rfl zSk.toArray zero_sk ?_) | (refine wpList_store_new rfl 87 _ _ rfl w1 zSk.toArray (skC bs mb dk).toArray rfl rfl rfl (size7a hs7) hsz (all_oneCell_toArray hone) ?_) | (go_at_call 84; refine (unhide HW _).mono ?_; rintro e w' ⟨rfl, rfl⟩) | (refine wpList_load_mid rfl 87 _ rfl w1.heap.size 0 rfl (skC bs mb dk) _ rK Try.underlying87 rfl (unhide HSK) ?_))
      refine (unhide HV).mono ?_
      rintro e w3 ⟨rfl, b3⟩
      have B3 := B1.trans (b3.mono B1.size)
      clear rK HV
      go_wp2
      go_ret
      exact ⟨rfl, B3⟩

/-- Which addresses are dirty, as the program reckons them. -/
def dyI (bs : List Bk) (dk : List Int) : List Int := if stI bs dk then whK kindD (mpF bs) 6 else []
set_option maxRecDepth 100000 in
set_option maxHeartbeats 1000000 in
theorem implDirty_any (fa : Option Addr) (fc : Nat) (bs : List Bk) (da : Option Addr) (dc : Nat) (dk : List Int) (w : World) (h : SAt w fa bs da dk) (hm : bs.length ≤ 9223372036854775807) (hm2 : dk.length ≤ 9223372036854775807) :
    Calls Try.prog 39 #[.agg #[.slice fa bs.length fc, .slice da dk.length dc]] w fun e w' => IsPost w (dyI bs dk) e w' := by
  have B0 : Below w.heap.size w (w.alloc (.cells #[.slice fa bs.length fc, .slice da dk.length dc] 25)) := (Below.refl _ _).alloc (Nat.le_refl _) _
  have HC := hide (storeOf_any fa fc bs da dc dk _ (h.below B0).fs (h.below B0).ds hm hm2)
  have HR : Hid (dyI bs dk = if stI bs dk then whK kindD (mpF bs) 6 else []) := rfl
  clear h
  generalize dyI bs dk = R at *
  go_enter Try.func39, Try.ntmps39
  go_wp2_with fail
  refine (unhide HC).mono ?_
  rintro e w1 ⟨sk, rfl, hs7, hone, hsk, b1, _⟩
  have bA : Below w1.heap.size w1 (w1.alloc (.cells sk.toArray 87)) := (Below.refl _ _).alloc (Nat.le_refl _) _
  have B1 := (B0.trans (b1.mono B0.size)).trans (bA.mono (B0.trans (b1.mono B0.size)).size)
  have hsz : zSk.toArray.size = sk.toArray.size := by rw [List.size_toArray, List.size_toArray, hs7, len_zsk]
  have rK := rangeAt_new w1 sk 87
  have HSK := hide (size7 hs7)
  clear B0 b1 HC
  cases hs : stI bs dk
  · have HE : Hid (R = []) := by show _ = _; rw [unhide HR, hs]; rfl
    go_wp2_with (first | (refine wpList_alloc_big rfl 87 rfl zSk.toArray zero_sk ?_) | (refine wpList_store_new rfl 87 _ _ rfl w1 zSk.toArray sk.toArray rfl rfl rfl (size7a hs7) hsz (all_oneCell_toArray hone) ?_))
    go_ret
    exact ⟨_, rfl, by rw [unhide HE]; exact (Rw.nil _ _).new, B1⟩
  · obtain ⟨mb, rfl, hok, hd6, hM⟩ := hsk hs
    have hM1 := hM.below bA hM.lt
    have HE : Hid (R = whK kindD (mpF bs) 6) := by show _ = _; rw [unhide HR, hs]; rfl
    have HV := hide (whoseD_any bs (ok_len hok) (ok_fours hok) mb 6 (mpF bs) dk hd6 _ hM1)
    rw [← unhide HE] at HV
    go_wp2_with (first | (refine wpList_alloc_big rfl 87 rfl zSk.toArray zero_sk ?_) | (refine wpList_store_new rfl 87 _ _ rfl w1 zSk.toArray (skC bs mb dk).toArray rfl rfl rfl (size7a hs7) hsz (all_oneCell_toArray hone) ?_) | (refine wpList_load_mid rfl 87 _ rfl w1.heap.size 0 rfl (skC bs mb dk) _ rK Try.underlying87 rfl (unhide HSK) ?_))
    refine (unhide HV).mono ?_
    rintro e w3 ⟨v, rfl, hR, b3⟩
    have B3 := B1.trans (b3.mono B1.size)
    have hR3 := hR.mono B1.size
    clear rK HV hR
    go_wp2
    go_ret
    exact ⟨v, rfl, hR3.new, B3⟩

/-- All values, as the program reckons them. -/
def alI (bs : List Bk) (dk : List Int) : List Int := if stI bs dk then (List.range 6).map fun i => mpV (mpF bs) dk ((i : Nat) + 1 : Int) else []
theorem made6 : madeCells (Value.int .i64 0).cells (6 * 1) = (isC zDk6).toArray := by kernel_rfl
theorem _root_.Go.Proofs.Ytcmklcfedeeahaa.ImplL.CsAt.setInt {w : World} {b k : Nat} {l : List Int} (h : CsAt w b (isC l)) (hk : k < l.length) (x : Int) : CsAt (w.setCell ⟨b, k, none⟩ (.int .i64 x)) b (isC (l.set k x)) := by
  have e : w.setCell ⟨b, k, none⟩ (.int .i64 x) = w.setCells b k [.int .i64 x] := rfl
  have ht : w.there b k 1 := by have := there_sub h.free k 1 (by rw [len_isC]; omega); rwa [Nat.zero_add] at this
  have hs : (isC (l.set k x)) = (isC l).set k (.int .i64 x) := by simp [isC, List.map_set]
  rw [e, hs]
  refine ⟨fun j v hv => ?_, by rw [List.length_set]; exact World.there_setCells h.free _ _ _⟩
  rw [Nat.zero_add]
  by_cases q : j = k
  · subst q
    rw [List.getElem?_set_self (by rw [len_isC]; exact hk)] at hv
    have := cell_setCells_eq (vs := [.int .i64 x]) ht 0 (by simp)
    rw [Nat.add_zero] at this
    rw [this]; simpa using hv
  · rw [List.getElem?_set_ne (fun e => q e.symm)] at hv
    rw [cell_setCells_ne (.inr (by simp; omega))]
    have := h.cells j v hv
    rwa [Nat.zero_add] at this

set_option maxRecDepth 100000 in
set_option maxHeartbeats 1000000 in
theorem implAll_any (fa : Option Addr) (fc : Nat) (bs : List Bk) (da : Option Addr) (dc : Nat) (dk : List Int) (w : World) (h : SAt w fa bs da dk) (hm : bs.length ≤ 9223372036854775807) (hm2 : dk.length ≤ 9223372036854775807) :
    Calls Try.prog 34 #[.agg #[.slice fa bs.length fc, .slice da dk.length dc]] w fun e w' => IsPost w (alI bs dk) e w' := by
  have B0 : Below w.heap.size w (w.alloc (.cells #[.slice fa bs.length fc, .slice da dk.length dc] 25)) := (Below.refl _ _).alloc (Nat.le_refl _) _
  have HC := hide (storeOf_any fa fc bs da dc dk _ (h.below B0).fs (h.below B0).ds hm hm2)
  have HR : Hid (alI bs dk = if stI bs dk then (List.range 6).map fun i => mpV (mpF bs) dk ((i : Nat) + 1 : Int) else []) := rfl
  clear h
  generalize alI bs dk = R at *
  go_enter Try.func34, Try.ntmps34
  go_wp2_with fail
  refine (unhide HC).mono ?_
  rintro e w1 ⟨sk, rfl, hs7, hone, hsk, b1, _⟩
  have bA : Below w1.heap.size w1 (w1.alloc (.cells sk.toArray 87)) := (Below.refl _ _).alloc (Nat.le_refl _) _
  have B1 := (B0.trans (b1.mono B0.size)).trans (bA.mono (B0.trans (b1.mono B0.size)).size)
  have hsz : zSk.toArray.size = sk.toArray.size := by rw [List.size_toArray, List.size_toArray, hs7, len_zsk]
  have HSK := hide (size7 hs7)
  have q1 : w.heap.size ≤ w1.heap.size := (B0.trans (b1.mono B0.size)).size
  clear B0 b1 HC
  cases hs : stI bs dk
  · have HE : Hid (R = []) := by show _ = _; rw [unhide HR, hs]; rfl
    go_wp2_with (first | (refine wpList_alloc_big rfl 87 rfl zSk.toArray zero_sk ?_) | (refine wpList_store_new rfl 87 _ _ rfl w1 zSk.toArray sk.toArray rfl rfl rfl (size7a hs7) hsz (all_oneCell_toArray hone) ?_))
    go_ret
    exact ⟨_, rfl, by rw [unhide HE]; exact .inl ⟨rfl, _, _, rfl⟩, B1⟩
  · obtain ⟨mb, rfl, hok, hd6, hM⟩ := hsk hs
    have hM1 := hM.below bA hM.lt
    have hml := hM.lt
    have HE : Hid (R = (List.range 6).map fun i => mpV (mpF bs) dk ((i : Nat) + 1 : Int)) := by show _ = _; rw [unhide HR, hs]; rfl
    have HV := hide (fun (k : Nat) (hk : k < 6) (w' : World) (h : MapAt w' mb 6 (mpF bs)) => value_any bs (ok_len hok) (ok_fours hok) mb 6 (mpF bs) dk hd6 ((k : Int) + 1) (by omega) (by omega) w' h)
    have cK := (CsAt.new w1 (skC bs mb dk) 87).alloc (by simp) (.cells (isC zDk6).toArray 3)
    have cN := CsAt.new (w1.alloc (.cells (skC bs mb dk).toArray 87)) (isC zDk6) 3
    rw [World.size_alloc] at cN
    have B2 := B1.alloc (by simp; omega) (.cells (isC zDk6).toArray 3)
    have hM2 := hM1.below ((Below.refl (w1.alloc (.cells (skC bs mb dk).toArray 87)).heap.size _).alloc (Nat.le_refl _) (.cells (isC zDk6).toArray 3)) hM1.lt
    have s2 : w1.heap.size + 2 ≤ ((w1.alloc (.cells (skC bs mb dk).toArray 87)).alloc (.cells (isC zDk6).toArray 3)).heap.size := by simp
    clear hM hM1 bA B1
    generalize mpF bs = f at *
    go_wp2_with (first | (refine wpList_alloc_big rfl 87 rfl zSk.toArray zero_sk ?_) | (refine wpList_store_new rfl 87 _ _ rfl w1 zSk.toArray (skC bs mb dk).toArray rfl rfl rfl (size7a hs7) hsz (all_oneCell_toArray hone) ?_) | (refine wpList_make_big rfl 23 _ _ rfl 6 rfl rfl 3 1 8 (.int .i64 0) Try.underlying23 made_int (by omega) (by omega) ?_; rw [made6]))
    generalize (w1.alloc (.cells (skC bs mb dk).toArray 87)).alloc (.cells (isC zDk6).toArray 3) = w2 at *
    generalize hK : w1.heap.size = S at *
    go_loopw [17] (fun i w' => ∃ (k : Nat) (l : List Int), k ≤ 6 ∧ i = .int .i64 k ∧ l.length = 6 ∧ Hid (∀ j, j < k → l.getD j 0 = mpV f dk ((j : Nat) + 1 : Int)) ∧ CsAt w' (S + 1) (isC l) ∧ CsAt w' S (skC bs mb dk) ∧ MapAt w' mb 6 f ∧ S + 2 ≤ w'.heap.size ∧ Below w.heap.size w w') (fun i _ => 6 - (intOf i).toNat)
    case atStart => exact ⟨0, zDk6, by omega, rfl, rfl, (fun j hj => by omega), cN, cK, hM2, s2, B2⟩
    case round =>
      clear cN cK hM2 s2 B2
      obtain ⟨k, l, hk, rfl, hl6, HI, hN, hC, hMm, hS, hB⟩ := hrel
      by_cases h0 : k = 6
      · subst h0
        have HL : Hid (R = l) := by
          show _ = _
          rw [unhide HE]
          apply List.ext_getElem (by simp [hl6])
          intro j h1 h2
          have := unhide HI j (by omega)
          rw [List.getD_eq_getElem?_getD, List.getElem?_eq_getElem h2] at this
          simp at this
          simp [this]
        have hlt : S + 1 < wr.heap.size := by omega
        go_wp2
        go_ret
        exact ⟨_, rfl, by rw [unhide HL]; exact .inr ⟨S + 1, 6, by rw [hl6]; rfl, by omega, hlt, hN⟩, hB⟩
      · have hk6 : k < 6 := by omega
        have hlt : (k : Int) < 6 := by omega
        have hlo : (0 : Int) ≤ (k : Int) := by omega
        have rK := hC.cells
        go_wp2_with (refine wpList_load_mid rfl 87 _ rfl S 0 rfl (skC bs mb dk) _ rK Try.underlying87 rfl (unhide HSK) ?_)
        refine (unhide HV k hk6 _ hMm).mono ?_
        rintro e w3 ⟨rfl, b3⟩
        have hN3 := hN.below b3 (by omega)
        have hC3 := hC.below b3 (by omega)
        have hM3 := hMm.below b3 hMm.lt
        have hB3 := hB.trans (b3.mono hB.size)
        have hS3 := Nat.le_trans hS b3.size
        clear rK hN hC hMm hB hS b3
        have hkl : k < (isC l).length := by rw [len_isC]; omega
        have x0 := hN3.cell k _ (List.getElem?_eq_getElem hkl)
        have f0 := hN3.frozen k hkl
        generalize (isC l)[k] = old at *
        have HI2 : Hid (∀ j, j < k + 1 → (l.set k (mpV f dk ((k : Int) + 1))).getD j 0 = mpV f dk ((j : Nat) + 1 : Int)) := fun j hj => by
          rw [List.getD_eq_getElem?_getD]
          by_cases q : j = k
          · subst q; rw [List.getElem?_set_self (by omega)]; rfl
          · rw [List.getElem?_set_ne (fun e => q e.symm), ← List.getD_eq_getElem?_getD]; exact unhide HI j (by omega)
        generalize mpV f dk ((k : Int) + 1) = v at *
        have hN4 := hN3.setInt (k := k) (by omega) v
        have kz := keptC w3 (S + 1) k [.int .i64 v]
        have hC4 : CsAt (w3.setCell ⟨S + 1, k, none⟩ (.int .i64 v)) S (skC bs mb dk) := hC3.other (show S ≠ S + 1 by omega) k [.int .i64 v]
        have hM4 : MapAt (w3.setCell ⟨S + 1, k, none⟩ (.int .i64 v)) mb 6 f := hM3.keptL kz (by simp; omega)
        have hB4 : Below w.heap.size w (w3.setCell ⟨S + 1, k, none⟩ (.int .i64 v)) := hB3.setCell (show w.heap.size ≤ S + 1 by omega) _
        have hS4 : S + 2 ≤ (w3.setCell ⟨S + 1, k, none⟩ (.int .i64 v)).heap.size := by rw [World.size_setCell]; exact hS3
        have hl7 : (l.set k v).length = 6 := by rw [List.length_set]; exact hl6
        clear kz hN3 hC3 hM3 hB3
        go_wp2
        go_roundw
        case rel => exact ⟨k + 1, l.set k v, by omega, by first | rfl | go_num, hl7, HI2, hN4, hC4, hM4, hS4, hB4⟩
        case measure => simp [intOf]; omega
end Go.Proofs.Ytcmklcfedeeahaa.StG

/-
  FindOld, of the program and of the specification: both answer the same.
-/
namespace Go.Proofs.Ytcmklcfedeeahaa.FindD
open Go.ChangeShapes Go.WideShapes Go.ChangeAt Go.RowKit Go.Shelf OkA Big Fl ImplB ImplF ImplS _root_.Go.Proofs.Ytcmklcfedeeahaa.Own ImplT ImplU SpecA SpecB SpecC SpecD SpecW SpecF SpecG SpecH Ok2 Pl FindP ImplO SpecX ImplL ImplN ImplM FindN
set_option linter.unusedVariables false
set_option linter.unusedSimpArgs false
attribute [local go_sem ↓] Go.wp_at_zero Go.wp_at_succ

/-- What FindOld answers. -/
def oldR (bs : List Bk) : Int := if okB bs then ((oldN bs 3 : Nat) : Int) else -1
/-- The eldest of the first k blocks. -/
def oldK (bs : List Bk) (k : Nat) : Nat := if k = 0 then 0 else oldN bs (k - 1)
theorem oldK_lt (bs : List Bk) (k : Nat) (hk : k ≤ 4) : oldK bs k < 4 := by
  unfold oldK; split
  · omega
  · have := oldN_le bs (k - 1); omega
theorem spAt (L : List Sp) (i : Nat) (hi : i < L.length) : L.getD i (0, 0) = L[i] := by rw [List.getD_eq_getElem?_getD, List.getElem?_eq_getElem hi]; rfl
theorem oldK_step (bs : List Bk) (L : List Sp) (h4 : bs.length = 4) (hL : L.length = 4) (hm : ∀ i (hi : i < 4), L[i].2 = mostN (bs[i]'(by omega)).ps) (k : Nat) (hk : k < 4) :
    oldK bs (k + 1) = if L[k].2 < (L.getD (oldK bs k) (0, 0)).2 then k else oldK bs k := by
  have ho := oldK_lt bs k (by omega)
  rw [spAt L _ (by omega), hm k hk, hm _ ho]
  cases k with
  | zero => simp [oldK, oldN]
  | succ k =>
    have e1 : oldK bs (k + 1) = oldN bs k := by simp [oldK]
    have e2 : oldK bs (k + 1 + 1) = oldN bs (k + 1) := by simp [oldK]
    have ho2 : oldN bs k < bs.length := by have := oldN_le bs k; omega
    rw [e2]
    simp only [e1, oldN]
    rw [getD_at bs (k + 1) (by omega), getD_at bs _ ho2]

set_option maxRecDepth 100000 in
set_option maxHeartbeats 400000 in
theorem specOld_any (a : Option Addr) (cap : Nat) (bs : List Bk) (w : World) (hf : FsAt w a bs) (hm : bs.length ≤ 1048576) (hp : ∀ b ∈ bs, b.ps.length ≤ 1048576) :
    Calls Try.prog 74 #[.slice a bs.length cap] w fun e w' => e = .returned (.int .i64 (oldR bs)) ∧ Below w.heap.size w w' := by
  have HC := hide (specFlashOk_any a cap bs w hf hm)
  have HF := hide hf
  clear hf
  have HR : Hid (oldR bs = if okB bs then ((oldN bs 3 : Nat) : Int) else -1) := rfl
  generalize oldR bs = R at *
  cases hok : okB bs
  · rw [hok] at HC HR
    go_enter Try.func74, Try.ntmps74
    go_wp2_with fail
    refine (unhide HC).mono ?_
    rintro e w1 ⟨rfl, b1⟩
    go_wp2
    go_ret
    exact ⟨by rw [unhide HR]; rfl, b1⟩
  · have HW : Hid (oldN bs (bs.length - 1) = oldN bs 3) := by show _ = _; rw [ok_len hok]
    have hpos := hide (show 0 < bs.length by rw [ok_len hok]; omega)
    rw [hok] at HC HR
    rw [if_pos rfl] at HR
    go_enter Try.func74, Try.ntmps74
    go_wp2_with fail
    refine (unhide HC).mono ?_
    rintro e w1 ⟨rfl, b1⟩
    go_wp2_with fail
    refine (old_any a cap bs _ ((unhide HF).below b1) hm hp (unhide hpos)).mono ?_
    rintro e w2 ⟨rfl, b2⟩
    rw [unhide HW, ← unhide HR]
    go_wp2
    go_ret
    exact ⟨rfl, b1.trans (b2.mono b1.size)⟩

set_option maxRecDepth 100000 in
set_option maxHeartbeats 1000000 in
theorem oldK_any (ks : List Bk) (hok : okB ks = true) (w : World) :
    Calls Try.prog 122 #[.agg (fsC ks).toArray] w fun e w' => e = .returned (.int .i64 ((oldN ks 3 : Nat) : Int)) ∧ Below w.heap.size w w' := by
  have hk4 := ok_len hok
  have hkF := ok_fours hok
  have r1 := rangeAt_new w (fsC ks) 82
  have B1 : Below w.heap.size w (w.alloc (.cells (fsC ks).toArray 82)) := (Below.refl _ _).alloc (Nat.le_refl _) _
  have HM : Hid (∀ i (hi : i < 4), ((ks.map spB)[i]'(by rw [List.length_map]; omega)).2 = mostN (ks[i]'(by omega)).ps) := fun i hi => by
    rw [List.getElem_map, (spB_eq (ok_pages hok _ (List.getElem_mem _))).1]
  clear hok
  go_enter Try.func122, Try.ntmps122
  go_wp2_with (first | (refine wpList_box_big rfl _ _ rfl (fsC ks).toArray rfl ?_) | (refine wpList_load_mid rfl 82 _ rfl w.heap.size 0 rfl (fsC ks) _ r1 Try.underlying82 rfl (size_fsl hkF hk4) ?_))
  refine (callsIn_wide.1 (spans_in ks hk4 hkF _)).mono ?_
  rintro e w2 ⟨rfl, b2⟩
  clear r1
  have hl4 : (ks.map spB).length = 4 := by rw [List.length_map, hk4]
  have HST := hide (oldK_step ks (ks.map spB) hk4 hl4 (unhide HM))
  have HL0 : Hid (oldK ks 0 = 0) := rfl
  have HL4 : Hid (oldK ks 4 = oldN ks 3) := rfl
  clear HM
  generalize ks.map spB = L at *
  have B2 := B1.trans (b2.mono B1.size)
  have B3 := B2.alloc B2.size (.cells (spsC L).toArray 148)
  have cL := CsAt.new w2 (spsC L) 148
  have HS1 := hide (size_sps hl4)
  have HS2 : Hid ((Try.prog.info? 148).map (·.size) = some (spsC L).toArray.size) := by show _ = _; rw [List.size_toArray]; exact unhide HS1
  have HO := hide (one_sps L)
  have hszL : (spsC zSp).toArray.size = (spsC L).toArray.size := by rw [List.size_toArray, List.size_toArray, len_spsC, len_spsC, hl4]; rfl
  clear B1 b2
  have rL := cL.cells
  go_wp2_with (first | (refine wpList_alloc_big rfl 148 rfl (spsC zSp).toArray (by kernel_rfl) ?_) | (refine wpList_store_new rfl 148 _ _ rfl w2 (spsC zSp).toArray (spsC L).toArray rfl rfl rfl (unhide HS2) hszL (unhide HO) ?_) | (refine wpList_load_mid rfl 148 _ rfl w2.heap.size 0 rfl (spsC L) _ rL Try.underlying148 rfl (unhide HS1) ?_))
  clear rL
  have hs3 : w2.heap.size < (w2.alloc (.cells (spsC L).toArray 148)).heap.size := by simp
  generalize hw3 : w2.alloc (.cells (spsC L).toArray 148) = w3 at *
  generalize hsb : w2.heap.size = sb at *
  clear hw3 hsb
  go_loopw [4, 10] (fun o i w' => ∃ k : Nat, k ≤ 4 ∧ i = .int .i64 k ∧ o = .int .i64 (oldK ks k : Nat) ∧ CsAt w' sb (spsC L) ∧ sb < w'.heap.size ∧ Below w.heap.size w w') (fun _ i _ => 4 - (intOf i).toNat)
  case atStart => exact ⟨0, by omega, rfl, by rw [unhide HL0]; rfl, cL, hs3, B3⟩
  case round =>
    clear cL hs3 B3 B2
    obtain ⟨k, hk, rfl, rfl, hL, hsl, hB⟩ := hrel
    by_cases h0 : k = 4
    · subst h0
      go_wp2
      go_ret
      exact ⟨by rw [← unhide HL4]; rfl, hB⟩
    · have hlt : (k : Int) < 4 := by omega
      have hkb : k < L.length := by omega
      have hlo : (0 : Int) ≤ (k : Int) := by omega
      have HE := hide (ext_sps L k hkb)
      have HT := hide (unhide HST k (by omega))
      have hok := oldK_lt ks k hk
      have hBz := hB.size
      generalize oldK ks k = o at *
      have hob : o < L.length := by omega
      have ho0 : (0 : Int) ≤ (o : Int) := by omega
      have ho4 : (o : Int) < 4 := by omega
      rw [spAt L o hob] at HT
      have HO2 := hide (csSpan hL o hob 1 _ rfl)
      generalize L[k] = x at *
      generalize L[o] = y at *
      have cX := CsAt.new wr [.int .i64 x.1, .int .i64 x.2] 147
      have cL2 := hL.alloc hsl (.cells #[.int .i64 x.1, .int .i64 x.2] 147)
      have hB2 := hB.alloc hBz (.cells #[.int .i64 x.1, .int .i64 x.2] 147)
      have cY : (wr.alloc (.cells #[.int .i64 x.1, .int .i64 x.2] 147)).cell? ⟨sb, o * 2 + 1, none⟩ = some (.int .i64 y.2) := by
        rw [World.cell?_alloc_lt _ _ _ hsl]; exact unhide HO2
      have hs2 : sb < (wr.alloc (.cells #[.int .i64 x.1, .int .i64 x.2] 147)).heap.size := by simp; omega
      clear HO2
      go_wp2_with (refine wpList_index_big rfl 148 _ _ rfl (spsC L).toArray _ (k : Int) rfl rfl 147 4 2 _ Try.underlying148 Try.underlying147 rfl (by kernel_rfl) hlo hlt (unhide HE) ?_)
      generalize hbb : wr.heap.size = Bx at *
      generalize wr.alloc (.cells #[.int .i64 x.1, .int .i64 x.2] 147) = w5 at *
      have cx1 := cX.cell 1 _ rfl
      by_cases hxy : x.2 < y.2
      · have hd : decide (x.2 < y.2) = true := by simpa using hxy
        rw [if_pos hxy] at HT
        clear hxy
        refine wp_region_noPanic ?_
        refine wp_region_held_drew (S := fun w' => w'.cell? ⟨Bx, 1, none⟩ = some (.int .i64 x.2) ∧ w'.cell? ⟨sb, o * 2 + 1, none⟩ = some (.int .i64 y.2)) (by kernel_rfl) (⟨by simpa using cx1, by simpa using cY⟩) (fun hHeld => ?_)
        refine takeL 0 (.pointer (some ⟨Bx, 1, none⟩)) rfl (by kernel_rfl) (by kernel_rfl) (by kernel_rfl) (fun _ _ _ h => h) (Or.inl ⟨rfl, fun w9 hSw => by go_simp⟩) hHeld ?_
        try simp only [Act.put, List.setIfInBounds_toArray, List.set_cons_zero, List.set_cons_succ]
        refine takeL 1 (.int .i64 x.2) rfl (by kernel_rfl) (by kernel_rfl) (by kernel_rfl) (fun _ _ _ h => h) (Or.inl ⟨rfl, fun w9 hSw => by have hc := hSw.1; go_simp⟩) hHeld ?_
        try simp only [Act.put, List.setIfInBounds_toArray, List.set_cons_zero, List.set_cons_succ]
        refine takeL 2 (.int .i64 (o : Nat)) rfl (by kernel_rfl) (by kernel_rfl) (by kernel_rfl) (fun _ _ _ h => h) (Or.inl ⟨rfl, fun _ _ => rfl⟩) hHeld ?_
        try simp only [Act.put, List.setIfInBounds_toArray, List.set_cons_zero, List.set_cons_succ]
        refine takeL 3 (.pointer (some ⟨sb, o * 2, none⟩)) rfl (by kernel_rfl) (by kernel_rfl) (by kernel_rfl) (fun _ _ _ h => h) (Or.inl ⟨rfl, fun w9 hSw => by go_simp⟩) hHeld ?_
        try simp only [Act.put, List.setIfInBounds_toArray, List.set_cons_zero, List.set_cons_succ]
        refine takeL 4 (.pointer (some ⟨sb, o * 2 + 1, none⟩)) rfl (by kernel_rfl) (by kernel_rfl) (by kernel_rfl) (fun _ _ _ h => h) (Or.inl ⟨rfl, fun w9 hSw => by go_simp⟩) hHeld ?_
        try simp only [Act.put, List.setIfInBounds_toArray, List.set_cons_zero, List.set_cons_succ]
        refine takeL 5 (.int .i64 y.2) rfl (by kernel_rfl) (by kernel_rfl) (by kernel_rfl) (fun _ _ _ h => h) (Or.inl ⟨rfl, fun w9 hSw => by have hc := hSw.2; go_simp⟩) hHeld ?_
        try simp only [Act.put, List.setIfInBounds_toArray, List.set_cons_zero, List.set_cons_succ]
        refine takeL 6 (.bool true) rfl (by kernel_rfl) (by kernel_rfl) (by kernel_rfl) (fun _ _ _ h => h) (Or.inl ⟨rfl, fun w9 hSw => by go_simp⟩) hHeld ?_
        try simp only [Act.put, List.setIfInBounds_toArray, List.set_cons_zero, List.set_cons_succ]
        refine wpAnyH_done (by kernel_rfl) ?_ _
        refine NoPanic.normal ?_
        clear hHeld
        go_wp2
        go_roundw
        case rel => exact ⟨k + 1, by omega, by first | rfl | go_num, by rw [unhide HT], csAt_drew cL2, hs2, hB2.drew⟩
        case measure => simp [intOf]; omega
      · have hd : decide (x.2 < y.2) = false := by simpa using hxy
        rw [if_neg hxy] at HT
        clear hxy
        refine wp_region_noPanic ?_
        refine wp_region_held_drew (S := fun w' => w'.cell? ⟨Bx, 1, none⟩ = some (.int .i64 x.2) ∧ w'.cell? ⟨sb, o * 2 + 1, none⟩ = some (.int .i64 y.2)) (by kernel_rfl) (⟨by simpa using cx1, by simpa using cY⟩) (fun hHeld => ?_)
        refine takeL 0 (.pointer (some ⟨Bx, 1, none⟩)) rfl (by kernel_rfl) (by kernel_rfl) (by kernel_rfl) (fun _ _ _ h => h) (Or.inl ⟨rfl, fun w9 hSw => by go_simp⟩) hHeld ?_
        try simp only [Act.put, List.setIfInBounds_toArray, List.set_cons_zero, List.set_cons_succ]
        refine takeL 1 (.int .i64 x.2) rfl (by kernel_rfl) (by kernel_rfl) (by kernel_rfl) (fun _ _ _ h => h) (Or.inl ⟨rfl, fun w9 hSw => by have hc := hSw.1; go_simp⟩) hHeld ?_
        try simp only [Act.put, List.setIfInBounds_toArray, List.set_cons_zero, List.set_cons_succ]
        refine takeL 2 (.int .i64 (o : Nat)) rfl (by kernel_rfl) (by kernel_rfl) (by kernel_rfl) (fun _ _ _ h => h) (Or.inl ⟨rfl, fun _ _ => rfl⟩) hHeld ?_
        try simp only [Act.put, List.setIfInBounds_toArray, List.set_cons_zero, List.set_cons_succ]
        refine takeL 3 (.pointer (some ⟨sb, o * 2, none⟩)) rfl (by kernel_rfl) (by kernel_rfl) (by kernel_rfl) (fun _ _ _ h => h) (Or.inl ⟨rfl, fun w9 hSw => by go_simp⟩) hHeld ?_
        try simp only [Act.put, List.setIfInBounds_toArray, List.set_cons_zero, List.set_cons_succ]
        refine takeL 4 (.pointer (some ⟨sb, o * 2 + 1, none⟩)) rfl (by kernel_rfl) (by kernel_rfl) (by kernel_rfl) (fun _ _ _ h => h) (Or.inl ⟨rfl, fun w9 hSw => by go_simp⟩) hHeld ?_
        try simp only [Act.put, List.setIfInBounds_toArray, List.set_cons_zero, List.set_cons_succ]
        refine takeL 5 (.int .i64 y.2) rfl (by kernel_rfl) (by kernel_rfl) (by kernel_rfl) (fun _ _ _ h => h) (Or.inl ⟨rfl, fun w9 hSw => by have hc := hSw.2; go_simp⟩) hHeld ?_
        try simp only [Act.put, List.setIfInBounds_toArray, List.set_cons_zero, List.set_cons_succ]
        refine takeL 6 (.bool false) rfl (by kernel_rfl) (by kernel_rfl) (by kernel_rfl) (fun _ _ _ h => h) (Or.inl ⟨rfl, fun w9 hSw => by go_simp⟩) hHeld ?_
        try simp only [Act.put, List.setIfInBounds_toArray, List.set_cons_zero, List.set_cons_succ]
        refine wpAnyH_done (by kernel_rfl) ?_ _
        refine NoPanic.normal ?_
        clear hHeld
        go_wp2
        go_roundw
        case rel => exact ⟨k + 1, by omega, by first | rfl | go_num, by rw [unhide HT], csAt_drew cL2, hs2, hB2.drew⟩
        case measure => simp [intOf]; omega

set_option maxRecDepth 100000 in
set_option maxHeartbeats 400000 in
theorem implOld_any (a : Option Addr) (cap : Nat) (bs : List Bk) (w : World) (hf : FsAt w a bs) (hm : bs.length ≤ 9223372036854775807) :
    Calls Try.prog 75 #[.slice a bs.length cap] w fun e w' => e = .returned (.int .i64 (oldR bs)) ∧ Below w.heap.size w w' := by
  obtain ⟨zf, hz, hz84⟩ := zrow
  have HZ := hide hz
  clear hz
  have HR : Hid (oldR bs = if okB bs then ((oldN bs 3 : Nat) : Int) else -1) := rfl
  generalize oldR bs = R at *
  go_enter Try.func75, Try.ntmps75
  go_wp2_with fail
  refine (ofz_any a cap bs _ hf hm).mono ?_
  rintro e w1 ⟨ks, rfl, hk4, hkF, hke, b1⟩
  have hsz : zf.size = (fsC ks).toArray.size := by rw [hz84, List.size_toArray, len_fsC _ hkF, hk4]
  have r1 := rangeAt_new w1 (fsC ks) 82
  have B1 := b1.alloc b1.size (.cells (fsC ks).toArray 82)
  clear b1
  cases hs : okB bs
  · rw [hs] at HR
    clear hs hke
    go_wp2_with (first | (refine wpList_alloc_big rfl 82 rfl zf (unhide HZ) ?_) | (refine wpList_store_new rfl 82 _ _ rfl w1 zf (fsC ks).toArray rfl rfl rfl (size_fsa hkF hk4) hsz (one_fs ks) ?_))
    go_ret
    exact ⟨by rw [unhide HR]; rfl, B1⟩
  · obtain rfl := hke hs
    have HN := hide (oldK_any ks hs)
    rw [hs, if_pos rfl] at HR
    rw [← unhide HR] at HN
    clear hs hke
    go_wp2_with (first | (refine wpList_alloc_big rfl 82 rfl zf (unhide HZ) ?_) | (refine wpList_store_new rfl 82 _ _ rfl w1 zf (fsC ks).toArray rfl rfl rfl (size_fsa hkF hk4) hsz (one_fs ks) ?_) | (refine wpList_load_mid rfl 82 _ rfl w1.heap.size 0 rfl (fsC ks) _ r1 Try.underlying82 rfl (size_fsl hkF hk4) ?_))
    refine (unhide HN _).mono ?_
    rintro e w2 ⟨rfl, b2⟩
    clear r1
    go_wp2
    go_ret
    exact ⟨rfl, B1.trans (b2.mono B1.size)⟩
end Go.Proofs.Ytcmklcfedeeahaa.FindD

/-
  The specification's room: by which steps there is a clean page.
-/
namespace Go.Proofs.Ytcmklcfedeeahaa.RmA
open Go.ChangeShapes Go.WideShapes Go.ChangeAt Go.RowKit Go.Shelf OkA Big Fl ImplB ImplF ImplS _root_.Go.Proofs.Ytcmklcfedeeahaa.Own ImplT ImplU SpecA SpecB SpecC SpecD SpecW SpecF SpecG SpecH Ok2 Pl FindP SpecX ImplL FindN FindL FindV Kp StA
set_option linter.unusedVariables false
set_option linter.unusedSimpArgs false
attribute [local go_sem ↓] Go.wp_at_zero Go.wp_at_succ

/-! A row of steps that grows. -/
structure Sts (w : World) (lo : Nat) (v : Value) (l : List Stp) : Prop where
  row : w.ownsRow lo 98 8 v l.length (stsC l)
  lt : ∀ g, v.ownBlock = some g → lo ≤ g ∧ g < w.heap.size
theorem made_st : (Try.prog.info? 98).map (fun i => (i.zero, i.size, i.bytes)) = some (some (.agg (stC zSt).toArray), 8, 64) := by kernel_rfl
theorem infoS : ∃ i, Try.prog.info? 98 = some i ∧ i.zero = some (.agg (stC zSt).toArray) ∧ i.size = 8 ∧ i.bytes = 64 := by
  have h := made_st
  cases hq : Try.prog.info? 98 with
  | none => rw [hq] at h; cases h
  | some i => rw [hq] at h; simp at h; exact ⟨i, rfl, h.1, h.2.1, h.2.2⟩
theorem Sts.below {w w' : World} {lo : Nat} {v : Value} {l : List Stp} (h : Sts w lo v l) {B : Nat} (hb : Below B w w') (hB : w.heap.size ≤ B) : Sts w' lo v l :=
  ⟨ownsRow_below h.row hb (fun g hg => Nat.lt_of_lt_of_le (h.lt g hg).2 hB), fun g hg => ⟨(h.lt g hg).1, Nat.lt_of_lt_of_le (h.lt g hg).2 hb.size⟩⟩
theorem Sts.nil (w : World) (lo : Nat) (hl : lo ≤ w.heap.size) : Sts (w.alloc (.cells #[] 98)) lo (.slice (some ⟨w.heap.size, 0, none⟩) 0 0) [] :=
  ⟨World.ownsRow_lit w #[] 0 hl (by simp [maxLen]) rfl, fun g hg => by simp [Value.ownBlock] at hg; subst hg; exact ⟨hl, by simp⟩⟩
theorem Sts.mono {w : World} {lo lo' : Nat} {v : Value} {l : List Stp} (h : Sts w lo v l) (hl : lo' ≤ lo) : Sts w lo' v l := by
  refine ⟨?_, fun g hg => ⟨Nat.le_trans hl (h.lt g hg).1, (h.lt g hg).2⟩⟩
  obtain ⟨h1, h2⟩ := h.row
  refine ⟨h1, ?_⟩
  rcases h2 with h2 | ⟨g, cap, cur, e, hb, r⟩
  · exact .inl h2
  · exact .inr ⟨g, cap, cur, e, Nat.le_trans hl hb, r⟩
theorem one_stC (x : Stp) : ∀ v ∈ stC x, v.oneCell' = true := by intro v hv; simp [stC] at hv; rcases hv with rfl | rfl | rfl | rfl | rfl | rfl | rfl | rfl <;> rfl
theorem stsC_one (l : List Stp) (x : Stp) : stsC (l ++ [x]) = stsC l ++ stC x := by simp [stsC]
/-- What a row that was appended to is. -/
theorem Sts.push {w w' : World} {lo : Nat} {v v' : Value} {l : List Stp} {x : Stp} (h : Sts w lo v l) (hlo : lo ≤ w.heap.size) (ho : w'.ownsRow lo 98 8 v' (l.length + 1) (stsC l ++ stC x)) (hg : w.grownBy w' v.ownBlock) : Sts w' lo v' (l ++ [x]) ∧ Below lo w w' := by
  refine ⟨⟨by rw [stsC_one, List.length_append]; exact ho, fun g e => ?_⟩, (Below.refl _ _).grown hg hlo (fun k e => (h.lt k e).1)⟩
  obtain ⟨_, h2⟩ := ho
  rcases h2 with ⟨_, h2⟩ | ⟨g', cap, cur, rfl, hb, hh, _⟩
  · omega
  · simp [Value.ownBlock] at e
    subst e
    refine ⟨hb, ?_⟩
    by_cases hlt : g' < w'.heap.size
    · exact hlt
    · have : w'.heap[g']? = none := by simp; omega
      rw [this] at hh; cases hh
def RoomPost (w : World) (bs : List Bk) (e : Ending) (w' : World) : Prop := ∃ v, e = .returned (.tuple #[v, .int .i64 (roomB bs), .bool (roomO bs)]) ∧ Sts w' w.heap.size v (roomL bs) ∧ Below w.heap.size w w'
theorem tellP_take (bs : List Bk) (ps : List Pg) (k : Nat) (hk : k < ps.length) : tellP bs (ps.take (k + 1)) = tellP bs (ps.take k) ++ (if liveB bs ps[k] && ps[k].k == 1 then [diskS ps[k].a ps[k].v] else []) := by
  unfold tellP
  rw [List.take_succ_eq_append_getElem hk, List.filterMap_append]
  congr 1
  cases h : liveB bs ps[k] && ps[k].k == 1 <;> simp only [List.filterMap_cons, List.filterMap_nil, h] <;> rfl
theorem tellP_len (bs : List Bk) (ps : List Pg) : (tellP bs ps).length ≤ ps.length := List.length_filterMap_le _ _

set_option maxRecDepth 100000 in
set_option maxHeartbeats 4000000 in
theorem room_any (fb fo cap : Nat) (dv : Value) (bs : List Bk) (w : World) (hF : Fours bs) (h4 : bs.length = 4) (hf : ∀ i (hi : i < bs.length), BkAt w fb (fo + i * 2) bs[i]) :
    Calls Try.prog 129 #[.agg #[.slice (some ⟨fb, fo, none⟩) 4 cap, dv]] w fun e w' => RoomPost w bs e w' := by
  have hfs : FsAt w (some ⟨fb, fo, none⟩) bs := .inr ⟨fb, fo, rfl, hf⟩
  have B0 : Below w.heap.size w ((w.alloc (.cells #[.slice (some ⟨fb, fo, none⟩) 4 cap, dv] 25)).alloc (.cells #[] 98)) := ((Below.refl _ _).alloc (Nat.le_refl _) _).alloc (by simp) _
  have cS := (store_box w (.slice (some ⟨fb, fo, none⟩) 4 cap) dv).alloc (by simp) (.cells #[] 98)
  have sN := Sts.nil (w.alloc (.cells #[.slice (some ⟨fb, fo, none⟩) 4 cap, dv] 25)) (w.heap.size + 1) (by simp)
  rw [World.size_alloc] at sN
  have s0 : ((w.alloc (.cells #[.slice (some ⟨fb, fo, none⟩) 4 cap, dv] 25)).alloc (.cells #[] 98)).heap.size = w.heap.size + 2 := by simp
  have HOP := hide (fun (w' : World) (hb : Below w.heap.size w w') => SpecH.open_any fb fo cap bs w' hF h4 (fun i hi => (hf i hi).below hb))
  have HOL : Hid (∀ w', Below w.heap.size w w' → Calls Try.prog 121 #[.slice (some ⟨fb, fo, none⟩) 4 cap] w' fun e w'' => e = .returned (.int .i64 (oldB bs : Nat)) ∧ Below w'.heap.size w' w'') := fun w' hb => by
    have := SpecG.old_any (some ⟨fb, fo, none⟩) cap bs w' (hfs.below hb) (by omega) (fun b hb => by rw [hF b hb]; omega) (by omega)
    rw [h4] at this; exact this
  have HLV : Hid (∀ (p : Pg) w', Below w.heap.size w w' → Calls Try.prog 115 #[.slice (some ⟨fb, fo, none⟩) 4 cap, .agg #[.int .i64 p.st, .int .i64 p.k, .int .i64 p.s, .int .i64 p.a, .int .i64 p.v]] w' fun e w'' => e = .returned (.bool (liveB bs p)) ∧ Below w'.heap.size w' w'') := fun p w' hb => by
    have := live_any (some ⟨fb, fo, none⟩) cap bs p w' (hfs.below hb) (by omega) (fun b hb => by rw [hF b hb]; omega)
    rw [h4] at this; exact this
  have HO1 : Hid (roomB bs = if (openR bs).2 then (openR bs).1 else oldB bs) := rfl
  have HO2 : Hid (roomO bs = ((openR bs).2 || decide ((bs.getD (oldB bs) zBk).wn < 200))) := rfl
  have HO3 : Hid (roomL bs = if (openR bs).2 then [] else tellP bs (bs.getD (oldB bs) zBk).ps ++ [wipeS (oldB bs)]) := rfl
  have HOB := oldN_le bs 3
  have hob : oldB bs < bs.length := by unfold oldB; omega
  rw [getD_at bs _ hob] at HO2 HO3
  obtain ⟨pa, pc, q0, q1, qp⟩ := hf (oldB bs) hob
  have hb4 : bs[oldB bs].ps.length = 4 := hF.at _ hob
  obtain ⟨pb, po, rfl, hr⟩ : ∃ pb po, pa = some ⟨pb, po, none⟩ ∧ w.rangeAt pb po (psC bs[oldB bs].ps) := by
    rcases qp with h | h
    · rw [h] at hb4; simp at hb4
    · exact h
  rw [hb4] at q0
  have HQR := hide hr
  have lf : fb < w.heap.size := cell_lt q0
  have lp : pb < w.heap.size := cell_lt (PsAt.cells hr 0 (by omega)).1
  have ho4 : (oldB bs : Int) < 4 := by omega
  have ho0 : (0 : Int) ≤ (oldB bs : Int) := by omega
  have HF2 := hide hf
  clear hf hfs hr qp HOB
  go_enter Try.func129, Try.ntmps129
  go_wp2_with fail
  generalize (w.alloc (.cells #[.slice (some ⟨fb, fo, none⟩) 4 cap, dv] 25)).alloc (.cells #[] 98) = w1 at *
  refine (unhide HOP _ B0).mono ?_
  rintro e w2 ⟨rfl, b2⟩
  have B2 := B0.trans (b2.mono B0.size)
  have cS2 := cS.below b2 (by omega)
  have sN2 := sN.below b2 (Nat.le_refl _)
  have s2 : w.heap.size + 2 ≤ w2.heap.size := by have := b2.size; omega
  clear B0 b2 cS sN HOP s0
  generalize (openR bs).1 = ob at *
  cases hoo : (openR bs).2
  rotate_left
  · rw [hoo] at HO1 HO2 HO3
    simp only [if_true, Bool.true_or] at HO1 HO2 HO3
    clear hoo
    go_wp2
    go_ret3
    exact ⟨_, by rw [unhide HO1, unhide HO2]; rfl, by rw [unhide HO3]; exact sN2.mono (by omega), B2⟩
  · rw [hoo] at HO1 HO2 HO3
    simp only [Bool.false_eq_true, if_false, Bool.false_or] at HO1 HO2 HO3
    clear hoo
    have x0 := cS2.cell 0 _ rfl
    go_wp2_with fail
    refine (unhide HOL _ B2).mono ?_
    rintro e w3 ⟨rfl, b3⟩
    have B3 := B2.trans (b3.mono B2.size)
    have cS3 := cS2.below b3 (by omega)
    have sN3 := sN2.below b3 (Nat.le_refl _)
    have s3 : w.heap.size + 2 ≤ w3.heap.size := by have := b3.size; omega
    clear B2 b3 cS2 sN2 s2 x0 HOL
    generalize hod : oldB bs = od at *
    clear hod
    generalize bs[od] = b at *
    have HTP0 : Hid (tellP bs (b.ps.take 0) = []) := rfl
    have HTP4 : Hid (tellP bs (b.ps.take 4) = tellP bs b.ps) := by show _ = _; rw [List.take_of_length_le (by omega)]
    go_wp2
    go_loopw [5, 9] (fun v k w' => ∃ n : Nat, n ≤ 4 ∧ k = .int .i64 n ∧ Sts w' (w.heap.size + 1) v (tellP bs (b.ps.take n)) ∧ CsAt w' w.heap.size [.slice (some ⟨fb, fo, none⟩) 4 cap, dv] ∧ w.heap.size + 2 ≤ w'.heap.size ∧ Below w.heap.size w w') (fun _ k _ => 4 - (intOf k).toNat)
    case atStart => exact ⟨0, by omega, rfl, by rw [unhide HTP0]; exact sN3, cS3, s3, B3⟩
    case round =>
      clear B3 cS3 sN3 s3
      obtain ⟨n, hn, rfl, hS, hC, hsz, hB⟩ := hrel
      have y0 := hC.cell 0 _ rfl
      have z0 := q0
      rw [← hB.cell (p := ⟨fb, fo + od * 2, none⟩) lf] at z0
      by_cases h0 : n = 4
      · subst h0
        rw [unhide HTP4] at hS
        have z1 := q1
        rw [← hB.cell (p := ⟨fb, fo + od * 2 + 1, none⟩) lf] at z1
        have HLT : Hid (roomL bs = tellP bs b.ps ++ [wipeS od]) := HO3
        have hl4 : (tellP bs b.ps).length ≤ 4 := by have := tellP_len bs b.ps; omega
        generalize tellP bs b.ps = L at *
        obtain ⟨iS, hiS, hzS, hsS, hbS⟩ := infoS
        go_wp2_with fail
        refine wp_region_noPanic ?_
        refine wp_region_held_drew (S := fun w' => (w'.cell? ⟨w.heap.size, 0, none⟩ = some (.slice (some ⟨fb, fo, none⟩) 4 cap) ∧ w'.cell? ⟨fb, fo + od * 2 + 1, none⟩ = some (.int .i64 b.wn)) ∧ w.heap.size < w'.heap.size) (by kernel_rfl) (⟨⟨by simpa using y0, by simpa using z1⟩, by show w.heap.size < wr.heap.size; omega⟩) (fun hHeld => ?_)
        refine takeL 0 (u5) rfl (by kernel_rfl) (by kernel_rfl) (by kernel_rfl) (fun _ _ _ h => h) (Or.inl ⟨rfl, fun _ _ => rfl⟩) hHeld ?_
        try simp only [Act.put, List.setIfInBounds_toArray, List.set_cons_zero, List.set_cons_succ]
        refine takeL 1 (.int .i64 (od : Nat)) rfl (by kernel_rfl) (by kernel_rfl) (by kernel_rfl) (fun _ _ _ h => h) (Or.inl ⟨rfl, fun _ _ => rfl⟩) hHeld ?_
        try simp only [Act.put, List.setIfInBounds_toArray, List.set_cons_zero, List.set_cons_succ]
        refine takeL 2 (.agg #[.int .i64 2, .int .i64 0, .int .i64 0, .int .i64 (od : Nat), .int .i64 0, .int .i64 0, .int .i64 0, .int .i64 0]) rfl (by kernel_rfl) (by kernel_rfl) (by kernel_rfl) (fun _ _ _ h => h) (Or.inl ⟨rfl, fun w9 hSw => by go_simp⟩) hHeld ?_
        try simp only [Act.put, List.setIfInBounds_toArray, List.set_cons_zero, List.set_cons_succ]
        refine takeL 5 (.int .i64 (od : Nat)) rfl (by kernel_rfl) (by kernel_rfl) (by kernel_rfl) (fun _ _ _ h => h) (Or.inl ⟨rfl, fun _ _ => rfl⟩) hHeld ?_
        try simp only [Act.put, List.setIfInBounds_toArray, List.set_cons_zero, List.set_cons_succ]
        refine takeL 6 (.pointer (some ⟨w.heap.size, 0, none⟩)) rfl (by kernel_rfl) (by kernel_rfl) (by kernel_rfl) (fun _ _ _ h => h) (Or.inl ⟨rfl, fun w9 hSw => by go_simp⟩) hHeld ?_
        try simp only [Act.put, List.setIfInBounds_toArray, List.set_cons_zero, List.set_cons_succ]
        refine takeL 7 (.slice (some ⟨fb, fo, none⟩) 4 cap) rfl (by kernel_rfl) (by kernel_rfl) (by kernel_rfl) (fun _ _ _ h => h) (Or.inl ⟨rfl, fun w9 hSw => by have hc := hSw.1.1; go_simp⟩) hHeld ?_
        try simp only [Act.put, List.setIfInBounds_toArray, List.set_cons_zero, List.set_cons_succ]
        refine takeL 8 (.int .i64 (od : Nat)) rfl (by kernel_rfl) (by kernel_rfl) (by kernel_rfl) (fun _ _ _ h => h) (Or.inl ⟨rfl, fun _ _ => rfl⟩) hHeld ?_
        try simp only [Act.put, List.setIfInBounds_toArray, List.set_cons_zero, List.set_cons_succ]
        refine takeL 9 (.pointer (some ⟨fb, fo + od * 2, none⟩)) rfl (by kernel_rfl) (by kernel_rfl) (by kernel_rfl) (fun _ _ _ h => h) (Or.inl ⟨rfl, fun w9 hSw => by go_simp⟩) hHeld ?_
        try simp only [Act.put, List.setIfInBounds_toArray, List.set_cons_zero, List.set_cons_succ]
        refine takeL 10 (.pointer (some ⟨fb, fo + od * 2 + 1, none⟩)) rfl (by kernel_rfl) (by kernel_rfl) (by kernel_rfl) (fun _ _ _ h => h) (Or.inl ⟨rfl, fun w9 hSw => by go_simp⟩) hHeld ?_
        try simp only [Act.put, List.setIfInBounds_toArray, List.set_cons_zero, List.set_cons_succ]
        refine takeL 11 (.int .i64 b.wn) rfl (by kernel_rfl) (by kernel_rfl) (by kernel_rfl) (fun _ _ _ h => h) (Or.inl ⟨rfl, fun w9 hSw => by have hc := hSw.1.2; go_simp⟩) hHeld ?_
        try simp only [Act.put, List.setIfInBounds_toArray, List.set_cons_zero, List.set_cons_succ]
        refine takeL 12 (.bool (decide (b.wn < 200))) rfl (by kernel_rfl) (by kernel_rfl) (by kernel_rfl) (fun _ _ _ h => h) (Or.inl ⟨rfl, fun w9 hSw => by go_simp⟩) hHeld ?_
        try simp only [Act.put, List.setIfInBounds_toArray, List.set_cons_zero, List.set_cons_succ]
        refine oneL 3 rfl (by kernel_rfl) rfl (fun K hK => ?_)
        go_simp
        have bm : Below wr.heap.size wr (wr.alloc (.cells (stC (wipeS od)).toArray 98)).drew := ((Below.refl _ _).alloc (Nat.le_refl _) _).drew
        have hS6 := hS.below bm (Nat.le_refl _)
        have hB6 := hB.trans (bm.mono hB.size)
        have hC6 := hC.below bm (by omega)
        have nw : CsAt (wr.alloc (.cells (stC (wipeS od)).toArray 98)).drew wr.heap.size (stC (wipeS od)) := ⟨fun j v hv => (CsAt.new wr (stC (wipeS od)) 98).cells j v hv, fun j hj => (CsAt.new wr (stC (wipeS od)) 98).free j hj⟩
        have hsz6 : wr.heap.size + 1 = (wr.alloc (.cells (stC (wipeS od)).toArray 98)).drew.heap.size := by simp
        refine hK.out _ _ ⟨⟨(bm.cell (p := ⟨w.heap.size, 0, none⟩) (by show w.heap.size < _; omega)).trans y0, (bm.cell (p := ⟨fb, fo + od * 2 + 1, none⟩) (by show fb < _; omega)).trans z1⟩, by show w.heap.size < (wr.alloc (.cells (stC (wipeS od)).toArray 98)).drew.heap.size; omega⟩ (fun hHeld => ?_)
        clear hK K
        try simp only [Act.put, List.setIfInBounds_toArray, List.set_cons_zero, List.set_cons_succ]
        rw [show #[Value.int .i64 2, .int .i64 0, .int .i64 0, .int .i64 (od : Nat), .int .i64 0, .int .i64 0, .int .i64 0, .int .i64 0] = (stC (wipeS od)).toArray from rfl] at hHeld ⊢
        generalize (wr.alloc (.cells (stC (wipeS od)).toArray 98)).drew = w6 at *
        refine oneL 4 rfl (by kernel_rfl) rfl (fun K hK => ?_)
        refine wp_append_own w6 _ _ 41 rfl (w.heap.size + 1) 98 iS (.agg (stC zSt).toArray) 8 64 Try.underlying41 hiS hzS hsS hbS rfl (by omega) _ L.length (stsC L) rfl hS6.row ⟨wr.heap.size, 0, none⟩ 1 1 (stC (wipeS od)) rfl rfl (src_mid nw.cells) (one_stC _) (by simp [maxLen]; omega) (by omega) (by omega) ?_
        intro v' w7 ho7 hg7 _
        obtain ⟨P7, b7⟩ := hS6.push (by omega) ho7 hg7
        have hB7 := hB6.trans (b7.mono (by omega))
        refine hK.out _ _ ⟨⟨by rw [b7.cell (p := ⟨w.heap.size, 0, none⟩) (by show w.heap.size < _; omega)]; exact hHeld.1.1, by rw [b7.cell (p := ⟨fb, fo + od * 2 + 1, none⟩) (by show fb < _; omega)]; exact hHeld.1.2⟩, Nat.lt_of_lt_of_le hHeld.2 b7.size⟩ (fun hHeld => ?_)
        clear hK K
        try simp only [Act.put, List.setIfInBounds_toArray, List.set_cons_zero, List.set_cons_succ]
        refine takeL 13 (v') rfl (by kernel_rfl) (by kernel_rfl) (by kernel_rfl) (fun _ _ _ h => h) (Or.inl ⟨rfl, fun _ _ => rfl⟩) hHeld ?_
        try simp only [Act.put, List.setIfInBounds_toArray, List.set_cons_zero, List.set_cons_succ]
        refine takeL 14 (.int .i64 (od : Nat)) rfl (by kernel_rfl) (by kernel_rfl) (by kernel_rfl) (fun _ _ _ h => h) (Or.inl ⟨rfl, fun _ _ => rfl⟩) hHeld ?_
        try simp only [Act.put, List.setIfInBounds_toArray, List.set_cons_zero, List.set_cons_succ]
        refine takeL 15 (.bool (decide (b.wn < 200))) rfl (by kernel_rfl) (by kernel_rfl) (by kernel_rfl) (fun _ _ _ h => h) (Or.inl ⟨rfl, fun _ _ => rfl⟩) hHeld ?_
        try simp only [Act.put, List.setIfInBounds_toArray, List.set_cons_zero, List.set_cons_succ]
        refine wpAnyH_done (by kernel_rfl) ?_ _
        refine NoPanic.normal ?_
        go_wp2
        go_ret3
        exact ⟨v', by rw [unhide HO1, unhide HO2]; rfl, by rw [unhide HLT]; exact P7.mono (by omega), hB7⟩
      · have hnl : (n : Int) < 4 := by omega
        have hnb : n < b.ps.length := by omega
        have hn0 : (0 : Int) ≤ (n : Int) := by omega
        obtain ⟨m0, m1, m2, m3, m4⟩ := PsAt.cells (unhide HQR) n hnb
        rw [← hB.cell (p := ⟨pb, po + n * 5, none⟩) lp] at m0
        rw [← hB.cell (p := ⟨pb, po + n * 5 + 1, none⟩) lp] at m1
        rw [← hB.cell (p := ⟨pb, po + n * 5 + 2, none⟩) lp] at m2
        rw [← hB.cell (p := ⟨pb, po + n * 5 + 3, none⟩) lp] at m3
        rw [← hB.cell (p := ⟨pb, po + n * 5 + 4, none⟩) lp] at m4
        have HTK := hide (tellP_take bs b.ps n hnb)
        have hl4 : (tellP bs (b.ps.take n)).length ≤ 4 := by have := tellP_len bs (b.ps.take n); rw [List.length_take] at this; omega
        generalize b.ps[n] = p at *
        generalize tellP bs (b.ps.take n) = L at *
        have HP := hide (unhide HLV p)
        have bn : Below wr.heap.size wr (wr.alloc (.cells #[.int .i64 p.st, .int .i64 p.k, .int .i64 p.s, .int .i64 p.a, .int .i64 p.v] 75)) := (Below.refl _ _).alloc (Nat.le_refl _) _
        have hC2 := hC.below bn (by omega)
        have hS2 := hS.below bn (Nat.le_refl _)
        have hB2 := hB.trans (bn.mono hB.size)
        have cP : CsAt (wr.alloc (.cells #[.int .i64 p.st, .int .i64 p.k, .int .i64 p.s, .int .i64 p.a, .int .i64 p.v] 75)) wr.heap.size (pgC p) := CsAt.new wr (pgC p) 75
        have hsz2 : wr.heap.size + 1 = (wr.alloc (.cells #[.int .i64 p.st, .int .i64 p.k, .int .i64 p.s, .int .i64 p.a, .int .i64 p.v] 75)).heap.size := by simp
        have y02 := hC2.cell 0 _ rfl
        have e0 := cP.cell 0 _ rfl
        have e1 := cP.cell 1 _ rfl
        have e2 := cP.cell 2 _ rfl
        have e3 := cP.cell 3 _ rfl
        have e4 := cP.cell 4 _ rfl
        go_wp2_with fail
        generalize wr.alloc (.cells #[.int .i64 p.st, .int .i64 p.k, .int .i64 p.s, .int .i64 p.a, .int .i64 p.v] 75) = w4 at *
        generalize hbx : wr.heap.size = bx at *
        refine (unhide HP _ hB2).mono ?_
        rintro e w5 ⟨rfl, b5⟩
        have hC5 := hC2.below b5 (by omega)
        have hS5 := hS2.below b5 (Nat.le_refl _)
        have hB5 := hB2.trans (b5.mono hB2.size)
        have cP5 := cP.below b5 (by omega)
        have hsz5 : w.heap.size + 2 ≤ w5.heap.size := by have := b5.size; omega
        have hbx5 : bx < w5.heap.size := by have := b5.size; omega
        clear hC hS hB hC2 hS2 hB2 b5 cP e0 e1 e2 e3 e4 m0 m1 m2 m3 m4 y0 y02 z0 bn
        have e1 := cP5.cell 1 _ rfl
        have e3 := cP5.cell 3 _ rfl
        have e4 := cP5.cell 4 _ rfl
        generalize liveB bs p = lv at *
        cases lv
        · have HT : Hid (tellP bs (b.ps.take (n + 1)) = L) := by show _ = _; rw [unhide HTK]; simp
          go_wp2
          go_roundw
          case rel => exact ⟨n + 1, by omega, by first | rfl | go_num, by rw [unhide HT]; exact hS5, hC5, hsz5, hB5⟩
          case measure => simp [intOf]; omega
        · by_cases hk1 : p.k = 1
          · have g1 : (p.k == 1) = true := by simpa using hk1
            have HT : Hid (tellP bs (b.ps.take (n + 1)) = L ++ [diskS p.a p.v]) := by show _ = _; rw [unhide HTK, g1]; rfl
            have HNL : Hid (L.length + 1 ≤ 5) := by show _ ≤ _; omega
            clear hk1
            obtain ⟨iS, hiS, hzS, hsS, hbS⟩ := infoS
            have bm : Below w5.heap.size w5 (w5.alloc (.cells (stC (diskS p.a p.v)).toArray 98)) := (Below.refl _ _).alloc (Nat.le_refl _) _
            have hC6 := hC5.below bm (by omega)
            have hS6 := hS5.below bm (Nat.le_refl _)
            have hB6 := hB5.trans (bm.mono hB5.size)
            have nw := CsAt.new w5 (stC (diskS p.a p.v)) 98
            have hsz6 : w.heap.size + 2 ≤ (w5.alloc (.cells (stC (diskS p.a p.v)).toArray 98)).heap.size := by simp; omega
            have hR6 := hS6.row
            have hnw := src_mid nw.cells
            clear bm hS5 hB5 hC5
            rw [show (stC (diskS p.a p.v)).toArray = #[.int .i64 1, .int .i64 p.a, .int .i64 p.v, .int .i64 0, .int .i64 0, .int .i64 0, .int .i64 0, .int .i64 0] from rfl] at *
            go_wp2_with (refine wpList_append_own _ rfl _ _ 41 rfl (w.heap.size + 1) 98 iS (.agg (stC zSt).toArray) 8 64 Try.underlying41 hiS hzS hsS hbS rfl (by omega) _ L.length (stsC L) rfl hR6 ⟨w5.heap.size, 0, none⟩ 1 1 (stC (diskS p.a p.v)) rfl rfl hnw (one_stC _) (by have := unhide HNL; simp [maxLen]; omega) (by have := unhide HNL; omega) (by omega) ?_; intro v' w7 ho7 hg7 _)
            obtain ⟨P7, b7⟩ := hS6.push (by omega) ho7 hg7
            have hC7 := hC6.below b7 (by omega)
            have hB7 := hB6.trans (b7.mono (by omega))
            have hsz7 : w.heap.size + 2 ≤ w7.heap.size := by have := b7.size; omega
            rw [← unhide HT] at P7
            clear hS6 hC6 hB6 ho7 hg7 hR6 hnw nw b7
            go_wp2
            go_roundw
            case rel => exact ⟨n + 1, by omega, by first | rfl | go_num, P7, hC7, hsz7, hB7⟩
            case measure => simp [intOf]; omega
          · have g1 : (p.k == 1) = false := by simpa using hk1
            have HT : Hid (tellP bs (b.ps.take (n + 1)) = L) := by show _ = _; rw [unhide HTK, g1]; simp
            clear hk1
            go_wp2
            go_roundw
            case rel => exact ⟨n + 1, by omega, by first | rfl | go_num, by rw [unhide HT]; exact hS5, hC5, hsz5, hB5⟩
            case measure => simp [intOf]; omega
end Go.Proofs.Ytcmklcfedeeahaa.RmA

/-
  The specification's steps by which a record is written.
-/
namespace Go.Proofs.Ytcmklcfedeeahaa.WrA
open Go.ChangeShapes Go.WideShapes Go.ChangeAt Go.RowKit Go.Shelf OkA Big Fl ImplB ImplF ImplS _root_.Go.Proofs.Ytcmklcfedeeahaa.Own ImplT ImplU SpecA SpecB SpecC SpecD SpecW SpecF SpecG SpecH Ok2 Pl FindP SpecX ImplL FindN FindL FindV Kp StA RmA
set_option linter.unusedVariables false
set_option linter.unusedSimpArgs false
attribute [local go_sem ↓] Go.wp_at_zero Go.wp_at_succ

def StpPost (w : World) (l : List Stp) (e : Ending) (w' : World) : Prop := ∃ v, e = .returned v ∧ Sts w' w.heap.size v l ∧ Below w.heap.size w w'
theorem roomL_len (bs : List Bk) (hF : Fours bs) (h4 : bs.length = 4) : (roomL bs).length ≤ 5 := by
  unfold roomL
  split
  · simp
  · have hob : oldB bs < bs.length := by unfold oldB; have := oldN_le bs 3; omega
    have := tellP_len bs (bs.getD (oldB bs) zBk).ps
    rw [getD_at bs _ hob, hF.at _ hob] at this
    rw [List.length_append, getD_at bs _ hob]
    simp
    omega

set_option maxRecDepth 100000 in
set_option maxHeartbeats 2000000 in
theorem write_steps (fb fo cap : Nat) (dv : Value) (kind addr val : Int) (bs : List Bk) (w : World) (hok : okB bs = true) (hf : ∀ i (hi : i < bs.length), BkAt w fb (fo + i * 2) bs[i]) :
    Calls Try.prog 89 #[.agg #[.slice (some ⟨fb, fo, none⟩) 4 cap, dv], .int .i64 kind, .int .i64 addr, .int .i64 val] w fun e w' => StpPost w (writeP bs kind addr val) e w' := by
  have h4 := ok_len hok
  have hF := ok_fours hok
  have hfs : FsAt w (some ⟨fb, fo, none⟩) bs := .inr ⟨fb, fo, rfl, hf⟩
  have hmb := mostB_le bs (ok_pages hok)
  have HW : Hid (wrap64 (mostB bs + 1) = mostB bs + 1) := by show _ = _; unfold wrap64; omega
  have HRM := hide (fun (w' : World) (hb : Below w.heap.size w w') => room_any fb fo cap dv bs w' hF h4 (fun i hi => (hf i hi).below hb))
  have HNX : Hid (∀ w', Below w.heap.size w w' → Calls Try.prog 117 #[.slice (some ⟨fb, fo, none⟩) 4 cap] w' fun e w'' => e = .returned (.int .i64 (mostB bs + 1)) ∧ Below w'.heap.size w' w'') := fun w' hb => by
    have := SpecF.next_any (some ⟨fb, fo, none⟩) cap bs w' (hfs.below hb) (by omega) (fun b hb => by rw [hF b hb]; omega)
    rw [h4, unhide HW] at this; exact this
  have HWP : Hid (writeP bs kind addr val = if roomO bs && recB kind (mostB bs + 1) addr val then roomL bs ++ [writeS (roomB bs) ⟨kind, mostB bs + 1, addr, val⟩] else []) := rfl
  have HRL := hide (roomL_len bs hF h4)
  have HSO := hide (fun (s : Int) (w' : World) => specOk_any kind s addr val w')
  have B0 : Below w.heap.size w (w.alloc (.cells #[.slice (some ⟨fb, fo, none⟩) 4 cap, dv] 25)) := (Below.refl _ _).alloc (Nat.le_refl _) _
  have cS := store_box w (.slice (some ⟨fb, fo, none⟩) 4 cap) dv
  have hs0 : w.heap.size + 1 = (w.alloc (.cells #[.slice (some ⟨fb, fo, none⟩) 4 cap, dv] 25)).heap.size := by simp
  clear hf hfs HW hok hmb
  generalize hmm : mostB bs + 1 = m at *
  clear hmm
  go_enter Try.func89, Try.ntmps89
  go_wp2_with fail
  generalize w.alloc (.cells #[.slice (some ⟨fb, fo, none⟩) 4 cap, dv] 25) = w1 at *
  refine (unhide HNX _ B0).mono ?_
  rintro e w2 ⟨rfl, b2⟩
  have B2 := B0.trans (b2.mono B0.size)
  have cS2 := cS.below b2 (by omega)
  have s2 : w.heap.size + 1 ≤ w2.heap.size := by have := b2.size; omega
  clear B0 b2 cS hs0
  have bn : Below w2.heap.size w2 (w2.alloc (.cells #[.int .i64 kind, .int .i64 m, .int .i64 addr, .int .i64 val] 59)) := (Below.refl _ _).alloc (Nat.le_refl _) _
  have cS3 := cS2.below bn (by omega)
  have B3 := B2.trans (bn.mono B2.size)
  have cR : CsAt (w2.alloc (.cells #[.int .i64 kind, .int .i64 m, .int .i64 addr, .int .i64 val] 59)) w2.heap.size [.int .i64 kind, .int .i64 m, .int .i64 addr, .int .i64 val] := CsAt.new w2 _ 59
  have s3 : w2.heap.size + 1 = (w2.alloc (.cells #[.int .i64 kind, .int .i64 m, .int .i64 addr, .int .i64 val] 59)).heap.size := by simp
  have x0 := cS3.cell 0 _ rfl
  have x1 := cS3.cell 1 _ rfl
  clear bn cS2 B2
  go_wp2_with fail
  generalize w2.alloc (.cells #[.int .i64 kind, .int .i64 m, .int .i64 addr, .int .i64 val] 59) = w3 at *
  generalize w2.heap.size = br at *
  refine (unhide HRM _ B3).mono ?_
  rintro e w4 ⟨v, rfl, hS, b4⟩
  have B4 := B3.trans (b4.mono B3.size)
  have cR4 := cR.below b4 (by omega)
  have s4 := b4.size
  have hS4 := hS.mono (show w.heap.size ≤ w3.heap.size by omega)
  clear b4 cR hS x0 x1 cS3 B3 HRM
  generalize roomL bs = L at *
  generalize roomB bs = rb at *
  have d0 := cR4.cell 0 _ rfl
  have d1 := cR4.cell 1 _ rfl
  have d2 := cR4.cell 2 _ rfl
  have d3 := cR4.cell 3 _ rfl
  have nl := Sts.nil w4 w.heap.size (by omega)
  have nB := B4.alloc B4.size (.cells #[] 98)
  cases hro : roomO bs
  · have HE : Hid (writeP bs kind addr val = []) := by show _ = _; rw [unhide HWP, hro]; rfl
    clear hro
    go_wp2
    go_ret
    exact ⟨_, rfl, by rw [unhide HE]; exact nl, nB⟩
  · cases hrb : recB kind m addr val
    · have HE : Hid (writeP bs kind addr val = []) := by show _ = _; rw [unhide HWP, hro, hrb]; rfl
      have HSO2 := hide (fun w' => unhide HSO m w')
      rw [hrb] at HSO2
      clear hro hrb nl nB
      go_wp2_with fail
      refine (unhide HSO2 _).mono ?_
      rintro e w5 ⟨rfl, b5⟩
      have B5 := B4.trans (b5.mono B4.size)
      have nl := Sts.nil w5 w.heap.size B5.size
      have nB := B5.alloc B5.size (.cells #[] 98)
      clear d0 d1 d2 d3
      go_wp2
      go_ret
      exact ⟨_, rfl, by rw [unhide HE]; exact nl, nB⟩
    · have HE : Hid (writeP bs kind addr val = L ++ [writeS rb ⟨kind, m, addr, val⟩]) := by show _ = _; rw [unhide HWP, hro, hrb]; rfl
      have HSO2 := hide (fun w' => unhide HSO m w')
      rw [hrb] at HSO2
      clear hro hrb nl nB
      go_wp2_with fail
      refine (unhide HSO2 _).mono ?_
      rintro e w5 ⟨rfl, b5⟩
      have B5 := B4.trans (b5.mono B4.size)
      have hS5 := hS4.below b5 (Nat.le_refl _)
      have cR5 := cR4.below b5 (by omega)
      clear d0 d1 d2 d3 b5 hS4 cR4 B4
      have d0 := cR5.cell 0 _ rfl
      have d1 := cR5.cell 1 _ rfl
      have d2 := cR5.cell 2 _ rfl
      have d3 := cR5.cell 3 _ rfl
      have bm : Below w5.heap.size w5 (w5.alloc (.cells (stC (writeS rb ⟨kind, m, addr, val⟩)).toArray 98)) := (Below.refl _ _).alloc (Nat.le_refl _) _
      have hS6 := hS5.below bm (Nat.le_refl _)
      have hB6 := B5.trans (bm.mono B5.size)
      have nw := CsAt.new w5 (stC (writeS rb ⟨kind, m, addr, val⟩)) 98
      have hlo : w.heap.size ≤ (w5.alloc (.cells (stC (writeS rb ⟨kind, m, addr, val⟩)).toArray 98)).heap.size := by have := B5.size; simp; omega
      have hR6 := hS6.row
      have hnw := src_mid nw.cells
      obtain ⟨iS, hiS, hzS, hsS, hbS⟩ := infoS
      clear bm hS5 B5
      rw [show (stC (writeS rb ⟨kind, m, addr, val⟩)).toArray = #[.int .i64 3, .int .i64 0, .int .i64 0, .int .i64 rb, .int .i64 kind, .int .i64 m, .int .i64 addr, .int .i64 val] from rfl] at *
      go_wp2_with (refine wpList_append_own _ rfl _ _ 41 rfl w.heap.size 98 iS (.agg (stC zSt).toArray) 8 64 Try.underlying41 hiS hzS hsS hbS rfl (by omega) _ L.length (stsC L) rfl hR6 ⟨w5.heap.size, 0, none⟩ 1 1 (stC (writeS rb ⟨kind, m, addr, val⟩)) rfl rfl hnw (one_stC _) (by have := unhide HRL; simp [maxLen]; omega) (by have := unhide HRL; omega) hlo ?_; intro v' w7 ho7 hg7 _)
      obtain ⟨P7, b7⟩ := hS6.push hlo ho7 hg7
      go_ret
      exact ⟨_, rfl, by rw [unhide HE]; exact P7, hB6.trans (b7.mono (Nat.le_refl _))⟩
end Go.Proofs.Ytcmklcfedeeahaa.WrA
