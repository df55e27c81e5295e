/-
  Texts that belong together, one behind the other: TwC, LawX.
-/
import Derived.Test.YtbiokmojjneleaaGreatHbC
import Derived.Test.YtbiokmojjneleaaGreatRbB

/-
  The program's StepsPut, StepsFlush and StepsFill, at every store.
-/
namespace Go.Proofs.YtbiokmojjneleaaGreat.TwC
open Go.ChangeShapes Go.WideShapes Go.ChangeAt Go.RowKit Go.Shelf OkA Big Fl ImplB ImplF ImplS _root_.Go.Proofs.YtbiokmojjneleaaGreat.Own ImplT ImplU SpecA SpecB SpecC SpecD SpecW SpecF SpecG SpecH Ok2 Pl FindP ImplO FindO SpecX ImplL FindN FindL FindV FindD Kp StA RmA WrA FlA MpA StB StC StD StE StF StG SpS SpT SpU TwA TwB
set_option linter.unusedVariables false
set_option linter.unusedSimpArgs false
attribute [local go_sem ↓] Go.wp_at_zero Go.wp_at_succ

set_option maxRecDepth 100000 in
set_option maxHeartbeats 1000000 in
theorem implPut_any (fa : Option Addr) (fc : Nat) (bs : List Bk) (da : Option Addr) (dc : Nat) (dk : List Int) (addr val : Int) (w : World) (h : SAt w fa bs da dk) (hm : bs.length ≤ 9223372036854775807) (hm2 : dk.length ≤ 9223372036854775807) :
    Calls Tryz.prog 123 #[.agg #[.slice fa bs.length fc, .slice da dk.length dc], .int .i64 addr, .int .i64 val] w fun e w' => StpPost w (putS bs dk addr val) e w' := by
  have B0 : Below w.heap.size w (w.alloc (.cells #[.slice fa bs.length fc, .slice da dk.length dc] 26)) := (Below.refl _ _).alloc (Nat.le_refl _) _
  have HC := hide (storeOf_any fa fc bs da dc dk _ (h.below B0).fs (h.below B0).ds hm hm2)
  have HR : Hid (putS bs dk addr val = if stI bs dk then writeP bs 1 addr val else []) := by show _ = _; rw [st_eq]; rfl
  clear h
  generalize putS bs dk addr val = R at *
  go_enter Tryz.func123, Tryz.ntmps123
  go_wp2_with fail
  refine (unhide HC).mono ?_
  rintro e w1 ⟨sk, rfl, hs7, hone, hsk, b1, _⟩
  have bA : Below w1.heap.size w1 (w1.alloc (.cells sk.toArray 78)) := (Below.refl _ _).alloc (Nat.le_refl _) _
  have B1 := (B0.trans (b1.mono B0.size)).trans (bA.mono (B0.trans (b1.mono B0.size)).size)
  have hsz : zSk.toArray.size = sk.toArray.size := by rw [List.size_toArray, List.size_toArray, hs7, len_zsk]
  have rK := rangeAt_new w1 sk 78
  have HSK := hide (size7 hs7)
  clear B0 b1 HC
  cases hs : stI bs dk
  · have HE : Hid (R = []) := by show _ = _; rw [unhide HR, hs]; rfl
    go_wp2_with (first | (refine wpList_alloc_big rfl 78 rfl zSk.toArray zero_sk ?_) | (refine wpList_store_new rfl 78 _ _ rfl w1 zSk.toArray sk.toArray rfl rfl rfl (size7a hs7) hsz (all_oneCell_toArray hone) ?_))
    go_ret
    exact ⟨_, rfl, by rw [unhide HE]; exact Sts.nilN _ _, B1⟩
  · obtain ⟨mb, rfl, hok, hd6, hM⟩ := hsk hs
    have HE : Hid (R = writeP bs 1 addr val) := by show _ = _; rw [unhide HR, hs]; rfl
    have HV := hide (toWrite_any bs hok mb dk hd6 1 addr val)
    rw [← unhide HE] at HV
    clear hM hsk
    go_wp2_with (first | (refine wpList_alloc_big rfl 78 rfl zSk.toArray zero_sk ?_) | (refine wpList_store_new rfl 78 _ _ rfl w1 zSk.toArray (skC bs mb dk).toArray rfl rfl rfl (size7a hs7) hsz (all_oneCell_toArray hone) ?_) | (refine wpList_load_mid rfl 78 _ rfl w1.heap.size 0 rfl (skC bs mb dk) _ rK Tryz.underlying78 rfl (unhide HSK) ?_))
    refine (unhide HV _).mono ?_
    rintro e w3 ⟨v, rfl, hS, b3⟩
    have B3 := B1.trans (b3.mono B1.size)
    have hS3 := hS.mono B1.size
    clear rK HV hS
    go_wp2
    go_ret
    exact ⟨v, rfl, hS3, B3⟩

/-- What is asked of a map that may be none. -/
theorem skf_look {sk : List Value} {w : World} (h : SkF sk w) {addr : Int} (h0 : -9223372036854775808 ≤ addr) (h1 : addr ≤ 9223372036854775807) :
    ∃ mv r, sk[84]? = some mv ∧ ∀ w', Below w.heap.size w w' → (Instr.lookup 74 mv (.int .i64 addr) false).run Tryz.prog w' = .ok (.agg (rcC r).toArray) w' := by
  rcases h with rfl | ⟨ks, mb, ds, rfl, h4, hF, _, hM⟩
  · refine ⟨.map none, zRc, by kernel_rfl, fun w' _ => ?_⟩
    have := Maps.look_nil (P := Tryz.prog) (w := w') false law Tryz.underlying74 (zeroR w') (key h0 h1)
    simpa using this
  · exact ⟨_, _, sk_map h4 hF, fun w' hb => (hM.below hb hM.lt).look h0 h1⟩
/-- The last record of an address, as the map has it. -/
def mpR (bs : List Bk) (addr : Int) : Rc := (mpF bs addr).getD zRc
theorem mpR_in {bs : List Bk} {addr : Int} (hok : okB bs = true) (h : inB addr 1 6 = true) : mpR bs addr = lastR bs addr := by
  have ha : 1 ≤ addr ∧ addr ≤ 6 := by simpa [inB] using h
  exact (mp_get (a := addr) hok ha.1 ha.2).1
theorem mpR_out {bs : List Bk} {addr : Int} (h : inB addr 1 6 = false) : mpR bs addr = zRc := by
  unfold mpR mpF mpK
  rw [if_neg]
  · rfl
  · rintro ⟨h1, h2, _⟩
    simp [inB] at h
    omega
theorem dirty_eq {bs : List Bk} {addr : Int} (hok : okB bs = true) : (inB addr 1 6 && dirtyB bs addr) = ((mpR bs addr).k == 1) := by
  cases hin : inB addr 1 6
  · rw [mpR_out hin]; rfl
  · rw [mpR_in hok hin, Bool.true_and]
    unfold dirtyB lastO
    rcases lastR_ok bs addr hok with h | ⟨h, _⟩
    · rw [h]; rfl
    · have : 0 < (lastR bs addr).s := by simp [recB, numB, inB] at h; omega
      simp [this]
theorem dirty_read {bs : List Bk} {dk : List Int} {addr : Int} (hok : okB bs = true) (h : ((mpR bs addr).k == 1) = true) : readI bs dk addr = (mpR bs addr).v := by
  rw [← dirty_eq hok, Bool.and_eq_true] at h
  rw [mpR_in hok h.1]
  unfold dirtyB at h
  unfold readI
  rw [Bool.and_eq_true] at h
  rw [h.2.1]; rfl
theorem flush_eq {bs : List Bk} {dk : List Int} {addr : Int} (hok : okB bs = true) : flushP bs dk addr = if (mpR bs addr).k == 1 then (if (writeP bs 2 addr (mpR bs addr).v).isEmpty then [] else diskS addr (mpR bs addr).v :: writeP bs 2 addr (mpR bs addr).v) else [] := by
  unfold flushP
  rw [dirty_eq hok]
  cases h : ((mpR bs addr).k == 1)
  · rfl
  · rw [dirty_read hok h]

set_option maxRecDepth 100000 in
set_option maxHeartbeats 2000000 in
theorem implFlush_any (fa : Option Addr) (fc : Nat) (bs : List Bk) (da : Option Addr) (dc : Nat) (dk : List Int) (addr : Int) (ha0 : -9223372036854775808 ≤ addr) (ha1 : addr ≤ 9223372036854775807) (w : World) (h : SAt w fa bs da dk) (hm : bs.length ≤ 9223372036854775807) (hm2 : dk.length ≤ 9223372036854775807) :
    Calls Tryz.prog 121 #[.agg #[.slice fa bs.length fc, .slice da dk.length dc], .int .i64 addr] w fun e w' => StpPost w (flushS bs dk addr) e w' := by
  have B0 : Below w.heap.size w (w.alloc (.cells #[.slice fa bs.length fc, .slice da dk.length dc] 26)) := (Below.refl _ _).alloc (Nat.le_refl _) _
  have HC := hide (storeOf_any fa fc bs da dc dk _ (h.below B0).fs (h.below B0).ds hm hm2)
  have HR : Hid (flushS bs dk addr = if stI bs dk then flushP bs dk addr else []) := by show _ = _; rw [st_eq]; rfl
  clear h
  generalize flushS bs dk addr = R at *
  go_enter Tryz.func121, Tryz.ntmps121
  go_wp2_with fail
  refine (unhide HC).mono ?_
  rintro e w1 ⟨sk, rfl, hs7, hone, hsk, b1, hsf⟩
  have bA : Below w1.heap.size w1 (w1.alloc (.cells sk.toArray 78)) := (Below.refl _ _).alloc (Nat.le_refl _) _
  have B1 := (B0.trans (b1.mono B0.size)).trans (bA.mono (B0.trans (b1.mono B0.size)).size)
  have hsz : zSk.toArray.size = sk.toArray.size := by rw [List.size_toArray, List.size_toArray, hs7, len_zsk]
  have cK := CsAt.new w1 sk 78
  have HSK := hide (size7 hs7)
  clear B0 b1 HC
  cases hs : stI bs dk
  · have HE : Hid (R = []) := by show _ = _; rw [unhide HR, hs]; rfl
    obtain ⟨mv, r, hmv, hlk⟩ := skf_look hsf ha0 ha1
    have x84 := cK.cell 84 _ hmv
    have hl := hlk _ bA
    have B2 := B1.alloc B1.size (.cells (rcC r).toArray 36)
    clear hlk hsf hsk
    rw [show (rcC r).toArray = #[.int .i64 r.k, .int .i64 r.s, .int .i64 r.a, .int .i64 r.v] from rfl] at *
    go_wp2_with (first | (refine wpList_alloc_big rfl 78 rfl zSk.toArray zero_sk ?_) | (refine wpList_store_new rfl 78 _ _ rfl w1 zSk.toArray sk.toArray rfl rfl rfl (size7a hs7) hsz (all_oneCell_toArray hone) ?_) | (refine wpList_look rfl _ _ _ false rfl _ _ _ rfl rfl hl ?_))
    go_ret
    exact ⟨_, rfl, by rw [unhide HE]; exact Sts.nilN _ _, B2⟩
  obtain ⟨mb, rfl, hok, hd6, hM⟩ := hsk hs
  have HE : Hid (R = flushP bs dk addr) := by show _ = _; rw [unhide HR, hs]; rfl
  rw [flush_eq hok] at HE
  have x84 := cK.cell 84 _ (sk_map (ok_len hok) (ok_fours hok))
  have hl : (Instr.lookup 74 (.map (some mb)) (.int .i64 addr) false).run Tryz.prog (w1.alloc (.cells (skC bs mb dk).toArray 78)) = .ok (.agg (rcC (mpR bs addr)).toArray) (w1.alloc (.cells (skC bs mb dk).toArray 78)) := (hM.below bA hM.lt).look ha0 ha1
  have HV := hide (fun (v : Int) (w' : World) => toWrite_any bs hok mb dk hd6 2 addr v w')
  have HWL := hide (fun (v : Int) => writeP_len bs (ok_fours hok) (ok_len hok) 2 addr v)
  generalize mpR bs addr = r at *
  have B2 := B1.alloc B1.size (.cells (rcC r).toArray 36)
  have cR := CsAt.new (w1.alloc (.cells (skC bs mb dk).toArray 78)) (rcC r) 36
  rw [World.size_alloc] at cR
  have cK2 := cK.alloc (by simp) (.cells (rcC r).toArray 36)
  have s2 : w1.heap.size + 2 ≤ ((w1.alloc (.cells (skC bs mb dk).toArray 78)).alloc (.cells (rcC r).toArray 36)).heap.size := by simp
  have hwz := B1.size
  clear hM hsk hsf HR
  rw [show (rcC r).toArray = #[.int .i64 r.k, .int .i64 r.s, .int .i64 r.a, .int .i64 r.v] from rfl] at *
  go_upto_region 3 with (first | (refine wpList_alloc_big rfl 78 rfl zSk.toArray zero_sk ?_) | (refine wpList_store_new rfl 78 _ _ rfl w1 zSk.toArray (skC bs mb dk).toArray rfl rfl rfl (size7a hs7) hsz (all_oneCell_toArray hone) ?_) | (refine wpList_look rfl _ _ _ false rfl _ _ _ rfl rfl hl ?_))
  have q1 : w.heap.size ≤ w1.heap.size + 1 := by simpa using hwz
  clear x84 hl cK B1 bA hwz
  generalize (w1.alloc (.cells (skC bs mb dk).toArray 78)).alloc (.cells #[.int .i64 r.k, .int .i64 r.s, .int .i64 r.a, .int .i64 r.v] 36) = w2 at *
  generalize w1.heap.size = K at *
  have d0 := cR.cell 0 _ rfl
  have d1 := cR.cell 1 _ rfl
  have d2 := cR.cell 2 _ rfl
  have d3 := cR.cell 3 _ rfl
  go_wp2_with fail
  rw [show #[.int .i64 r.k, .int .i64 r.s, .int .i64 r.a, .int .i64 r.v] = (rcC r).toArray from rfl]
  refine (rdirty_any r _).mono ?_
  rintro e w3 ⟨rfl, b3⟩
  have cR3 := cR.below b3 (by omega)
  have cK3 := cK2.below b3 (by omega)
  have B3 := B2.trans (b3.mono B2.size)
  have s3 := Nat.le_trans s2 b3.size
  clear d0 d1 d2 d3 cR cK2 B2 b3 s2
  cases hk1 : (r.k == 1)
  · rw [hk1] at HE
    have HE2 : Hid (R = []) := by show _ = _; rw [unhide HE]; rfl
    go_wp2
    go_ret
    exact ⟨_, rfl, by rw [unhide HE2]; exact Sts.nilN _ _, B3⟩
  rw [hk1, if_pos rfl] at HE
  have rK := cK3.cells
  have d3 := cR3.cell 3 _ rfl
  go_wp2_with (first | (refine wpList_load_mid rfl 78 _ rfl K 0 rfl (skC bs mb dk) _ rK Tryz.underlying78 rfl (unhide HSK) ?_))
  refine (unhide HV r.v _).mono ?_
  rintro e w4 ⟨v, rfl, hS, b4⟩
  have HL6 := hide (unhide HWL r.v)
  have hl6 : (writeP bs 2 addr r.v).length ≤ 6 := unhide HL6
  have cR4 := cR3.below b4 (by omega)
  have B4 := B3.trans (b4.mono B3.size)
  have s4 := Nat.le_trans s3 b4.size
  have q3 := B3.size
  have hS4 := hS.mono (lo' := w3.heap.size) (Nat.le_refl _)
  obtain ⟨a, cap, rfl, hA⟩ := stsForm hS
  clear rK d3 cR3 cK3 B3 s3 b4 HV HWL hS
  generalize writeP bs 2 addr r.v = L at *
  have hl6i : (L.length : Int) ≤ 6 := by omega
  by_cases hz : L.length = 0
  · have hL0 : L = [] := List.length_eq_zero_iff.1 hz
    have HE2 : Hid (R = []) := by show _ = _; rw [unhide HE, hL0]; rfl
    subst hL0
    clear hA hz
    go_wp2
    go_ret
    exact ⟨_, rfl, by rw [unhide HE2]; exact Sts.nilN _ _, B4⟩
  have hz' : ((L.length : Int) == 0) = false := by simp; exact fun h => hz (by rw [h]; rfl)
  have HE2 : Hid (R = diskS addr r.v :: L) := by
    show _ = _
    rw [unhide HE, if_neg]
    intro h
    exact hz (by rw [List.isEmpty_iff.1 h]; rfl)
  obtain ⟨g, rfl, hg0, hg1, hr⟩ : ∃ g, a = some ⟨g, 0, none⟩ ∧ w3.heap.size ≤ g ∧ g < w4.heap.size ∧ w4.rangeAt g 0 (stsC L) := by
    rcases hA with h | h
    · exact absurd (by rw [h]; rfl) hz
    · exact h
  have d3 := cR4.cell 3 _ rfl
  have HZL : Hid (0 < L.length) := by show _ < _; omega
  clear hA hz HE
  go_wp2_with fail
  refine (diskStep_any addr r.v _).mono ?_
  rintro e w5 ⟨rfl, b5⟩
  have hr5 := rangeAt_below hr b5 hg1
  have B5 := B4.trans (b5.mono B4.size)
  have q5 := b5.size
  clear d3 cR4 B4 b5 hr hS4
  have bm : Below w5.heap.size w5 (w5.alloc (.cells (stC (diskS addr r.v)).toArray 38)) := (Below.refl _ _).alloc (Nat.le_refl _) _
  have nS := Sts.one w5 w5.heap.size (diskS addr r.v) (Nat.le_refl _)
  have hr6 := rangeAt_below hr5 bm (by omega)
  have hnw := src_mid hr6
  have B6 := B5.trans (bm.mono B5.size)
  have s6 : w5.heap.size ≤ (w5.alloc (.cells (stC (diskS addr r.v)).toArray 38)).heap.size := by simp
  have hR6 := nS.row
  have hq6 : w.heap.size ≤ w5.heap.size := B5.size
  have HL8 := hide (len_stsC L)
  obtain ⟨iS, hiS, hzS, hsS, hbS⟩ := infoS
  clear bm hr5 hr6 B5
  rw [show (stC (diskS addr r.v)).toArray = #[.int .i64 1, .int .i64 addr, .int .i64 r.v, .int .i64 0, .int .i64 0, .int .i64 0, .int .i64 0, .int .i64 0] from rfl] at *
  go_wp2_with (refine wpList_append_own _ rfl _ _ 27 rfl w5.heap.size 38 iS (.agg (stC zSt).toArray) 8 64 Tryz.underlying27 hiS hzS hsS hbS rfl (by omega) _ 1 (stsC [diskS addr r.v]) rfl hR6 ⟨g, 0, none⟩ L.length cap (stsC L) rfl (unhide HL8) hnw (one_stsC _) (by have := unhide HL6; simp [maxLen]; omega) (by have := unhide HL6; omega) s6 ?_; intro v' w7 ho7 hg7 _)
  obtain ⟨P7, b7⟩ := Sts.pushL (m := L) nS (unhide HZL) s6 ho7 hg7
  go_ret
  exact ⟨_, rfl, by rw [unhide HE2]; exact P7.mono hq6, B6.trans (b7.mono hq6)⟩
section
variable {P : Program} {ops : Array Oper} {rest : List Oper} {o : Oper} {a : Act} {w : World} {Q : Exit → Act → World → Prop}
theorem wpList_look_want (t : TypeId) (m x : Operand) (c : Bool) (ho : o.op = .lookup t m x c) (hw : Region.wanted o (yielded ops a.tmps) = true) (vm vx v : Value) (hm : a.eval m = vm) (hx : a.eval x = vx) (hr : (Instr.lookup t vm vx c).run P w = .ok v w)
    (h : wpList P ops Q rest (a.put o.dst v) w) : wpList P ops Q (o :: rest) a w := by
  refine wpList_want hw fun K hK => ?_
  unfold Oper.wp
  simp [execOp, ho, hm, hx, hr, Result.andThen]
  exact hK _ _ h
end
theorem wpList_rec_neqW {ops : Array Oper} {rest : List Oper} {o : Oper} {a : Act} {w : World} {Q : Exit → Act → World → Prop} (x y : Operand) (ho : o.op = .binOp .neq 36 x y 36) (hw : Region.wanted o (yielded ops a.tmps) = true) (r : Rc) (b : Bool) (hb : (!noRc r) = b) (hx : a.eval x = .agg (rcC r).toArray)
    (hy : a.eval y = .agg #[.int .i64 0, .int .i64 0, .int .i64 0, .int .i64 0]) (h : wpList Tryz.prog ops Q rest (a.put o.dst (.bool b)) w) : wpList Tryz.prog ops Q (o :: rest) a w := by
  subst hb
  refine wpList_want hw fun K hK => ?_
  have hr : (execOp a.eval o).run Tryz.prog w = .ok (.value (.bool (!noRc r))) w := by
    unfold execOp
    simp only [ho, hx, hy]
    unfold noRc rcC
    go_simp
    by_cases q1 : r.k = 0 <;> by_cases q2 : r.s = 0 <;> by_cases q3 : r.a = 0 <;> by_cases q4 : r.v = 0 <;> simp [q1, q2, q3, q4]
  unfold Oper.wp
  rw [hr]
  exact hK _ _ h

theorem fill_eq {bs : List Bk} {dk : List Int} {addr : Int} (hok : okB bs = true) (hin : inB addr 1 6 = true) : fillP bs dk addr = if noRc (mpR bs addr) then writeP bs 2 addr (dkV dk addr) else [] := by
  unfold fillP dkV
  have := lst_no (lastR_ok bs addr hok)
  rw [hin, Bool.true_and, mpR_in hok hin]
  unfold lastO
  rw [← this]
  cases noRc (lastR bs addr) <;> rfl

set_option maxRecDepth 100000 in
set_option maxHeartbeats 2000000 in
theorem implFill_any (fa : Option Addr) (fc : Nat) (bs : List Bk) (da : Option Addr) (dc : Nat) (dk : List Int) (addr : Int) (w : World) (h : SAt w fa bs da dk) (hm : bs.length ≤ 9223372036854775807) (hm2 : dk.length ≤ 9223372036854775807) :
    Calls Tryz.prog 124 #[.agg #[.slice fa bs.length fc, .slice da dk.length dc], .int .i64 addr] w fun e w' => StpPost w (fillS bs dk addr) e w' := by
  have B0 : Below w.heap.size w (w.alloc (.cells #[.slice fa bs.length fc, .slice da dk.length dc] 26)) := (Below.refl _ _).alloc (Nat.le_refl _) _
  have HC := hide (storeOf_any fa fc bs da dc dk _ (h.below B0).fs (h.below B0).ds hm hm2)
  have HR : Hid (fillS bs dk addr = if stI bs dk then fillP bs dk addr else []) := by show _ = _; rw [st_eq]; rfl
  have HW := hide (fun (w' : World) => within_any addr 1 6 w')
  clear h
  generalize fillS bs dk addr = R at *
  go_enter Tryz.func124, Tryz.ntmps124
  go_wp2_with fail
  refine (unhide HC).mono ?_
  rintro e w1 ⟨sk, rfl, hs7, hone, hsk, b1, _⟩
  have bA : Below w1.heap.size w1 (w1.alloc (.cells sk.toArray 78)) := (Below.refl _ _).alloc (Nat.le_refl _) _
  have B1 := (B0.trans (b1.mono B0.size)).trans (bA.mono (B0.trans (b1.mono B0.size)).size)
  have hsz : zSk.toArray.size = sk.toArray.size := by rw [List.size_toArray, List.size_toArray, hs7, len_zsk]
  have cK := CsAt.new w1 sk 78
  have HSK := hide (size7 hs7)
  clear B0 b1 HC
  cases hs : stI bs dk
  · have HE : Hid (R = []) := by show _ = _; rw [unhide HR, hs]; rfl
    go_wp2_with (first | (refine wpList_alloc_big rfl 78 rfl zSk.toArray zero_sk ?_) | (refine wpList_store_new rfl 78 _ _ rfl w1 zSk.toArray sk.toArray rfl rfl rfl (size7a hs7) hsz (all_oneCell_toArray hone) ?_))
    go_ret
    exact ⟨_, rfl, by rw [unhide HE]; exact Sts.nilN _ _, B1⟩
  obtain ⟨mb, rfl, hok, hd6, hM⟩ := hsk hs
  have HE : Hid (R = fillP bs dk addr) := by show _ = _; rw [unhide HR, hs]; rfl
  cases hin : inB addr 1 6
  · have HE2 : Hid (R = []) := by show _ = _; rw [unhide HE]; unfold fillP; rw [hin]; rfl
    rw [hin] at HW
    go_wp2_with (first | (refine wpList_alloc_big rfl 78 rfl zSk.toArray zero_sk ?_) | (refine wpList_store_new rfl 78 _ _ rfl w1 zSk.toArray (skC bs mb dk).toArray rfl rfl rfl (size7a hs7) hsz (all_oneCell_toArray hone) ?_) | (go_at_call 67; refine (unhide HW _).mono ?_; rintro e w' ⟨rfl, hw'⟩; obtain rfl := hw'.symm))
    go_ret
    exact ⟨_, rfl, by rw [unhide HE2]; exact Sts.nilN _ _, B1⟩
  rw [fill_eq hok hin] at HE
  rw [hin] at HW
  have ha : 1 ≤ addr ∧ addr ≤ 6 := by simpa [inB] using hin
  have x84 := cK.cell 84 _ (sk_map (ok_len hok) (ok_fours hok))
  have hl : (Instr.lookup 74 (.map (some mb)) (.int .i64 addr) false).run Tryz.prog (w1.alloc (.cells (skC bs mb dk).toArray 78)) = .ok (.agg (rcC (mpR bs addr)).toArray) (w1.alloc (.cells (skC bs mb dk).toArray 78)) := (hM.below bA hM.lt).look (by omega) (by omega)
  have HV := hide (fun (v : Int) (w' : World) => toWrite_any bs hok mb dk hd6 2 addr v w')
  have HDO := hide (fun (w' : World) => dof_any dk hd6 addr ha.1 ha.2 w')
  have HSD := hide (size_dk hd6)
  have h4 := ok_len hok
  have hF := ok_fours hok
  have s1 : w1.heap.size < (w1.alloc (.cells (skC bs mb dk).toArray 78)).heap.size := by simp
  generalize mpR bs addr = r at *
  generalize dkV dk addr = dv at *
  clear hM hsk HR bA ha
  cases hnr : noRc r
  · have HE2 : Hid (R = []) := by show _ = _; rw [unhide HE, hnr]; rfl
    have hno : (!noRc r) = true := by rw [hnr]; rfl
    clear hnr HE
    go_wp2_with (first | (refine wpList_alloc_big rfl 78 rfl zSk.toArray zero_sk ?_) | (refine wpList_store_new rfl 78 _ _ rfl w1 zSk.toArray (skC bs mb dk).toArray rfl rfl rfl (size7a hs7) hsz (all_oneCell_toArray hone) ?_) | (go_at_call 67; refine (unhide HW _).mono ?_; rintro e w' ⟨rfl, hw'⟩; obtain rfl := hw'.symm) | (refine wpList_look_want _ _ _ false rfl rfl _ _ _ rfl rfl hl ?_) | (refine wpList_rec_neqW _ _ rfl rfl r true hno rfl rfl ?_))
    go_ret
    exact ⟨_, rfl, by rw [unhide HE2]; exact Sts.nilN _ _, B1⟩
  rw [hnr, if_pos rfl] at HE
  have hno : (!noRc r) = false := by rw [hnr]; rfl
  have HV2 := hide (unhide HV dv)
  rw [← unhide HE] at HV2
  clear HE HV hnr
  go_wp2_with (first | (refine wpList_alloc_big rfl 78 rfl zSk.toArray zero_sk ?_) | (refine wpList_store_new rfl 78 _ _ rfl w1 zSk.toArray (skC bs mb dk).toArray rfl rfl rfl (size7a hs7) hsz (all_oneCell_toArray hone) ?_) | (go_at_call 67; refine (unhide HW _).mono ?_; rintro e w' ⟨rfl, hw'⟩; obtain rfl := hw'.symm) | (refine wpList_look_want _ _ _ false rfl rfl _ _ _ rfl rfl hl ?_) | (refine wpList_rec_neqW _ _ rfl rfl r false hno rfl rfl ?_))
  clear x84 hl HW
  generalize w1.alloc (.cells (skC bs mb dk).toArray 78) = w2 at *
  generalize w1.heap.size = K at *
  refine wp_region_noPanic ?_
  refine wp_region_held_drew (S := fun w' => CsAt w' K (skC bs mb dk) ∧ K < w'.heap.size) (by kernel_rfl) (⟨⟨fun j v hv => cK.cells j v hv, fun j hj => cK.free j hj⟩, s1⟩) (fun hHeld => ?_)
  refine takeL 0 (_) rfl (by kernel_rfl) (by kernel_rfl) (by kernel_rfl) (fun _ _ _ h => h) (yieldsIf_load_mid rfl 78 _ rfl K 0 rfl (skC bs mb dk) _ (fun _ h => h.1.cells) Tryz.underlying78 rfl (unhide HSK)) hHeld ?_
  try simp only [Act.put, List.setIfInBounds_toArray, List.set_cons_zero, List.set_cons_succ]
  refine takeL 1 (.int .i64 addr) rfl (by kernel_rfl) (by kernel_rfl) (by kernel_rfl) (fun _ _ _ h => h) (Or.inl ⟨rfl, fun _ _ => rfl⟩) hHeld ?_
  try simp only [Act.put, List.setIfInBounds_toArray, List.set_cons_zero, List.set_cons_succ]
  refine takeL 2 (.pointer (some ⟨K, 85, none⟩)) rfl (by kernel_rfl) (by kernel_rfl) (by kernel_rfl) (fun _ _ _ h => h) (Or.inl ⟨rfl, fun w9 hSw => by go_simp⟩) hHeld ?_
  try simp only [Act.put, List.setIfInBounds_toArray, List.set_cons_zero, List.set_cons_succ]
  refine takeL 3 (_) rfl (by kernel_rfl) (by kernel_rfl) (by kernel_rfl) (fun _ _ _ h => h) (yieldsIf_load_mid rfl 76 _ rfl K 85 rfl (isC dk) _ (fun _ h => sk_diskR h4 hF h.1.cells) Tryz.underlying76 rfl (unhide HSD)) hHeld ?_
  try simp only [Act.put, List.setIfInBounds_toArray, List.set_cons_zero, List.set_cons_succ]
  refine takeL 4 (.int .i64 addr) rfl (by kernel_rfl) (by kernel_rfl) (by kernel_rfl) (fun _ _ _ h => h) (Or.inl ⟨rfl, fun _ _ => rfl⟩) hHeld ?_
  try simp only [Act.put, List.setIfInBounds_toArray, List.set_cons_zero, List.set_cons_succ]
  refine oneL 5 rfl (by kernel_rfl) rfl (fun K hK => ?_)
  go_simp
  refine (unhide HDO _).mono ?_
  rintro e w3 ⟨rfl, b3⟩
  go_wp2_with fail
  refine hK.out _ _ ⟨hHeld.1.below b3 hHeld.2, Nat.lt_of_lt_of_le hHeld.2 b3.size⟩ (fun hHeld => ?_)
  clear hK
  try simp only [Act.put, List.setIfInBounds_toArray, List.set_cons_zero, List.set_cons_succ]
  refine oneL 6 rfl (by kernel_rfl) rfl (fun K hK => ?_)
  go_simp
  refine (unhide HV2 _).mono ?_
  rintro e w4 ⟨v, rfl, hS, b4⟩
  go_wp2_with fail
  have B3 := B1.drew.trans (b3.mono B1.drew.size)
  have hS4 := hS.mono B3.size
  have B4 := B3.trans (b4.mono B3.size)
  refine hK.out _ _ ⟨hHeld.1.below b4 hHeld.2, Nat.lt_of_lt_of_le hHeld.2 b4.size⟩ (fun hHeld => ?_)
  clear hK
  try simp only [Act.put, List.setIfInBounds_toArray, List.set_cons_zero, List.set_cons_succ]
  refine takeL 7 (v) rfl (by kernel_rfl) (by kernel_rfl) (by kernel_rfl) (fun _ _ _ h => h) (Or.inl ⟨rfl, fun _ _ => rfl⟩) hHeld ?_
  try simp only [Act.put, List.setIfInBounds_toArray, List.set_cons_zero, List.set_cons_succ]
  refine wpAnyH_done (by kernel_rfl) ?_ _
  refine NoPanic.normal ?_
  go_wp2
  go_ret
  exact ⟨v, rfl, hS4, B4⟩
end Go.Proofs.YtbiokmojjneleaaGreat.TwC

/-
  The laws' helpers over a list of steps in a row of its own. Chapter 12's functions: how many steps they answer at most.
-/
namespace Go.Proofs.YtbiokmojjneleaaGreat.LawX
open Go.ChangeShapes Go.WideShapes Go.ChangeAt Go.RowKit Go.Shelf OkA Big Fl ImplB ImplF ImplS _root_.Go.Proofs.YtbiokmojjneleaaGreat.Own ImplT ImplU SpecA SpecB SpecC SpecD SpecW Ok2 Pl ImplL Kp StA StB StD StF StG SpS SpT RmA WrA FlA SpU LawsA LawsE LawV MarkB LawI LawT LawU
set_option linter.unusedVariables false
variable {w w' : World} {L : List Nat}

/-- A list of steps: empty, or a row of its own from lo to hi. -/
def InS (w : World) (lo hi : Nat) (v : Value) (l : List Stp) : Prop := (l = [] ∧ ∃ a c, v = .slice a 0 c) ∨ ∃ g cap, v = .slice (some ⟨g, 0, none⟩) l.length cap ∧ lo ≤ g ∧ g < hi ∧ CsAt w g (stsC l)
theorem InS.of {lo : Nat} {v : Value} {l : List Stp} (h : Sts w lo v l) : InS w lo w.heap.size v l := by
  by_cases hl : l = []
  · subst hl
    obtain ⟨a, cap, e, _⟩ := stsForm h
    exact .inl ⟨rfl, a, cap, e⟩
  · have hp : 0 < l.length := List.length_pos_iff.2 hl
    have hr := h.row
    obtain ⟨h1, h2⟩ := h.row
    rcases h2 with ⟨rfl, h2⟩ | ⟨g, cap, cur, rfl, hb, hh, r⟩
    · omega
    · have := row_pages hp hr
      exact .inr ⟨g, cap, rfl, hb, (h.lt g rfl).2, this.1, by rw [len_stsC]; exact this.2⟩
theorem InS.only {lo hi : Nat} {v : Value} {l : List Stp} (h : InS w lo hi v l) (ho : OnlyG L w w') (hh : hi ≤ w.heap.size) (hL : ∀ x ∈ L, x < lo ∨ hi ≤ x) : InS w' lo hi v l := by
  rcases h with h | ⟨g, cap, e, h1, h2, h⟩
  · exact .inl h
  · have hg : g ∉ L := fun hm => by have := hL g hm; omega
    exact .inr ⟨g, cap, e, h1, h2, fun j u hu => by rw [ho.cell g _ (by omega) hg]; exact h.cells j u hu, fun j hj => by rw [ho.cell g _ (by omega) hg, ho.frozen g _ (by omega) hg]; exact h.free j hj⟩
theorem InS.below {lo hi : Nat} {v : Value} {l : List Stp} (h : InS w lo hi v l) (hb : Below w.heap.size w w') (hh : hi ≤ w.heap.size) : InS w' lo hi v l := h.only (L := []) (OnlyG.of hb) hh (fun x hx => by simp at hx)
theorem InS.form {lo hi : Nat} {v : Value} {l : List Stp} (h : InS w lo hi v l) : ∃ a cap, v = .slice a l.length cap ∧ SsAt w a l := by
  rcases h with ⟨rfl, a, c, rfl⟩ | ⟨g, cap, rfl, _, _, h⟩
  · exact ⟨a, c, rfl, .inl rfl⟩
  · exact ⟨_, cap, rfl, .inr ⟨g, 0, rfl, h.cells⟩⟩
def MvS (w : World) (lo hi : Nat) (v : Value) (n : Nat) (e : Ending) (w' : World) : Prop := e = .returned (.int .i64 (1 + 8 * (n : Nat))) ∧ InS w' lo hi v (mkSs n 1) ∧ ∃ M : List Nat, OnlyG M w w' ∧ Below lo w w' ∧ ∀ x ∈ M, lo ≤ x ∧ x < hi
theorem put_len (bs : List Bk) (dk : List Int) (addr val : Int) : (putS bs dk addr val).length ≤ 7 := by
  unfold putS
  cases h : stB bs dk
  · simp
  · obtain ⟨hok, _⟩ := st_parts h
    have := writeP_len bs (ok_fours hok) (ok_len hok) 1 addr val
    simp only [if_true]; omega
theorem flush_len (bs : List Bk) (dk : List Int) (addr : Int) : (flushS bs dk addr).length ≤ 7 := by
  unfold flushS
  cases h : stB bs dk
  · simp
  · obtain ⟨hok, _⟩ := st_parts h
    have := writeP_len bs (ok_fours hok) (ok_len hok) 2 addr (readI bs dk addr)
    simp only [if_true]
    unfold flushP
    split
    · split
      · simp
      · simp; omega
    · simp
theorem fill_len (bs : List Bk) (dk : List Int) (addr : Int) : (fillS bs dk addr).length ≤ 7 := by
  unfold fillS
  cases h : stB bs dk
  · simp
  · obtain ⟨hok, _⟩ := st_parts h
    have := writeP_len bs (ok_fours hok) (ok_len hok) 2 addr (dk.getD (addr - 1).toNat 0)
    simp only [if_true]
    unfold fillP
    split
    · omega
    · simp
theorem here : True := trivial
end Go.Proofs.YtbiokmojjneleaaGreat.LawX
