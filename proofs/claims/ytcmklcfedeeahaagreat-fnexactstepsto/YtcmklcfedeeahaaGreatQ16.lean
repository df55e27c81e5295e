/-
  Texts that belong together, one behind the other: StG, QuA.
-/
import Derived.Test.YtcmklcfedeeahaaGreatQ15

/-
  The program's StoreOk, StoreRead, StoreAll and StoreDirty.
-/
namespace Go.Proofs.YtcmklcfedeeahaaGreat.StG
open Go.ChangeShapes Go.WideShapes Go.ChangeAt Go.RowKit Go.Shelf OkA Big Fl ImplB ImplF ImplS _root_.Go.Proofs.YtcmklcfedeeahaaGreat.Own ImplT ImplU SpecA SpecB SpecC SpecD SpecW SpecF SpecG SpecH Ok2 Pl FindP ImplO SpecX SpecO ImplQ ImplW ImplL FindN FindL FindV FindQ Kp StA MpA StB StC StD StE StF
set_option linter.unusedVariables false
set_option linter.unusedSimpArgs false
attribute [local go_sem ↓] Go.wp_at_zero Go.wp_at_succ

theorem size7 {sk : List Value} (h : sk.length = 91) : (Tryz.prog.info? 71).map (·.size) = some sk.length := by rw [h]; kernel_rfl
theorem size7a {sk : List Value} (h : sk.length = 91) : (Tryz.prog.info? 71).map (·.size) = some sk.toArray.size := by rw [List.size_toArray]; exact size7 h
/-- A store lies there. -/
structure SAt (w : World) (fa : Option Addr) (bs : List Bk) (da : Option Addr) (dk : List Int) : Prop where
  fs : FsAt w fa bs
  ds : DkAt w da dk
theorem SAt.below {w w' : World} {fa : Option Addr} {bs : List Bk} {da : Option Addr} {dk : List Int} (h : SAt w fa bs da dk) (hb : Below w.heap.size w w') : SAt w' fa bs da dk := ⟨h.fs.below hb, h.ds.below hb⟩

/-- What StoreRead answers, as the program reckons it. -/
def rdI (bs : List Bk) (dk : List Int) (addr : Int) : Int := if stI bs dk && inB addr 1 6 then mpV (mpF bs) dk addr else -1
/-- Which addresses are dirty, as the program reckons them. -/
def dyI (bs : List Bk) (dk : List Int) : List Int := if stI bs dk then whK kindD (mpF bs) 6 else []
/-- All values, as the program reckons them. -/
def alI (bs : List Bk) (dk : List Int) : List Int := if stI bs dk then (List.range 6).map fun i => mpV (mpF bs) dk ((i : Nat) + 1 : Int) else []
theorem made6 : madeCells (Value.int .i64 0).cells (6 * 1) = (isC zDk6).toArray := by kernel_rfl
theorem _root_.Go.Proofs.YtcmklcfedeeahaaGreat.ImplL.CsAt.setInt {w : World} {b k : Nat} {l : List Int} (h : CsAt w b (isC l)) (hk : k < l.length) (x : Int) : CsAt (w.setCell ⟨b, k, none⟩ (.int .i64 x)) b (isC (l.set k x)) := by
  have e : w.setCell ⟨b, k, none⟩ (.int .i64 x) = w.setCells b k [.int .i64 x] := rfl
  have ht : w.there b k 1 := by have := there_sub h.free k 1 (by rw [len_isC]; omega); rwa [Nat.zero_add] at this
  have hs : (isC (l.set k x)) = (isC l).set k (.int .i64 x) := by simp [isC, List.map_set]
  rw [e, hs]
  refine ⟨fun j v hv => ?_, by rw [List.length_set]; exact World.there_setCells h.free _ _ _⟩
  rw [Nat.zero_add]
  by_cases q : j = k
  · subst q
    rw [List.getElem?_set_self (by rw [len_isC]; exact hk)] at hv
    have := cell_setCells_eq (vs := [.int .i64 x]) ht 0 (by simp)
    rw [Nat.add_zero] at this
    rw [this]; simpa using hv
  · rw [List.getElem?_set_ne (fun e => q e.symm)] at hv
    rw [cell_setCells_ne (.inr (by simp; omega))]
    have := h.cells j v hv
    rwa [Nat.zero_add] at this

theorem here : True := trivial
end Go.Proofs.YtcmklcfedeeahaaGreat.StG

/-
  What steps change of a store, as it is kept; a step that waits, and what it does when it is done, or torn.
-/
namespace Go.Proofs.YtcmklcfedeeahaaGreat.QuA
open Go.ChangeShapes Go.WideShapes Go.ChangeAt Go.RowKit Go.Shelf OkA Big Fl ImplB ImplF ImplS _root_.Go.Proofs.YtcmklcfedeeahaaGreat.Own ImplT ImplU SpecA SpecB SpecC SpecD SpecW SpecF SpecG SpecH Ok2 Pl FindP SpecX SpecY ImplW ImplX ImplL Kp StA MpA StB StC StD StE StF StG
set_option linter.unusedVariables false
set_option linter.unusedSimpArgs false
attribute [local go_sem ↓] Go.wp_at_zero Go.wp_at_succ

/-! The blocks and the slow disk, as they are kept. -/
def ssC (ks : List Bk) (dk : List Int) : List Value := fsC ks ++ isC dk
theorem fs84 {ks : List Bk} (h4 : ks.length = 4) (hF : Fours ks) : (fsC ks).length = 84 := by rw [len_fsC ks hF, h4]
theorem ss_len {ks : List Bk} {dk : List Int} (h4 : ks.length = 4) (hF : Fours ks) (h : dk.length = 6) : (ssC ks dk).length = 90 := by rw [ssC, List.length_append, len_isC, h, fs84 h4 hF]
theorem size_ss {ks : List Bk} {dk : List Int} (h4 : ks.length = 4) (hF : Fours ks) (h : dk.length = 6) : (Tryz.prog.info? 80).map (·.size) = some (ssC ks dk).length := by rw [ss_len h4 hF h]; kernel_rfl
theorem size_ssa {ks : List Bk} {dk : List Int} (h4 : ks.length = 4) (hF : Fours ks) (h : dk.length = 6) : (Tryz.prog.info? 80).map (·.size) = some (ssC ks dk).toArray.size := by rw [List.size_toArray]; exact size_ss h4 hF h
theorem one_ssv (ks : List Bk) (dk : List Int) : ∀ v ∈ ssC ks dk, v.oneCell' = true := fun v hv => by
  rcases List.mem_append.1 hv with h | h
  · exact one_fsC ks v h
  · exact one_isC dk v h
theorem one_ss (ks : List Bk) (dk : List Int) : (ssC ks dk).toArray.all (·.oneCell') = true := all_oneCell_toArray (one_ssv ks dk)
def zSs : List Value := fsC zFs ++ isC zDk6
theorem len_zss : zSs.length = 90 := by kernel_rfl
theorem zero_ss : (Tryz.prog.info? 80).bind (·.zero) = some (.agg zSs.toArray) := by kernel_rfl
theorem ss_flash {w : World} {S : Nat} {ks : List Bk} {dk : List Int} (h : w.rangeAt S 0 (ssC ks dk)) : w.rangeAt S 0 (fsC ks) := (range_app.1 h).1
theorem ss_disk {w : World} {S : Nat} {ks : List Bk} {dk : List Int} (h4 : ks.length = 4) (hF : Fours ks) (h : w.rangeAt S 0 (ssC ks dk)) : w.rangeAt S 84 (isC dk) := by
  have := (range_app.1 h).2
  rwa [fs84 h4 hF, Nat.zero_add] at this
theorem ss_free {w : World} {S : Nat} {ks : List Bk} {dk : List Int} (h4 : ks.length = 4) (hF : Fours ks) (h6 : dk.length = 6) (h : CsAt w S (ssC ks dk)) : w.there S 0 84 ∧ w.there S 84 6 := by
  have hf := h.free
  rw [ss_len h4 hF h6] at hf
  have a := there_sub hf 0 84 (by omega)
  have b := there_sub hf 84 6 (by omega)
  exact ⟨by simpa using a, by simpa using b⟩
theorem ss_putF {w : World} {S : Nat} {ks ks' : List Bk} {dk : List Int} (h4 : ks.length = 4) (hF : Fours ks) (g4 : ks'.length = 4) (gF : Fours ks') (h6 : dk.length = 6) (h : CsAt w S (ssC ks dk)) : CsAt (w.setCells S 0 (fsC ks')) S (ssC ks' dk) := by
  refine ⟨range_app.2 ⟨World.rangeAt_setCells_same _ _ _ _ (by rw [fs84 g4 gF]; exact (ss_free h4 hF h6 h).1), ?_⟩, ?_⟩
  · rw [fs84 g4 gF, Nat.zero_add]
    exact World.rangeAt_setCells_apart (ss_disk h4 hF h.cells) _ _ _ (.inr (.inr (by rw [fs84 g4 gF]; omega)))
  · have := World.there_setCells h.free S 0 (fsC ks')
    rw [ss_len h4 hF h6] at this
    rw [ss_len g4 gF h6]; exact this
theorem ss_putD {w : World} {S : Nat} {ks : List Bk} {dk dk' : List Int} (h4 : ks.length = 4) (hF : Fours ks) (h6 : dk.length = 6) (g6 : dk'.length = 6) (h : CsAt w S (ssC ks dk)) : CsAt (w.setCells S 84 (isC dk')) S (ssC ks dk') := by
  refine ⟨range_app.2 ⟨World.rangeAt_setCells_apart (ss_flash h.cells) _ _ _ (.inr (.inl (by rw [fs84 h4 hF]; omega))), ?_⟩, ?_⟩
  · rw [fs84 h4 hF, Nat.zero_add]
    exact World.rangeAt_setCells_same _ _ _ _ (by rw [len_isC, g6]; exact (ss_free h4 hF h6 h).2)
  · have := World.there_setCells h.free S 84 (isC dk')
    rw [ss_len h4 hF h6] at this
    rw [ss_len h4 hF g6]; exact this

/-! The slow disk. -/
set_option maxRecDepth 100000 in
set_option maxHeartbeats 1000000 in
theorem with_any (dk : List Int) (h6 : dk.length = 6) (addr val : Int) (ha0 : 1 ≤ addr) (ha6 : addr ≤ 6) (w : World) :
    Calls Tryz.prog 100 #[.agg (isC dk).toArray, .int .i64 addr, .int .i64 val] w fun e w' => e = .returned (.agg (isC (dk.set (addr - 1).toNat val)).toArray) ∧ Below w.heap.size w w' := by
  obtain ⟨n, rfl⟩ : ∃ n : Nat, addr = (n : Int) + 1 := ⟨(addr - 1).toNat, by omega⟩
  have hn6 : n < 6 := by omega
  have e1 : ((n : Int) + 1 - 1).toNat = n := by omega
  rw [e1]
  have cA := (CsAt.new w (isC dk) 69).alloc (by simp) (.cells (isC zDk6).toArray 69)
  have cR := CsAt.new (w.alloc (.cells (isC dk).toArray 69)) (isC zDk6) 69
  rw [World.size_alloc] at cR
  have B0 : Below w.heap.size w ((w.alloc (.cells (isC dk).toArray 69)).alloc (.cells (isC zDk6).toArray 69)) := ((Below.refl _ _).alloc (Nat.le_refl _) _).alloc (by simp) _
  have hnl : n < (isC dk).length := by rw [len_isC]; omega
  have x0 := cA.cell n _ (List.getElem?_eq_getElem hnl)
  have f0 := cA.frozen n hnl
  generalize (isC dk)[n] = old at *
  have cA2 := cA.setInt (k := n) (by omega) val
  have cR2 : CsAt (((w.alloc (.cells (isC dk).toArray 69)).alloc (.cells (isC zDk6).toArray 69)).setCell ⟨w.heap.size, n, none⟩ (.int .i64 val)) (w.heap.size + 1) (isC zDk6) := cR.other (show w.heap.size + 1 ≠ w.heap.size by omega) n [.int .i64 val]
  have B2 : Below w.heap.size w (((w.alloc (.cells (isC dk).toArray 69)).alloc (.cells (isC zDk6).toArray 69)).setCell ⟨w.heap.size, n, none⟩ (.int .i64 val)) := B0.setCell (Nat.le_refl _) _
  have h7 : (dk.set n val).length = 6 := by rw [List.length_set]; exact h6
  have hn0 : (0 : Int) ≤ (n : Int) := by omega
  have hnl6 : (n : Int) < 6 := by omega
  have e2 : ((n : Int) + 1 - 1) = (n : Int) := by omega
  clear cA cR B0
  go_enter Tryz.func100, Tryz.ntmps100
  go_upto_region 1 with (first | (refine wpList_box_big rfl _ _ rfl (isC dk).toArray rfl ?_) | (refine wpList_alloc_big rfl 69 rfl (isC zDk6).toArray zero_dk ?_))
  generalize (w.alloc (.cells (isC dk).toArray 69)).alloc (.cells (isC zDk6).toArray 69) = w1 at *
  go_upto_region 2 with fail
  generalize w1.setCell ⟨w.heap.size, n, none⟩ (.int .i64 val) = w2 at *
  generalize hds : dk.set n val = ds at *
  have HDS := hide hds
  clear hds
  have rA := cA2.cells
  have tz : w2.there (w.heap.size + 1) 0 (isC ds).toArray.size := by rw [show (isC ds).toArray.size = 6 by rw [List.size_toArray, len_isC, h7]]; exact cR2.free
  have p1 := cR2.put (isC ds) (by rw [len_isC, h7]; rfl)
  have Bz := below_setCells (w.heap.size + 1) (show w.heap.size ≤ w.heap.size + 1 by omega) (isC ds) 0 _ B2
  have HSZ := hide (size_dk h7)
  clear x0 f0 cA2 cR2 B2
  go_wp2_with (first | (refine wpList_load_mid rfl 69 _ rfl w.heap.size 0 rfl (isC ds) _ rA Tryz.underlying69 rfl (unhide HSZ) ?_) | (refine wpList_store_mid rfl 69 _ _ rfl (w.heap.size + 1) 0 (isC ds).toArray rfl rfl tz (size_dka h7) (all_oneCell_toArray (one_isC _)) ?_) | (refine bodyPost_ret (res_cell_mid Tryz.results100 _ _ (w.heap.size + 1) (isC ds) _ rfl p1.cells Tryz.underlying69 rfl (unhide HSZ)) rfl (unhide ?_)))
  exact hide ⟨by rw [unhide HDS], Bz⟩

def DlPost (w : World) (dk : List Int) (e : Ending) (w' : World) : Prop := e = .returned (.slice (some ⟨w.heap.size + 1, 0, none⟩) 6 6) ∧ CsAt w' (w.heap.size + 1) (isC dk) ∧ w.heap.size + 1 < w'.heap.size ∧ Below w.heap.size w w'
set_option maxRecDepth 100000 in
set_option maxHeartbeats 1000000 in
theorem dlist_any (dk : List Int) (h6 : dk.length = 6) (w : World) :
    Calls Tryz.prog 53 #[.agg (isC dk).toArray] w fun e w' => DlPost w dk e w' := by
  have cA := (CsAt.new w (isC dk) 69).alloc (by simp) (.cells (isC zDk6).toArray 3)
  have cN := CsAt.new (w.alloc (.cells (isC dk).toArray 69)) (isC zDk6) 3
  rw [World.size_alloc] at cN
  have B0 : Below w.heap.size w ((w.alloc (.cells (isC dk).toArray 69)).alloc (.cells (isC zDk6).toArray 3)) := ((Below.refl _ _).alloc (Nat.le_refl _) _).alloc (by simp) _
  have s0 : w.heap.size + 1 < ((w.alloc (.cells (isC dk).toArray 69)).alloc (.cells (isC zDk6).toArray 3)).heap.size := by simp
  have hl6 : (isC dk).length = 6 * 1 := by rw [len_isC, h6]
  have tN : ((w.alloc (.cells (isC dk).toArray 69)).alloc (.cells (isC zDk6).toArray 3)).there (w.heap.size + 1) 0 (6 * 1) := cN.free
  have cN2 := cN.put (isC dk) (by rw [len_isC, h6]; rfl)
  have B2 := below_setCells (w.heap.size + 1) (show w.heap.size ≤ w.heap.size + 1 by omega) (isC dk) 0 _ B0
  have s2 : w.heap.size + 1 < (((w.alloc (.cells (isC dk).toArray 69)).alloc (.cells (isC zDk6).toArray 3)).setCells (w.heap.size + 1) 0 (isC dk)).heap.size := by rw [size_setCells]; exact s0
  have hsrc := src_mid cA.cells
  go_enter Tryz.func53, Tryz.ntmps53
  go_wp2_with (first | (refine wpList_box_big rfl _ _ rfl (isC dk).toArray rfl ?_) | (refine wpList_make_big rfl 23 _ _ rfl 6 rfl rfl 3 1 8 (.int .i64 0) Tryz.underlying23 made_int (by omega) (by omega) ?_; rw [made6]) | (refine wpList_copy_big rfl _ _ 23 23 rfl 3 (w.heap.size + 1) 0 6 6 ⟨w.heap.size, 0, none⟩ 6 1 (isC dk) Tryz.underlying23 (by kernel_rfl) rfl rfl hl6 hsrc tN (one_isC dk) ?_))
  go_ret
  exact ⟨rfl, cN2, s2, B2⟩

/-! What a step does. -/
def SsPost (w : World) (ks : List Bk) (dk : List Int) (e : Ending) (w' : World) : Prop := e = .returned (.agg (ssC ks dk).toArray) ∧ Below w.heap.size w w'
set_option maxRecDepth 100000 in
set_option maxHeartbeats 1000000 in
theorem doDisk1_any (ks : List Bk) (hok : okB ks = true) (dk : List Int) (h6 : dk.length = 6) (p q : Nat) (addr val : Int) (ha0 : 1 ≤ addr) (ha6 : addr ≤ 6) (torn : Bool) (w : World) (hp : w.cell? ⟨p, 0, none⟩ = some (.int .i64 addr)) (hq : w.cell? ⟨q, 0, none⟩ = some (.int .i64 val)) :
    Calls Tryz.prog 99 #[.agg (ssC ks dk).toArray, .bool torn, .pointer (some ⟨p, 0, none⟩), .pointer (some ⟨q, 0, none⟩)] w fun e w' => SsPost w ks (if torn then dk else dk.set (addr - 1).toNat val) e w' := by
  have cA := (CsAt.new w (ssC ks dk) 80).alloc (by simp) (.cells zSs.toArray 80)
  have cR := CsAt.new (w.alloc (.cells (ssC ks dk).toArray 80)) zSs 80
  rw [World.size_alloc] at cR
  have B0 : Below w.heap.size w ((w.alloc (.cells (ssC ks dk).toArray 80)).alloc (.cells zSs.toArray 80)) := ((Below.refl _ _).alloc (Nat.le_refl _) _).alloc (by simp) _
  have s0 : w.heap.size + 1 < ((w.alloc (.cells (ssC ks dk).toArray 80)).alloc (.cells zSs.toArray 80)).heap.size := by simp
  have hk4 := ok_len hok
  have hkF := ok_fours hok
  have hpl := cell_lt hp
  have hql := cell_lt hq
  have p0 := hp
  have q0 := hq
  rw [← B0.cell (p := ⟨p, 0, none⟩) hpl] at p0
  rw [← B0.cell (p := ⟨q, 0, none⟩) hql] at q0
  have HWI := hide (with_any dk h6 addr val ha0 ha6)
  have h7 : (dk.set (addr - 1).toNat val).length = 6 := by rw [List.length_set]; exact h6
  clear hp hq
  generalize dk.set (addr - 1).toNat val = ds at *
  go_enter Tryz.func99, Tryz.ntmps99
  cases torn
  rotate_left
  · simp only [if_true]
    have rE := cA.cells
    have HSE := hide (size_ss hk4 hkF h6)
    have tE : ((w.alloc (.cells (ssC ks dk).toArray 80)).alloc (.cells zSs.toArray 80)).there (w.heap.size + 1) 0 (ssC ks dk).toArray.size := by rw [show (ssC ks dk).toArray.size = 90 by rw [List.size_toArray, ss_len hk4 hkF h6]]; have := cR.free; rwa [len_zss] at this
    have pE := cR.put (ssC ks dk) (by rw [ss_len hk4 hkF h6, len_zss])
    have BE := below_setCells (w.heap.size + 1) (show w.heap.size ≤ w.heap.size + 1 by omega) (ssC ks dk) 0 _ B0
    go_wp2_with (first | (refine wpList_box_big rfl _ _ rfl (ssC ks dk).toArray rfl ?_) | (refine wpList_alloc_big rfl 80 rfl zSs.toArray zero_ss ?_) | (refine wpList_load_mid rfl 80 _ rfl w.heap.size 0 rfl (ssC ks dk) _ rE Tryz.underlying80 rfl (unhide HSE) ?_) | (refine wpList_store_mid rfl 80 _ _ rfl (w.heap.size + 1) 0 (ssC ks dk).toArray rfl rfl tE (size_ssa hk4 hkF h6) (one_ss _ _) ?_) | (refine bodyPost_ret (res_cell_mid Tryz.results99 _ _ (w.heap.size + 1) (ssC ks dk) _ rfl pE.cells Tryz.underlying80 rfl (unhide HSE)) rfl (unhide ?_)))
    exact hide ⟨rfl, BE⟩
  · simp only [Bool.false_eq_true, if_false]
    have rD := ss_disk hk4 hkF cA.cells
    have HSD := hide (size_dk h6)
    go_wp2_with (first | (refine wpList_box_big rfl _ _ rfl (ssC ks dk).toArray rfl ?_) | (refine wpList_alloc_big rfl 80 rfl zSs.toArray zero_ss ?_) | (refine wpList_load_mid rfl 69 _ rfl w.heap.size 84 rfl (isC dk) _ rD Tryz.underlying69 rfl (unhide HSD) ?_))
    clear rD p0 q0
    generalize (w.alloc (.cells (ssC ks dk).toArray 80)).alloc (.cells zSs.toArray 80) = w1 at *
    refine (unhide HWI _).mono ?_
    rintro e w3 ⟨rfl, b3⟩
    have cA3 := cA.below b3 (by omega)
    have cR3 := cR.below b3 (by omega)
    have B3 := B0.trans (b3.mono B0.size)
    have tD : w3.there w.heap.size 84 (isC ds).toArray.size := by rw [show (isC ds).toArray.size = 6 by rw [List.size_toArray, len_isC, h7]]; exact (ss_free hk4 hkF h6 cA3).2
    have cA4 := ss_putD hk4 hkF h6 h7 cA3
    have cR4 := cR3.other (show w.heap.size + 1 ≠ w.heap.size by omega) 84 (isC ds)
    have B4 := below_setCells w.heap.size (Nat.le_refl _) (isC ds) 84 _ B3
    clear cA cR B0 s0 b3 cA3 cR3 B3 HWI
    go_upto_region 3 with (refine wpList_store_mid rfl 69 _ _ rfl w.heap.size 84 (isC ds).toArray rfl rfl tD (size_dka h7) (all_oneCell_toArray (one_isC _)) ?_)
    clear tD
    generalize w3.setCells w.heap.size 84 (isC ds) = w4 at *
    have rE := cA4.cells
    have HSE := hide (size_ss hk4 hkF h7)
    have tE : w4.there (w.heap.size + 1) 0 (ssC ks ds).toArray.size := by rw [show (ssC ks ds).toArray.size = 90 by rw [List.size_toArray, ss_len hk4 hkF h7]]; have := cR4.free; rwa [len_zss] at this
    have pE := cR4.put (ssC ks ds) (by rw [ss_len hk4 hkF h7, len_zss])
    have BE := below_setCells (w.heap.size + 1) (show w.heap.size ≤ w.heap.size + 1 by omega) (ssC ks ds) 0 _ B4
    clear cA4 cR4 B4
    go_wp2_with (first | (refine wpList_load_mid rfl 80 _ rfl w.heap.size 0 rfl (ssC ks ds) _ rE Tryz.underlying80 rfl (unhide HSE) ?_) | (refine wpList_store_mid rfl 80 _ _ rfl (w.heap.size + 1) 0 (ssC ks ds).toArray rfl rfl tE (size_ssa hk4 hkF h7) (one_ss _ _) ?_) | (refine bodyPost_ret (res_cell_mid Tryz.results99 _ _ (w.heap.size + 1) (ssC ks ds) _ rfl pE.cells Tryz.underlying80 rfl (unhide HSE)) rfl (unhide ?_)))
    exact hide ⟨rfl, BE⟩

set_option maxRecDepth 100000 in
set_option maxHeartbeats 1000000 in
theorem doWipe1_any (ks : List Bk) (hok : okB ks = true) (dk : List Int) (h6 : dk.length = 6) (p : Nat) (k : Nat) (hk : k < 4) (torn : Bool) (w : World) (hp : w.cell? ⟨p, 0, none⟩ = some (.int .i64 (k : Nat))) :
    Calls Tryz.prog 101 #[.agg (ssC ks dk).toArray, .bool torn, .pointer (some ⟨p, 0, none⟩)] w fun e w' => SsPost w (wiK ks k torn) dk e w' := by
  have cA := (CsAt.new w (ssC ks dk) 80).alloc (by simp) (.cells zSs.toArray 80)
  have cR := CsAt.new (w.alloc (.cells (ssC ks dk).toArray 80)) zSs 80
  rw [World.size_alloc] at cR
  have B0 : Below w.heap.size w ((w.alloc (.cells (ssC ks dk).toArray 80)).alloc (.cells zSs.toArray 80)) := ((Below.refl _ _).alloc (Nat.le_refl _) _).alloc (by simp) _
  have s0 : w.heap.size + 1 < ((w.alloc (.cells (ssC ks dk).toArray 80)).alloc (.cells zSs.toArray 80)).heap.size := by simp
  have hk4 := ok_len hok
  have hkF := ok_fours hok
  have hpl := cell_lt hp
  have p0 := hp
  rw [← B0.cell (p := ⟨p, 0, none⟩) hpl] at p0
  have HWI := hide (wipeK_any ks hok k hk torn)
  have h4s := wiK_len hk4 k torn
  have hFs := wiK_fours hkF k torn
  have HSF := hide (size_fsl hkF hk4)
  have rF := ss_flash cA.cells
  generalize wiK ks k torn = Rs at *
  clear hok hp
  go_enter Tryz.func101, Tryz.ntmps101
  go_wp2_with (first | (refine wpList_box_big rfl _ _ rfl (ssC ks dk).toArray rfl ?_) | (refine wpList_alloc_big rfl 80 rfl zSs.toArray zero_ss ?_) | (refine wpList_load_mid rfl 66 _ rfl w.heap.size 0 rfl (fsC ks) _ rF Tryz.underlying66 rfl (unhide HSF) ?_))
  clear rF p0
  generalize (w.alloc (.cells (ssC ks dk).toArray 80)).alloc (.cells zSs.toArray 80) = w1 at *
  refine (unhide HWI _).mono ?_
  rintro e w3 ⟨rfl, b3⟩
  have cA3 := cA.below b3 (by omega)
  have cR3 := cR.below b3 (by omega)
  have B3 := B0.trans (b3.mono B0.size)
  have tD : w3.there w.heap.size 0 (fsC Rs).toArray.size := by rw [show (fsC Rs).toArray.size = 84 by rw [List.size_toArray, fs84 h4s hFs]]; exact (ss_free hk4 hkF h6 cA3).1
  have cA4 := ss_putF hk4 hkF h4s hFs h6 cA3
  have cR4 := cR3.other (show w.heap.size + 1 ≠ w.heap.size by omega) 0 (fsC Rs)
  have B4 := below_setCells w.heap.size (Nat.le_refl _) (fsC Rs) 0 _ B3
  clear cA cR B0 s0 b3 cA3 cR3 B3 HWI
  go_upto_region 2 with (refine wpList_store_mid rfl 66 _ _ rfl w.heap.size 0 (fsC Rs).toArray rfl rfl tD (size_fsa hFs h4s) (one_fs Rs) ?_)
  clear tD
  generalize w3.setCells w.heap.size 0 (fsC Rs) = w4 at *
  have rE := cA4.cells
  have HSE := hide (size_ss h4s hFs h6)
  have tE : w4.there (w.heap.size + 1) 0 (ssC Rs dk).toArray.size := by rw [show (ssC Rs dk).toArray.size = 90 by rw [List.size_toArray, ss_len h4s hFs h6]]; have := cR4.free; rwa [len_zss] at this
  have pE := cR4.put (ssC Rs dk) (by rw [ss_len h4s hFs h6, len_zss])
  have BE := below_setCells (w.heap.size + 1) (show w.heap.size ≤ w.heap.size + 1 by omega) (ssC Rs dk) 0 _ B4
  clear cA4 cR4 B4
  go_wp2_with (first | (refine wpList_load_mid rfl 80 _ rfl w.heap.size 0 rfl (ssC Rs dk) _ rE Tryz.underlying80 rfl (unhide HSE) ?_) | (refine wpList_store_mid rfl 80 _ _ rfl (w.heap.size + 1) 0 (ssC Rs dk).toArray rfl rfl tE (size_ssa h4s hFs h6) (one_ss _ _) ?_) | (refine bodyPost_ret (res_cell_mid Tryz.results101 _ _ (w.heap.size + 1) (ssC Rs dk) _ rfl pE.cells Tryz.underlying80 rfl (unhide HSE)) rfl (unhide ?_)))
  exact hide ⟨rfl, BE⟩

set_option maxRecDepth 100000 in
set_option maxHeartbeats 1000000 in
theorem doWrite1_any (ks : List Bk) (hok : okB ks = true) (dk : List Int) (h6 : dk.length = 6) (p q : Nat) (k : Nat) (hk : k < 4) (r : Rc) (torn : Bool) (w : World) (hp : w.cell? ⟨p, 0, none⟩ = some (.int .i64 (k : Nat))) (hq : w.rangeAt q 0 (rcC r)) :
    Calls Tryz.prog 103 #[.agg (ssC ks dk).toArray, .bool torn, .pointer (some ⟨p, 0, none⟩), .pointer (some ⟨q, 0, none⟩)] w fun e w' => SsPost w (wrK ks k r.k r.s r.a r.v torn) dk e w' := by
  have cA := (CsAt.new w (ssC ks dk) 80).alloc (by simp) (.cells zSs.toArray 80)
  have cR := CsAt.new (w.alloc (.cells (ssC ks dk).toArray 80)) zSs 80
  rw [World.size_alloc] at cR
  have B0 : Below w.heap.size w ((w.alloc (.cells (ssC ks dk).toArray 80)).alloc (.cells zSs.toArray 80)) := ((Below.refl _ _).alloc (Nat.le_refl _) _).alloc (by simp) _
  have s0 : w.heap.size + 1 < ((w.alloc (.cells (ssC ks dk).toArray 80)).alloc (.cells zSs.toArray 80)).heap.size := by simp
  have hk4 := ok_len hok
  have hkF := ok_fours hok
  have hpl := cell_lt hp
  have p0 := hp
  rw [← B0.cell (p := ⟨p, 0, none⟩) hpl] at p0
  have hql := cell_lt (hq 0 _ rfl)
  have rq := rangeAt_below hq B0 hql
  have q0 := rq 0 _ rfl
  have q1 := rq 1 _ rfl
  have q2 := rq 2 _ rfl
  have q3 := rq 3 _ rfl
  simp only [Nat.zero_add] at q0 q1 q2 q3
  have HWI := hide (writeK_any ks (ok_len hok) (ok_fours hok) k hk r.k r.s r.a r.v torn)
  have h4s := wrK_len hk4 k r.k r.s r.a r.v torn
  have hFs := wrK_fours hk4 hkF k hk r.k r.s r.a r.v torn
  have HSF := hide (size_fsl hkF hk4)
  have rF := ss_flash cA.cells
  generalize wrK ks k r.k r.s r.a r.v torn = Rs at *
  clear hok hp hq
  go_enter Tryz.func103, Tryz.ntmps103
  go_wp2_with (first | (refine wpList_box_big rfl _ _ rfl (ssC ks dk).toArray rfl ?_) | (refine wpList_alloc_big rfl 80 rfl zSs.toArray zero_ss ?_) | (refine wpList_load_mid rfl 66 _ rfl w.heap.size 0 rfl (fsC ks) _ rF Tryz.underlying66 rfl (unhide HSF) ?_))
  clear rF p0 q0 q1 q2 q3 rq
  generalize (w.alloc (.cells (ssC ks dk).toArray 80)).alloc (.cells zSs.toArray 80) = w1 at *
  refine (unhide HWI _).mono ?_
  rintro e w3 ⟨rfl, b3⟩
  have cA3 := cA.below b3 (by omega)
  have cR3 := cR.below b3 (by omega)
  have B3 := B0.trans (b3.mono B0.size)
  have tD : w3.there w.heap.size 0 (fsC Rs).toArray.size := by rw [show (fsC Rs).toArray.size = 84 by rw [List.size_toArray, fs84 h4s hFs]]; exact (ss_free hk4 hkF h6 cA3).1
  have cA4 := ss_putF hk4 hkF h4s hFs h6 cA3
  have cR4 := cR3.other (show w.heap.size + 1 ≠ w.heap.size by omega) 0 (fsC Rs)
  have B4 := below_setCells w.heap.size (Nat.le_refl _) (fsC Rs) 0 _ B3
  clear cA cR B0 s0 b3 cA3 cR3 B3 HWI
  go_upto_region 2 with (refine wpList_store_mid rfl 66 _ _ rfl w.heap.size 0 (fsC Rs).toArray rfl rfl tD (size_fsa hFs h4s) (one_fs Rs) ?_)
  clear tD
  generalize w3.setCells w.heap.size 0 (fsC Rs) = w4 at *
  have rE := cA4.cells
  have HSE := hide (size_ss h4s hFs h6)
  have tE : w4.there (w.heap.size + 1) 0 (ssC Rs dk).toArray.size := by rw [show (ssC Rs dk).toArray.size = 90 by rw [List.size_toArray, ss_len h4s hFs h6]]; have := cR4.free; rwa [len_zss] at this
  have pE := cR4.put (ssC Rs dk) (by rw [ss_len h4s hFs h6, len_zss])
  have BE := below_setCells (w.heap.size + 1) (show w.heap.size ≤ w.heap.size + 1 by omega) (ssC Rs dk) 0 _ B4
  clear cA4 cR4 B4
  go_wp2_with (first | (refine wpList_load_mid rfl 80 _ rfl w.heap.size 0 rfl (ssC Rs dk) _ rE Tryz.underlying80 rfl (unhide HSE) ?_) | (refine wpList_store_mid rfl 80 _ _ rfl (w.heap.size + 1) 0 (ssC Rs dk).toArray rfl rfl tE (size_ssa h4s hFs h6) (one_ss _ _) ?_) | (refine bodyPost_ret (res_cell_mid Tryz.results103 _ _ (w.heap.size + 1) (ssC Rs dk) _ rfl pE.cells Tryz.underlying80 rfl (unhide HSE)) rfl (unhide ?_)))
  exact hide ⟨rfl, BE⟩
end Go.Proofs.YtcmklcfedeeahaaGreat.QuA
