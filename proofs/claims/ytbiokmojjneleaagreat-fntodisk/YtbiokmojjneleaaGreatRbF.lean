/-
  Texts that belong together, one behind the other: QuA, QuB, QuC, QuD.
-/
import Derived.Test.YtbiokmojjneleaaGreatHaX
import Derived.Test.YtbiokmojjneleaaGreatHaT
import Derived.Test.YtbiokmojjneleaaGreatRaP
import Derived.Laws.EntriesVeiled
import Derived.Test.YtbiokmojjneleaaGreatRbB
import Derived.Test.YtbiokmojjneleaaGreatHaZ
import Derived.Shelf.Abstract

/-
  What steps change of a store, as it is kept; a step that waits, and what it does when it is done, or torn.
-/
namespace Go.Proofs.YtbiokmojjneleaaGreat.QuA
open Go.ChangeShapes Go.WideShapes Go.ChangeAt Go.RowKit Go.Shelf OkA Big Fl ImplB ImplF ImplS _root_.Go.Proofs.YtbiokmojjneleaaGreat.Own ImplT ImplU SpecA SpecB SpecC SpecD SpecW SpecF SpecG SpecH Ok2 Pl FindP SpecX SpecY ImplW ImplX ImplL Kp StA MpA StB StC StD StE StF StG
set_option linter.unusedVariables false
set_option linter.unusedSimpArgs false
attribute [local go_sem ↓] Go.wp_at_zero Go.wp_at_succ

/-! The blocks and the slow disk, as they are kept. -/
def ssC (ks : List Bk) (dk : List Int) : List Value := fsC ks ++ isC dk
theorem fs84 {ks : List Bk} (h4 : ks.length = 4) (hF : Fours ks) : (fsC ks).length = 84 := by rw [len_fsC ks hF, h4]
theorem ss_len {ks : List Bk} {dk : List Int} (h4 : ks.length = 4) (hF : Fours ks) (h : dk.length = 6) : (ssC ks dk).length = 90 := by rw [ssC, List.length_append, len_isC, h, fs84 h4 hF]
theorem size_ss {ks : List Bk} {dk : List Int} (h4 : ks.length = 4) (hF : Fours ks) (h : dk.length = 6) : (Tryz.prog.info? 87).map (·.size) = some (ssC ks dk).length := by rw [ss_len h4 hF h]; kernel_rfl
theorem size_ssa {ks : List Bk} {dk : List Int} (h4 : ks.length = 4) (hF : Fours ks) (h : dk.length = 6) : (Tryz.prog.info? 87).map (·.size) = some (ssC ks dk).toArray.size := by rw [List.size_toArray]; exact size_ss h4 hF h
theorem one_ssv (ks : List Bk) (dk : List Int) : ∀ v ∈ ssC ks dk, v.oneCell' = true := fun v hv => by
  rcases List.mem_append.1 hv with h | h
  · exact one_fsC ks v h
  · exact one_isC dk v h
theorem one_ss (ks : List Bk) (dk : List Int) : (ssC ks dk).toArray.all (·.oneCell') = true := all_oneCell_toArray (one_ssv ks dk)
def zSs : List Value := fsC zFs ++ isC zDk6
theorem len_zss : zSs.length = 90 := by kernel_rfl
theorem zero_ss : (Tryz.prog.info? 87).bind (·.zero) = some (.agg zSs.toArray) := by kernel_rfl
theorem ss_flash {w : World} {S : Nat} {ks : List Bk} {dk : List Int} (h : w.rangeAt S 0 (ssC ks dk)) : w.rangeAt S 0 (fsC ks) := (range_app.1 h).1
theorem ss_disk {w : World} {S : Nat} {ks : List Bk} {dk : List Int} (h4 : ks.length = 4) (hF : Fours ks) (h : w.rangeAt S 0 (ssC ks dk)) : w.rangeAt S 84 (isC dk) := by
  have := (range_app.1 h).2
  rwa [fs84 h4 hF, Nat.zero_add] at this
theorem ss_free {w : World} {S : Nat} {ks : List Bk} {dk : List Int} (h4 : ks.length = 4) (hF : Fours ks) (h6 : dk.length = 6) (h : CsAt w S (ssC ks dk)) : w.there S 0 84 ∧ w.there S 84 6 := by
  have hf := h.free
  rw [ss_len h4 hF h6] at hf
  have a := there_sub hf 0 84 (by omega)
  have b := there_sub hf 84 6 (by omega)
  exact ⟨by simpa using a, by simpa using b⟩
theorem ss_putF {w : World} {S : Nat} {ks ks' : List Bk} {dk : List Int} (h4 : ks.length = 4) (hF : Fours ks) (g4 : ks'.length = 4) (gF : Fours ks') (h6 : dk.length = 6) (h : CsAt w S (ssC ks dk)) : CsAt (w.setCells S 0 (fsC ks')) S (ssC ks' dk) := by
  refine ⟨range_app.2 ⟨World.rangeAt_setCells_same _ _ _ _ (by rw [fs84 g4 gF]; exact (ss_free h4 hF h6 h).1), ?_⟩, ?_⟩
  · rw [fs84 g4 gF, Nat.zero_add]
    exact World.rangeAt_setCells_apart (ss_disk h4 hF h.cells) _ _ _ (.inr (.inr (by rw [fs84 g4 gF]; omega)))
  · have := World.there_setCells h.free S 0 (fsC ks')
    rw [ss_len h4 hF h6] at this
    rw [ss_len g4 gF h6]; exact this
theorem ss_putD {w : World} {S : Nat} {ks : List Bk} {dk dk' : List Int} (h4 : ks.length = 4) (hF : Fours ks) (h6 : dk.length = 6) (g6 : dk'.length = 6) (h : CsAt w S (ssC ks dk)) : CsAt (w.setCells S 84 (isC dk')) S (ssC ks dk') := by
  refine ⟨range_app.2 ⟨World.rangeAt_setCells_apart (ss_flash h.cells) _ _ _ (.inr (.inl (by rw [fs84 h4 hF]; omega))), ?_⟩, ?_⟩
  · rw [fs84 h4 hF, Nat.zero_add]
    exact World.rangeAt_setCells_same _ _ _ _ (by rw [len_isC, g6]; exact (ss_free h4 hF h6 h).2)
  · have := World.there_setCells h.free S 84 (isC dk')
    rw [ss_len h4 hF h6] at this
    rw [ss_len h4 hF g6]; exact this

/-! The slow disk. -/
set_option maxRecDepth 100000 in
set_option maxHeartbeats 1000000 in
theorem with_any (dk : List Int) (h6 : dk.length = 6) (addr val : Int) (ha0 : 1 ≤ addr) (ha6 : addr ≤ 6) (w : World) :
    Calls Tryz.prog 141 #[.agg (isC dk).toArray, .int .i64 addr, .int .i64 val] w fun e w' => e = .returned (.agg (isC (dk.set (addr - 1).toNat val)).toArray) ∧ Below w.heap.size w w' := by
  obtain ⟨n, rfl⟩ : ∃ n : Nat, addr = (n : Int) + 1 := ⟨(addr - 1).toNat, by omega⟩
  have hn6 : n < 6 := by omega
  have e1 : ((n : Int) + 1 - 1).toNat = n := by omega
  rw [e1]
  have cA := (CsAt.new w (isC dk) 76).alloc (by simp) (.cells (isC zDk6).toArray 76)
  have cR := CsAt.new (w.alloc (.cells (isC dk).toArray 76)) (isC zDk6) 76
  rw [World.size_alloc] at cR
  have B0 : Below w.heap.size w ((w.alloc (.cells (isC dk).toArray 76)).alloc (.cells (isC zDk6).toArray 76)) := ((Below.refl _ _).alloc (Nat.le_refl _) _).alloc (by simp) _
  have hnl : n < (isC dk).length := by rw [len_isC]; omega
  have x0 := cA.cell n _ (List.getElem?_eq_getElem hnl)
  have f0 := cA.frozen n hnl
  generalize (isC dk)[n] = old at *
  have cA2 := cA.setInt (k := n) (by omega) val
  have cR2 : CsAt (((w.alloc (.cells (isC dk).toArray 76)).alloc (.cells (isC zDk6).toArray 76)).setCell ⟨w.heap.size, n, none⟩ (.int .i64 val)) (w.heap.size + 1) (isC zDk6) := cR.other (show w.heap.size + 1 ≠ w.heap.size by omega) n [.int .i64 val]
  have B2 : Below w.heap.size w (((w.alloc (.cells (isC dk).toArray 76)).alloc (.cells (isC zDk6).toArray 76)).setCell ⟨w.heap.size, n, none⟩ (.int .i64 val)) := B0.setCell (Nat.le_refl _) _
  have h7 : (dk.set n val).length = 6 := by rw [List.length_set]; exact h6
  have hn0 : (0 : Int) ≤ (n : Int) := by omega
  have hnl6 : (n : Int) < 6 := by omega
  have e2 : ((n : Int) + 1 - 1) = (n : Int) := by omega
  clear cA cR B0
  go_enter Tryz.func141, Tryz.ntmps141
  go_upto_region 1 with (first | (refine wpList_box_big rfl _ _ rfl (isC dk).toArray rfl ?_) | (refine wpList_alloc_big rfl 76 rfl (isC zDk6).toArray zero_dk ?_))
  generalize (w.alloc (.cells (isC dk).toArray 76)).alloc (.cells (isC zDk6).toArray 76) = w1 at *
  go_upto_region 2 with fail
  generalize w1.setCell ⟨w.heap.size, n, none⟩ (.int .i64 val) = w2 at *
  generalize hds : dk.set n val = ds at *
  have HDS := hide hds
  clear hds
  have rA := cA2.cells
  have tz : w2.there (w.heap.size + 1) 0 (isC ds).toArray.size := by rw [show (isC ds).toArray.size = 6 by rw [List.size_toArray, len_isC, h7]]; exact cR2.free
  have p1 := cR2.put (isC ds) (by rw [len_isC, h7]; rfl)
  have Bz := below_setCells (w.heap.size + 1) (show w.heap.size ≤ w.heap.size + 1 by omega) (isC ds) 0 _ B2
  have HSZ := hide (size_dk h7)
  clear x0 f0 cA2 cR2 B2
  go_wp2_with (first | (refine wpList_load_mid rfl 76 _ rfl w.heap.size 0 rfl (isC ds) _ rA Tryz.underlying76 rfl (unhide HSZ) ?_) | (refine wpList_store_mid rfl 76 _ _ rfl (w.heap.size + 1) 0 (isC ds).toArray rfl rfl tz (size_dka h7) (all_oneCell_toArray (one_isC _)) ?_) | (refine bodyPost_ret (res_cell_mid Tryz.results141 _ _ (w.heap.size + 1) (isC ds) _ rfl p1.cells Tryz.underlying76 rfl (unhide HSZ)) rfl (unhide ?_)))
  exact hide ⟨by rw [unhide HDS], Bz⟩

def DlPost (w : World) (dk : List Int) (e : Ending) (w' : World) : Prop := e = .returned (.slice (some ⟨w.heap.size + 1, 0, none⟩) 6 6) ∧ CsAt w' (w.heap.size + 1) (isC dk) ∧ w.heap.size + 1 < w'.heap.size ∧ Below w.heap.size w w'
set_option maxRecDepth 100000 in
set_option maxHeartbeats 1000000 in
theorem dlist_any (dk : List Int) (h6 : dk.length = 6) (w : World) :
    Calls Tryz.prog 85 #[.agg (isC dk).toArray] w fun e w' => DlPost w dk e w' := by
  have cA := (CsAt.new w (isC dk) 76).alloc (by simp) (.cells (isC zDk6).toArray 3)
  have cN := CsAt.new (w.alloc (.cells (isC dk).toArray 76)) (isC zDk6) 3
  rw [World.size_alloc] at cN
  have B0 : Below w.heap.size w ((w.alloc (.cells (isC dk).toArray 76)).alloc (.cells (isC zDk6).toArray 3)) := ((Below.refl _ _).alloc (Nat.le_refl _) _).alloc (by simp) _
  have s0 : w.heap.size + 1 < ((w.alloc (.cells (isC dk).toArray 76)).alloc (.cells (isC zDk6).toArray 3)).heap.size := by simp
  have hl6 : (isC dk).length = 6 * 1 := by rw [len_isC, h6]
  have tN : ((w.alloc (.cells (isC dk).toArray 76)).alloc (.cells (isC zDk6).toArray 3)).there (w.heap.size + 1) 0 (6 * 1) := cN.free
  have cN2 := cN.put (isC dk) (by rw [len_isC, h6]; rfl)
  have B2 := below_setCells (w.heap.size + 1) (show w.heap.size ≤ w.heap.size + 1 by omega) (isC dk) 0 _ B0
  have s2 : w.heap.size + 1 < (((w.alloc (.cells (isC dk).toArray 76)).alloc (.cells (isC zDk6).toArray 3)).setCells (w.heap.size + 1) 0 (isC dk)).heap.size := by rw [size_setCells]; exact s0
  have hsrc := src_mid cA.cells
  go_enter Tryz.func85, Tryz.ntmps85
  go_wp2_with (first | (refine wpList_box_big rfl _ _ rfl (isC dk).toArray rfl ?_) | (refine wpList_make_big rfl 24 _ _ rfl 6 rfl rfl 3 1 8 (.int .i64 0) Tryz.underlying24 made_int (by omega) (by omega) ?_; rw [made6]) | (refine wpList_copy_big rfl _ _ 24 24 rfl 3 (w.heap.size + 1) 0 6 6 ⟨w.heap.size, 0, none⟩ 6 1 (isC dk) Tryz.underlying24 (by kernel_rfl) rfl rfl hl6 hsrc tN (one_isC dk) ?_))
  go_ret
  exact ⟨rfl, cN2, s2, B2⟩

/-! What a step does. -/
def SsPost (w : World) (ks : List Bk) (dk : List Int) (e : Ending) (w' : World) : Prop := e = .returned (.agg (ssC ks dk).toArray) ∧ Below w.heap.size w w'
set_option maxRecDepth 100000 in
set_option maxHeartbeats 1000000 in
theorem doDisk1_any (ks : List Bk) (hok : okB ks = true) (dk : List Int) (h6 : dk.length = 6) (p q : Nat) (addr val : Int) (ha0 : 1 ≤ addr) (ha6 : addr ≤ 6) (torn : Bool) (w : World) (hp : w.cell? ⟨p, 0, none⟩ = some (.int .i64 addr)) (hq : w.cell? ⟨q, 0, none⟩ = some (.int .i64 val)) :
    Calls Tryz.prog 140 #[.agg (ssC ks dk).toArray, .bool torn, .pointer (some ⟨p, 0, none⟩), .pointer (some ⟨q, 0, none⟩)] w fun e w' => SsPost w ks (if torn then dk else dk.set (addr - 1).toNat val) e w' := by
  have cA := (CsAt.new w (ssC ks dk) 87).alloc (by simp) (.cells zSs.toArray 87)
  have cR := CsAt.new (w.alloc (.cells (ssC ks dk).toArray 87)) zSs 87
  rw [World.size_alloc] at cR
  have B0 : Below w.heap.size w ((w.alloc (.cells (ssC ks dk).toArray 87)).alloc (.cells zSs.toArray 87)) := ((Below.refl _ _).alloc (Nat.le_refl _) _).alloc (by simp) _
  have s0 : w.heap.size + 1 < ((w.alloc (.cells (ssC ks dk).toArray 87)).alloc (.cells zSs.toArray 87)).heap.size := by simp
  have hk4 := ok_len hok
  have hkF := ok_fours hok
  have hpl := cell_lt hp
  have hql := cell_lt hq
  have p0 := hp
  have q0 := hq
  rw [← B0.cell (p := ⟨p, 0, none⟩) hpl] at p0
  rw [← B0.cell (p := ⟨q, 0, none⟩) hql] at q0
  have HWI := hide (with_any dk h6 addr val ha0 ha6)
  have h7 : (dk.set (addr - 1).toNat val).length = 6 := by rw [List.length_set]; exact h6
  clear hp hq
  generalize dk.set (addr - 1).toNat val = ds at *
  go_enter Tryz.func140, Tryz.ntmps140
  cases torn
  rotate_left
  · simp only [if_true]
    have rE := cA.cells
    have HSE := hide (size_ss hk4 hkF h6)
    have tE : ((w.alloc (.cells (ssC ks dk).toArray 87)).alloc (.cells zSs.toArray 87)).there (w.heap.size + 1) 0 (ssC ks dk).toArray.size := by rw [show (ssC ks dk).toArray.size = 90 by rw [List.size_toArray, ss_len hk4 hkF h6]]; have := cR.free; rwa [len_zss] at this
    have pE := cR.put (ssC ks dk) (by rw [ss_len hk4 hkF h6, len_zss])
    have BE := below_setCells (w.heap.size + 1) (show w.heap.size ≤ w.heap.size + 1 by omega) (ssC ks dk) 0 _ B0
    go_wp2_with (first | (refine wpList_box_big rfl _ _ rfl (ssC ks dk).toArray rfl ?_) | (refine wpList_alloc_big rfl 87 rfl zSs.toArray zero_ss ?_) | (refine wpList_load_mid rfl 87 _ rfl w.heap.size 0 rfl (ssC ks dk) _ rE Tryz.underlying87 rfl (unhide HSE) ?_) | (refine wpList_store_mid rfl 87 _ _ rfl (w.heap.size + 1) 0 (ssC ks dk).toArray rfl rfl tE (size_ssa hk4 hkF h6) (one_ss _ _) ?_) | (refine bodyPost_ret (res_cell_mid Tryz.results140 _ _ (w.heap.size + 1) (ssC ks dk) _ rfl pE.cells Tryz.underlying87 rfl (unhide HSE)) rfl (unhide ?_)))
    exact hide ⟨rfl, BE⟩
  · simp only [Bool.false_eq_true, if_false]
    have rD := ss_disk hk4 hkF cA.cells
    have HSD := hide (size_dk h6)
    go_wp2_with (first | (refine wpList_box_big rfl _ _ rfl (ssC ks dk).toArray rfl ?_) | (refine wpList_alloc_big rfl 87 rfl zSs.toArray zero_ss ?_) | (refine wpList_load_mid rfl 76 _ rfl w.heap.size 84 rfl (isC dk) _ rD Tryz.underlying76 rfl (unhide HSD) ?_))
    clear rD p0 q0
    generalize (w.alloc (.cells (ssC ks dk).toArray 87)).alloc (.cells zSs.toArray 87) = w1 at *
    refine (unhide HWI _).mono ?_
    rintro e w3 ⟨rfl, b3⟩
    have cA3 := cA.below b3 (by omega)
    have cR3 := cR.below b3 (by omega)
    have B3 := B0.trans (b3.mono B0.size)
    have tD : w3.there w.heap.size 84 (isC ds).toArray.size := by rw [show (isC ds).toArray.size = 6 by rw [List.size_toArray, len_isC, h7]]; exact (ss_free hk4 hkF h6 cA3).2
    have cA4 := ss_putD hk4 hkF h6 h7 cA3
    have cR4 := cR3.other (show w.heap.size + 1 ≠ w.heap.size by omega) 84 (isC ds)
    have B4 := below_setCells w.heap.size (Nat.le_refl _) (isC ds) 84 _ B3
    clear cA cR B0 s0 b3 cA3 cR3 B3 HWI
    go_upto_region 3 with (refine wpList_store_mid rfl 76 _ _ rfl w.heap.size 84 (isC ds).toArray rfl rfl tD (size_dka h7) (all_oneCell_toArray (one_isC _)) ?_)
    clear tD
    generalize w3.setCells w.heap.size 84 (isC ds) = w4 at *
    have rE := cA4.cells
    have HSE := hide (size_ss hk4 hkF h7)
    have tE : w4.there (w.heap.size + 1) 0 (ssC ks ds).toArray.size := by rw [show (ssC ks ds).toArray.size = 90 by rw [List.size_toArray, ss_len hk4 hkF h7]]; have := cR4.free; rwa [len_zss] at this
    have pE := cR4.put (ssC ks ds) (by rw [ss_len hk4 hkF h7, len_zss])
    have BE := below_setCells (w.heap.size + 1) (show w.heap.size ≤ w.heap.size + 1 by omega) (ssC ks ds) 0 _ B4
    clear cA4 cR4 B4
    go_wp2_with (first | (refine wpList_load_mid rfl 87 _ rfl w.heap.size 0 rfl (ssC ks ds) _ rE Tryz.underlying87 rfl (unhide HSE) ?_) | (refine wpList_store_mid rfl 87 _ _ rfl (w.heap.size + 1) 0 (ssC ks ds).toArray rfl rfl tE (size_ssa hk4 hkF h7) (one_ss _ _) ?_) | (refine bodyPost_ret (res_cell_mid Tryz.results140 _ _ (w.heap.size + 1) (ssC ks ds) _ rfl pE.cells Tryz.underlying87 rfl (unhide HSE)) rfl (unhide ?_)))
    exact hide ⟨rfl, BE⟩

set_option maxRecDepth 100000 in
set_option maxHeartbeats 1000000 in
theorem doWipe1_any (ks : List Bk) (hok : okB ks = true) (dk : List Int) (h6 : dk.length = 6) (p : Nat) (k : Nat) (hk : k < 4) (torn : Bool) (w : World) (hp : w.cell? ⟨p, 0, none⟩ = some (.int .i64 (k : Nat))) :
    Calls Tryz.prog 142 #[.agg (ssC ks dk).toArray, .bool torn, .pointer (some ⟨p, 0, none⟩)] w fun e w' => SsPost w (wiK ks k torn) dk e w' := by
  have cA := (CsAt.new w (ssC ks dk) 87).alloc (by simp) (.cells zSs.toArray 87)
  have cR := CsAt.new (w.alloc (.cells (ssC ks dk).toArray 87)) zSs 87
  rw [World.size_alloc] at cR
  have B0 : Below w.heap.size w ((w.alloc (.cells (ssC ks dk).toArray 87)).alloc (.cells zSs.toArray 87)) := ((Below.refl _ _).alloc (Nat.le_refl _) _).alloc (by simp) _
  have s0 : w.heap.size + 1 < ((w.alloc (.cells (ssC ks dk).toArray 87)).alloc (.cells zSs.toArray 87)).heap.size := by simp
  have hk4 := ok_len hok
  have hkF := ok_fours hok
  have hpl := cell_lt hp
  have p0 := hp
  rw [← B0.cell (p := ⟨p, 0, none⟩) hpl] at p0
  have HWI := hide (wipeK_any ks hok k hk torn)
  have h4s := wiK_len hk4 k torn
  have hFs := wiK_fours hkF k torn
  have HSF := hide (size_fsl hkF hk4)
  have rF := ss_flash cA.cells
  generalize wiK ks k torn = Rs at *
  clear hok hp
  go_enter Tryz.func142, Tryz.ntmps142
  go_wp2_with (first | (refine wpList_box_big rfl _ _ rfl (ssC ks dk).toArray rfl ?_) | (refine wpList_alloc_big rfl 87 rfl zSs.toArray zero_ss ?_) | (refine wpList_load_mid rfl 73 _ rfl w.heap.size 0 rfl (fsC ks) _ rF Tryz.underlying73 rfl (unhide HSF) ?_))
  clear rF p0
  generalize (w.alloc (.cells (ssC ks dk).toArray 87)).alloc (.cells zSs.toArray 87) = w1 at *
  refine (unhide HWI _).mono ?_
  rintro e w3 ⟨rfl, b3⟩
  have cA3 := cA.below b3 (by omega)
  have cR3 := cR.below b3 (by omega)
  have B3 := B0.trans (b3.mono B0.size)
  have tD : w3.there w.heap.size 0 (fsC Rs).toArray.size := by rw [show (fsC Rs).toArray.size = 84 by rw [List.size_toArray, fs84 h4s hFs]]; exact (ss_free hk4 hkF h6 cA3).1
  have cA4 := ss_putF hk4 hkF h4s hFs h6 cA3
  have cR4 := cR3.other (show w.heap.size + 1 ≠ w.heap.size by omega) 0 (fsC Rs)
  have B4 := below_setCells w.heap.size (Nat.le_refl _) (fsC Rs) 0 _ B3
  clear cA cR B0 s0 b3 cA3 cR3 B3 HWI
  go_upto_region 2 with (refine wpList_store_mid rfl 73 _ _ rfl w.heap.size 0 (fsC Rs).toArray rfl rfl tD (size_fsa hFs h4s) (one_fs Rs) ?_)
  clear tD
  generalize w3.setCells w.heap.size 0 (fsC Rs) = w4 at *
  have rE := cA4.cells
  have HSE := hide (size_ss h4s hFs h6)
  have tE : w4.there (w.heap.size + 1) 0 (ssC Rs dk).toArray.size := by rw [show (ssC Rs dk).toArray.size = 90 by rw [List.size_toArray, ss_len h4s hFs h6]]; have := cR4.free; rwa [len_zss] at this
  have pE := cR4.put (ssC Rs dk) (by rw [ss_len h4s hFs h6, len_zss])
  have BE := below_setCells (w.heap.size + 1) (show w.heap.size ≤ w.heap.size + 1 by omega) (ssC Rs dk) 0 _ B4
  clear cA4 cR4 B4
  go_wp2_with (first | (refine wpList_load_mid rfl 87 _ rfl w.heap.size 0 rfl (ssC Rs dk) _ rE Tryz.underlying87 rfl (unhide HSE) ?_) | (refine wpList_store_mid rfl 87 _ _ rfl (w.heap.size + 1) 0 (ssC Rs dk).toArray rfl rfl tE (size_ssa h4s hFs h6) (one_ss _ _) ?_) | (refine bodyPost_ret (res_cell_mid Tryz.results142 _ _ (w.heap.size + 1) (ssC Rs dk) _ rfl pE.cells Tryz.underlying87 rfl (unhide HSE)) rfl (unhide ?_)))
  exact hide ⟨rfl, BE⟩

set_option maxRecDepth 100000 in
set_option maxHeartbeats 1000000 in
theorem doWrite1_any (ks : List Bk) (hok : okB ks = true) (dk : List Int) (h6 : dk.length = 6) (p q : Nat) (k : Nat) (hk : k < 4) (r : Rc) (torn : Bool) (w : World) (hp : w.cell? ⟨p, 0, none⟩ = some (.int .i64 (k : Nat))) (hq : w.rangeAt q 0 (rcC r)) :
    Calls Tryz.prog 144 #[.agg (ssC ks dk).toArray, .bool torn, .pointer (some ⟨p, 0, none⟩), .pointer (some ⟨q, 0, none⟩)] w fun e w' => SsPost w (wrK ks k r.k r.s r.a r.v torn) dk e w' := by
  have cA := (CsAt.new w (ssC ks dk) 87).alloc (by simp) (.cells zSs.toArray 87)
  have cR := CsAt.new (w.alloc (.cells (ssC ks dk).toArray 87)) zSs 87
  rw [World.size_alloc] at cR
  have B0 : Below w.heap.size w ((w.alloc (.cells (ssC ks dk).toArray 87)).alloc (.cells zSs.toArray 87)) := ((Below.refl _ _).alloc (Nat.le_refl _) _).alloc (by simp) _
  have s0 : w.heap.size + 1 < ((w.alloc (.cells (ssC ks dk).toArray 87)).alloc (.cells zSs.toArray 87)).heap.size := by simp
  have hk4 := ok_len hok
  have hkF := ok_fours hok
  have hpl := cell_lt hp
  have p0 := hp
  rw [← B0.cell (p := ⟨p, 0, none⟩) hpl] at p0
  have hql := cell_lt (hq 0 _ rfl)
  have rq := rangeAt_below hq B0 hql
  have q0 := rq 0 _ rfl
  have q1 := rq 1 _ rfl
  have q2 := rq 2 _ rfl
  have q3 := rq 3 _ rfl
  simp only [Nat.zero_add] at q0 q1 q2 q3
  have HWI := hide (writeK_any ks (ok_len hok) (ok_fours hok) k hk r.k r.s r.a r.v torn)
  have h4s := wrK_len hk4 k r.k r.s r.a r.v torn
  have hFs := wrK_fours hk4 hkF k hk r.k r.s r.a r.v torn
  have HSF := hide (size_fsl hkF hk4)
  have rF := ss_flash cA.cells
  generalize wrK ks k r.k r.s r.a r.v torn = Rs at *
  clear hok hp hq
  go_enter Tryz.func144, Tryz.ntmps144
  go_wp2_with (first | (refine wpList_box_big rfl _ _ rfl (ssC ks dk).toArray rfl ?_) | (refine wpList_alloc_big rfl 87 rfl zSs.toArray zero_ss ?_) | (refine wpList_load_mid rfl 73 _ rfl w.heap.size 0 rfl (fsC ks) _ rF Tryz.underlying73 rfl (unhide HSF) ?_))
  clear rF p0 q0 q1 q2 q3 rq
  generalize (w.alloc (.cells (ssC ks dk).toArray 87)).alloc (.cells zSs.toArray 87) = w1 at *
  refine (unhide HWI _).mono ?_
  rintro e w3 ⟨rfl, b3⟩
  have cA3 := cA.below b3 (by omega)
  have cR3 := cR.below b3 (by omega)
  have B3 := B0.trans (b3.mono B0.size)
  have tD : w3.there w.heap.size 0 (fsC Rs).toArray.size := by rw [show (fsC Rs).toArray.size = 84 by rw [List.size_toArray, fs84 h4s hFs]]; exact (ss_free hk4 hkF h6 cA3).1
  have cA4 := ss_putF hk4 hkF h4s hFs h6 cA3
  have cR4 := cR3.other (show w.heap.size + 1 ≠ w.heap.size by omega) 0 (fsC Rs)
  have B4 := below_setCells w.heap.size (Nat.le_refl _) (fsC Rs) 0 _ B3
  clear cA cR B0 s0 b3 cA3 cR3 B3 HWI
  go_upto_region 2 with (refine wpList_store_mid rfl 73 _ _ rfl w.heap.size 0 (fsC Rs).toArray rfl rfl tD (size_fsa hFs h4s) (one_fs Rs) ?_)
  clear tD
  generalize w3.setCells w.heap.size 0 (fsC Rs) = w4 at *
  have rE := cA4.cells
  have HSE := hide (size_ss h4s hFs h6)
  have tE : w4.there (w.heap.size + 1) 0 (ssC Rs dk).toArray.size := by rw [show (ssC Rs dk).toArray.size = 90 by rw [List.size_toArray, ss_len h4s hFs h6]]; have := cR4.free; rwa [len_zss] at this
  have pE := cR4.put (ssC Rs dk) (by rw [ss_len h4s hFs h6, len_zss])
  have BE := below_setCells (w.heap.size + 1) (show w.heap.size ≤ w.heap.size + 1 by omega) (ssC Rs dk) 0 _ B4
  clear cA4 cR4 B4
  go_wp2_with (first | (refine wpList_load_mid rfl 87 _ rfl w.heap.size 0 rfl (ssC Rs dk) _ rE Tryz.underlying87 rfl (unhide HSE) ?_) | (refine wpList_store_mid rfl 87 _ _ rfl (w.heap.size + 1) 0 (ssC Rs dk).toArray rfl rfl tE (size_ssa h4s hFs h6) (one_ss _ _) ?_) | (refine bodyPost_ret (res_cell_mid Tryz.results144 _ _ (w.heap.size + 1) (ssC Rs dk) _ rfl pE.cells Tryz.underlying87 rfl (unhide HSE)) rfl (unhide ?_)))
  exact hide ⟨rfl, BE⟩
end Go.Proofs.YtbiokmojjneleaaGreat.QuA

/-
  Whether a step is one; the function value that waits for it, and what a call of it answers.
-/
namespace Go.Proofs.YtbiokmojjneleaaGreat.QuB
open Go.ChangeShapes Go.WideShapes Go.ChangeAt Go.RowKit Go.Shelf OkA Big Fl ImplB ImplF ImplS _root_.Go.Proofs.YtbiokmojjneleaaGreat.Own ImplT ImplU SpecA SpecB SpecC SpecD SpecW SpecF SpecG SpecH Ok2 Pl FindP SpecX SpecY ImplW ImplX ImplL Kp StA MpA StB StC StD StE StF StG FindL Gd QuA
set_option linter.unusedVariables false
set_option linter.unusedSimpArgs false
attribute [local go_sem ↓] Go.wp_at_zero Go.wp_at_succ
attribute [local go_sem] onlyIf_t onlyIf_f

def StepPost (w : World) (x : Stp) (e : Ending) (w' : World) : Prop := e = .returned (.agg (stC x).toArray) ∧ Below w.heap.size w w'
theorem diskStep_any (addr val : Int) (w : World) :
    Calls Tryz.prog 113 #[.int .i64 addr, .int .i64 val] w fun e w' => StepPost w (diskS addr val) e w' := by
  go_enter Tryz.func113, Tryz.ntmps113
  go_wp2
  exact bodyPost_ret (v := .agg (stC (diskS addr val)).toArray) (by simp [results, Tryz.results113, go_sem]; rfl) rfl ⟨rfl, (Below.refl _ _).alloc (Nat.le_refl _) _⟩
theorem wipeStep_any (blk : Int) (w : World) :
    Calls Tryz.prog 114 #[.int .i64 blk] w fun e w' => StepPost w (wipeS blk) e w' := by
  go_enter Tryz.func114, Tryz.ntmps114
  go_wp2
  exact bodyPost_ret (v := .agg (stC (wipeS blk)).toArray) (by simp [results, Tryz.results114, go_sem]; rfl) rfl ⟨rfl, (Below.refl _ _).alloc (Nat.le_refl _) _⟩
theorem writeStep_any (blk : Int) (r : Rc) (w : World) :
    Calls Tryz.prog 115 #[.int .i64 blk, .agg (rcC r).toArray] w fun e w' => StepPost w (writeS blk r) e w' := by
  rw [show (rcC r).toArray = #[.int .i64 r.k, .int .i64 r.s, .int .i64 r.a, .int .i64 r.v] from rfl]
  go_enter Tryz.func115, Tryz.ntmps115
  go_wp2
  exact bodyPost_ret (v := .agg (stC (writeS blk r)).toArray) (by simp [results, Tryz.results115, go_sem]; rfl) rfl ⟨rfl, ((Below.refl _ _).alloc (Nat.le_refl _) _).alloc (by simp) _⟩
theorem within_b (n lo hi : Int) (w : World) : Calls Tryz.prog 67 #[.int .i64 n, .int .i64 lo, .int .i64 hi] w fun e w' => e = .returned (.bool (inB n lo hi)) ∧ Below w.heap.size w w' := by
  refine (within_any n lo hi w).mono ?_
  rintro e w' ⟨rfl, rfl⟩
  exact ⟨rfl, Below.refl _ _⟩
theorem size_s8 (x : Stp) : (Tryz.prog.info? 38).map (·.size) = some (stC x).length := by show _ = some 8; kernel_rfl
theorem size_r4 (r : Rc) : (Tryz.prog.info? 36).map (·.size) = some (rcC r).length := by show _ = some 4; kernel_rfl
theorem step_rec {w : World} {b : Nat} {x : Stp} (h : CsAt w b (stC x)) : w.rangeAt b 4 (rcC x.r) := fun j v hv => by
  have := h.cells (4 + j) v (by simpa [stC, rcC, Nat.add_comm] using hv)
  rwa [Nat.zero_add] at this

/-- A step is one. -/
def stkB (x : Stp) : Bool :=
  if x.kind = 1 then (x.blk == 0 && noRc x.r) && inB x.addr 1 6 && inB x.val 0 9
  else if x.kind = 2 then (x.addr == 0 && x.val == 0 && noRc x.r) && inB x.blk 0 3
  else if x.kind = 3 then (x.addr == 0 && x.val == 0) && inB x.blk 0 3 && recB x.r.k x.r.s x.r.a x.r.v
  else false
theorem stk_stp {x : Stp} (h : stkB x = true) : stpB x = true := by
  unfold stkB at h
  unfold stpB
  split
  · rename_i h1; rw [if_pos h1] at h; simp only [Bool.and_eq_true] at h; exact h.1.2
  · rename_i h1
    rw [if_neg h1] at h
    split
    · rename_i h2; rw [if_pos h2] at h; simp only [Bool.and_eq_true] at h; exact h.2
    · rename_i h2
      rw [if_neg h2] at h
      split
      · rename_i h3; rw [if_pos h3] at h; simp only [Bool.and_eq_true] at h; rw [h.1.2, h.2]; rfl
      · rfl

set_option maxRecDepth 100000 in
set_option maxHeartbeats 4000000 in
theorem stepOk_any (x : Stp) (w : World) :
    Calls Tryz.prog 82 #[.agg (stC x).toArray] w fun e w' => e = .returned (.bool (stkB x)) ∧ Below w.heap.size w w' := by
  have HR : Hid (stkB x = if x.kind = 1 then (x.blk == 0 && noRc x.r) && inB x.addr 1 6 && inB x.val 0 9 else if x.kind = 2 then (x.addr == 0 && x.val == 0 && noRc x.r) && inB x.blk 0 3 else if x.kind = 3 then (x.addr == 0 && x.val == 0) && inB x.blk 0 3 && recB x.r.k x.r.s x.r.a x.r.v else false) := rfl
  generalize stkB x = R at *
  have cX := CsAt.new w (stC x) 38
  have B0 : Below w.heap.size w (w.alloc (.cells (stC x).toArray 38)) := (Below.refl _ _).alloc (Nat.le_refl _) _
  have s0 : w.heap.size < (w.alloc (.cells (stC x).toArray 38)).heap.size := by simp
  have HW := hide (fun (w' : World) => within_any x.blk 0 3 w')
  have HS8 := hide (size_s8 x)
  have HS4 := hide (size_r4 x.r)
  have HDS := hide (diskStep_any x.addr x.val)
  have HWS := hide (wipeStep_any x.blk)
  have HRS := hide (writeStep_any x.blk x.r)
  have HA := hide (within_b x.addr 1 6)
  have HV := hide (within_b x.val 0 9)
  have HRO := hide (recOk_any x.r.k x.r.s x.r.a x.r.v)
  have x0 := cX.cell 0 _ rfl
  have x3 := cX.cell 3 _ rfl
  go_enter Tryz.func82, Tryz.ntmps82
  by_cases hk1 : x.kind = 1
  · have g1 : (x.kind == 1) = true := by simpa using hk1
    rw [if_pos hk1] at HR
    go_wp2_with (first | (refine wpList_box_big rfl _ _ rfl (stC x).toArray rfl ?_) | (go_at_call 67; refine (unhide HW _).mono ?_; rintro e w' ⟨rfl, hw'⟩; obtain rfl := hw'.symm))
    clear x0 x3
    generalize w.alloc (.cells (stC x).toArray 38) = w1 at *
    refine wp_region_noPanic ?_
    refine wp_region_held_drew (S := fun w' => Below w1.heap.size w1 w') (by kernel_rfl) ((Below.refl _ _).drew) (fun hHeld => ?_)
    refine takeL 0 (_) rfl (by kernel_rfl) (by kernel_rfl) (by kernel_rfl) (fun _ _ _ h => h) (yieldsIf_load_mid rfl 38 _ rfl w.heap.size 0 rfl (stC x) _ (fun _ h => (cX.below h s0).cells) Tryz.underlying38 rfl (unhide HS8)) hHeld ?_
    try simp only [Act.put, List.setIfInBounds_toArray, List.set_cons_zero, List.set_cons_succ]
    refine takeL 1 (.pointer (some ⟨w.heap.size, 1, none⟩)) rfl (by kernel_rfl) (by kernel_rfl) (by kernel_rfl) (fun _ _ _ h => h) (Or.inl ⟨rfl, fun w9 hSw => by go_simp⟩) hHeld ?_
    try simp only [Act.put, List.setIfInBounds_toArray, List.set_cons_zero, List.set_cons_succ]
    refine takeL 2 (.int .i64 x.addr) rfl (by kernel_rfl) (by kernel_rfl) (by kernel_rfl) (fun _ _ _ h => h) (Or.inl ⟨rfl, fun w9 hSw => by have hc := (cX.below hSw s0).cell 1 _ rfl; go_simp⟩) hHeld ?_
    try simp only [Act.put, List.setIfInBounds_toArray, List.set_cons_zero, List.set_cons_succ]
    refine takeL 3 (.pointer (some ⟨w.heap.size, 2, none⟩)) rfl (by kernel_rfl) (by kernel_rfl) (by kernel_rfl) (fun _ _ _ h => h) (Or.inl ⟨rfl, fun w9 hSw => by go_simp⟩) hHeld ?_
    try simp only [Act.put, List.setIfInBounds_toArray, List.set_cons_zero, List.set_cons_succ]
    refine takeL 4 (.int .i64 x.val) rfl (by kernel_rfl) (by kernel_rfl) (by kernel_rfl) (fun _ _ _ h => h) (Or.inl ⟨rfl, fun w9 hSw => by have hc := (cX.below hSw s0).cell 2 _ rfl; go_simp⟩) hHeld ?_
    try simp only [Act.put, List.setIfInBounds_toArray, List.set_cons_zero, List.set_cons_succ]
    refine oneL 5 rfl (by kernel_rfl) rfl (fun K hK => ?_)
    go_simp
    refine (unhide HDS _).mono ?_
    rintro e w4 ⟨rfl, b4⟩
    go_wp2_with fail
    refine hK.out _ _ (hHeld.trans (b4.mono hHeld.size)) (fun hHeld => ?_)
    clear hK K
    try simp only [Act.put, List.setIfInBounds_toArray, List.set_cons_zero, List.set_cons_succ]
    refine takeL 6 (.bool (x.blk == 0 && noRc x.r)) rfl (by kernel_rfl) (by kernel_rfl) (by kernel_rfl) (fun _ _ _ h => h) (Or.inl ⟨rfl, fun w9 hSw => by unfold noRc stC diskS zRc; go_simp; by_cases q0 : x.blk = 0 <;> by_cases q1 : x.r.k = 0 <;> by_cases q2 : x.r.s = 0 <;> by_cases q3 : x.r.a = 0 <;> by_cases q4 : x.r.v = 0 <;> simp [q0, q1, q2, q3, q4, hk1]⟩) hHeld ?_
    try simp only [Act.put, List.setIfInBounds_toArray, List.set_cons_zero, List.set_cons_succ]
    generalize hee : (x.blk == 0 && noRc x.r) = e at *
    generalize haa : inB x.addr 1 6 = a at *
    generalize hvv : inB x.val 0 9 = v at *
    refine takeL 7 (.bool e) rfl (by kernel_rfl) (by kernel_rfl) (by kernel_rfl) (fun _ _ _ h => h) (Or.inl ⟨rfl, fun _ _ => rfl⟩) hHeld ?_
    try simp only [Act.put, List.setIfInBounds_toArray, List.set_cons_zero, List.set_cons_succ]
    refine takeG 8 (e) (.pointer (some ⟨w.heap.size, 1, none⟩)) rfl (by kernel_rfl) (by kernel_rfl) (by kernel_rfl) (fun _ _ _ h => h) (by cases e <;> rfl) (fun hb w9 hSw => by cases e <;> first | (cases hb; done) | (go_simp)) hHeld ?_
    try simp only [Act.put, List.setIfInBounds_toArray, List.set_cons_zero, List.set_cons_succ]
    refine takeG 9 (e) (.int .i64 x.addr) rfl (by kernel_rfl) (by kernel_rfl) (by kernel_rfl) (fun _ _ _ h => h) (by cases e <;> rfl) (fun hb w9 hSw => by cases e <;> first | (cases hb; done) | (have hc := (cX.below hSw s0).cell 1 _ rfl; go_simp)) hHeld ?_
    try simp only [Act.put, List.setIfInBounds_toArray, List.set_cons_zero, List.set_cons_succ]
    refine callG 10 (e) (.bool a) rfl (by kernel_rfl) (by cases e <;> rfl) hHeld (fun hb K hK => by cases e <;> first | (cases hb; done) | (go_simp; refine (unhide HA _).mono ?_; rintro e w4 ⟨rfl, b4⟩; go_wp2_with fail; exact hK.out _ (hHeld.trans (b4.mono hHeld.size)))) (fun w4 hHeld => ?_)
    try simp only [Act.put, List.setIfInBounds_toArray, List.set_cons_zero, List.set_cons_succ]
    refine takeL 11 (.bool (e && a)) rfl (by kernel_rfl) (by kernel_rfl) (by kernel_rfl) (fun _ _ _ h => h) (Or.inl ⟨rfl, fun w9 hSw => by cases e <;> (go_simp)⟩) hHeld ?_
    try simp only [Act.put, List.setIfInBounds_toArray, List.set_cons_zero, List.set_cons_succ]
    refine takeL 12 (.bool (e && a)) rfl (by kernel_rfl) (by kernel_rfl) (by kernel_rfl) (fun _ _ _ h => h) (Or.inl ⟨rfl, fun _ _ => rfl⟩) hHeld ?_
    try simp only [Act.put, List.setIfInBounds_toArray, List.set_cons_zero, List.set_cons_succ]
    refine takeG 13 (e && a) (.pointer (some ⟨w.heap.size, 2, none⟩)) rfl (by kernel_rfl) (by kernel_rfl) (by kernel_rfl) (fun _ _ _ h => h) (by cases e <;> cases a <;> rfl) (fun hb w9 hSw => by cases e <;> cases a <;> first | (cases hb; done) | (go_simp)) hHeld ?_
    try simp only [Act.put, List.setIfInBounds_toArray, List.set_cons_zero, List.set_cons_succ]
    refine takeG 14 (e && a) (.int .i64 x.val) rfl (by kernel_rfl) (by kernel_rfl) (by kernel_rfl) (fun _ _ _ h => h) (by cases e <;> cases a <;> rfl) (fun hb w9 hSw => by cases e <;> cases a <;> first | (cases hb; done) | (have hc := (cX.below hSw s0).cell 2 _ rfl; go_simp)) hHeld ?_
    try simp only [Act.put, List.setIfInBounds_toArray, List.set_cons_zero, List.set_cons_succ]
    refine callG 15 (e && a) (.bool v) rfl (by kernel_rfl) (by cases e <;> cases a <;> rfl) hHeld (fun hb K hK => by cases e <;> cases a <;> first | (cases hb; done) | (go_simp; refine (unhide HV _).mono ?_; rintro e w4 ⟨rfl, b4⟩; go_wp2_with fail; exact hK.out _ (hHeld.trans (b4.mono hHeld.size)))) (fun w4 hHeld => ?_)
    try simp only [Act.put, List.setIfInBounds_toArray, List.set_cons_zero, List.set_cons_succ]
    refine takeL 16 (.bool (e && a && v)) rfl (by kernel_rfl) (by kernel_rfl) (by kernel_rfl) (fun _ _ _ h => h) (Or.inl ⟨rfl, fun w9 hSw => by cases e <;> cases a <;> (go_simp)⟩) hHeld ?_
    try simp only [Act.put, List.setIfInBounds_toArray, List.set_cons_zero, List.set_cons_succ]
    refine takeL 17 (.bool (e && a && v)) rfl (by kernel_rfl) (by kernel_rfl) (by kernel_rfl) (fun _ _ _ h => h) (Or.inl ⟨rfl, fun _ _ => rfl⟩) hHeld ?_
    try simp only [Act.put, List.setIfInBounds_toArray, List.set_cons_zero, List.set_cons_succ]
    refine wpAnyH_done (by kernel_rfl) ?_ _
    refine NoPanic.normal ?_
    clear cX
    go_wp2
    go_ret
    exact ⟨by rw [unhide HR]; rfl, B0.trans (hHeld.mono B0.size)⟩
  rw [if_neg hk1] at HR
  have g1 : (x.kind == 1) = false := by simpa using hk1
  by_cases hk2 : x.kind = 2
  · have g2 : (x.kind == 2) = true := by simpa using hk2
    rw [if_pos hk2] at HR
    go_wp2_with (first | (refine wpList_box_big rfl _ _ rfl (stC x).toArray rfl ?_) | (go_at_call 67; refine (unhide HW _).mono ?_; rintro e w' ⟨rfl, hw'⟩; obtain rfl := hw'.symm))
    clear x0 x3
    generalize w.alloc (.cells (stC x).toArray 38) = w1 at *
    refine wp_region_noPanic ?_
    refine wp_region_held_drew (S := fun w' => Below w1.heap.size w1 w') (by kernel_rfl) ((Below.refl _ _).drew) (fun hHeld => ?_)
    refine takeL 0 (_) rfl (by kernel_rfl) (by kernel_rfl) (by kernel_rfl) (fun _ _ _ h => h) (yieldsIf_load_mid rfl 38 _ rfl w.heap.size 0 rfl (stC x) _ (fun _ h => (cX.below h s0).cells) Tryz.underlying38 rfl (unhide HS8)) hHeld ?_
    try simp only [Act.put, List.setIfInBounds_toArray, List.set_cons_zero, List.set_cons_succ]
    refine takeL 1 (.pointer (some ⟨w.heap.size, 3, none⟩)) rfl (by kernel_rfl) (by kernel_rfl) (by kernel_rfl) (fun _ _ _ h => h) (Or.inl ⟨rfl, fun w9 hSw => by go_simp⟩) hHeld ?_
    try simp only [Act.put, List.setIfInBounds_toArray, List.set_cons_zero, List.set_cons_succ]
    refine takeL 2 (.int .i64 x.blk) rfl (by kernel_rfl) (by kernel_rfl) (by kernel_rfl) (fun _ _ _ h => h) (Or.inl ⟨rfl, fun w9 hSw => by have hc := (cX.below hSw s0).cell 3 _ rfl; go_simp⟩) hHeld ?_
    try simp only [Act.put, List.setIfInBounds_toArray, List.set_cons_zero, List.set_cons_succ]
    refine oneL 3 rfl (by kernel_rfl) rfl (fun K hK => ?_)
    go_simp
    refine (unhide HWS _).mono ?_
    rintro e w4 ⟨rfl, b4⟩
    go_wp2_with fail
    refine hK.out _ _ (hHeld.trans (b4.mono hHeld.size)) (fun hHeld => ?_)
    clear hK K
    try simp only [Act.put, List.setIfInBounds_toArray, List.set_cons_zero, List.set_cons_succ]
    refine takeL 4 (.bool (x.addr == 0 && x.val == 0 && noRc x.r)) rfl (by kernel_rfl) (by kernel_rfl) (by kernel_rfl) (fun _ _ _ h => h) (Or.inl ⟨rfl, fun w9 hSw => by unfold noRc stC wipeS zRc; go_simp; by_cases q0 : x.addr = 0 <;> by_cases q1 : x.val = 0 <;> by_cases q2 : x.r.k = 0 <;> by_cases q3 : x.r.s = 0 <;> by_cases q4 : x.r.a = 0 <;> by_cases q5 : x.r.v = 0 <;> simp [q0, q1, q2, q3, q4, q5, hk2]⟩) hHeld ?_
    try simp only [Act.put, List.setIfInBounds_toArray, List.set_cons_zero, List.set_cons_succ]
    generalize hee : (x.addr == 0 && x.val == 0 && noRc x.r) = e at *
    generalize hbb : inB x.blk 0 3 = bb at *
    refine takeL 5 (.bool e) rfl (by kernel_rfl) (by kernel_rfl) (by kernel_rfl) (fun _ _ _ h => h) (Or.inl ⟨rfl, fun _ _ => rfl⟩) hHeld ?_
    try simp only [Act.put, List.setIfInBounds_toArray, List.set_cons_zero, List.set_cons_succ]
    refine takeG 6 (e) (.bool bb) rfl (by kernel_rfl) (by kernel_rfl) (by kernel_rfl) (fun _ _ _ h => h) (by cases e <;> rfl) (fun hb w9 hSw => by cases e <;> first | (cases hb; done) | (go_simp)) hHeld ?_
    try simp only [Act.put, List.setIfInBounds_toArray, List.set_cons_zero, List.set_cons_succ]
    refine takeL 7 (.bool (e && bb)) rfl (by kernel_rfl) (by kernel_rfl) (by kernel_rfl) (fun _ _ _ h => h) (Or.inl ⟨rfl, fun w9 hSw => by cases e <;> (go_simp)⟩) hHeld ?_
    try simp only [Act.put, List.setIfInBounds_toArray, List.set_cons_zero, List.set_cons_succ]
    refine takeL 8 (.bool (e && bb)) rfl (by kernel_rfl) (by kernel_rfl) (by kernel_rfl) (fun _ _ _ h => h) (Or.inl ⟨rfl, fun _ _ => rfl⟩) hHeld ?_
    try simp only [Act.put, List.setIfInBounds_toArray, List.set_cons_zero, List.set_cons_succ]
    refine wpAnyH_done (by kernel_rfl) ?_ _
    refine NoPanic.normal ?_
    clear cX
    go_wp2
    go_ret
    exact ⟨by rw [unhide HR]; rfl, B0.trans (hHeld.mono B0.size)⟩
  rw [if_neg hk2] at HR
  have g2 : (x.kind == 2) = false := by simpa using hk2
  by_cases hk3 : x.kind = 3
  · have g3 : (x.kind == 3) = true := by simpa using hk3
    rw [if_pos hk3] at HR
    go_wp2_with (first | (refine wpList_box_big rfl _ _ rfl (stC x).toArray rfl ?_) | (go_at_call 67; refine (unhide HW _).mono ?_; rintro e w' ⟨rfl, hw'⟩; obtain rfl := hw'.symm))
    clear x0 x3
    generalize w.alloc (.cells (stC x).toArray 38) = w1 at *
    refine wp_region_noPanic ?_
    refine wp_region_held_drew (S := fun w' => Below w1.heap.size w1 w') (by kernel_rfl) ((Below.refl _ _).drew) (fun hHeld => ?_)
    refine takeL 0 (_) rfl (by kernel_rfl) (by kernel_rfl) (by kernel_rfl) (fun _ _ _ h => h) (yieldsIf_load_mid rfl 38 _ rfl w.heap.size 0 rfl (stC x) _ (fun _ h => (cX.below h s0).cells) Tryz.underlying38 rfl (unhide HS8)) hHeld ?_
    try simp only [Act.put, List.setIfInBounds_toArray, List.set_cons_zero, List.set_cons_succ]
    refine takeL 1 (.pointer (some ⟨w.heap.size, 3, none⟩)) rfl (by kernel_rfl) (by kernel_rfl) (by kernel_rfl) (fun _ _ _ h => h) (Or.inl ⟨rfl, fun w9 hSw => by go_simp⟩) hHeld ?_
    try simp only [Act.put, List.setIfInBounds_toArray, List.set_cons_zero, List.set_cons_succ]
    refine takeL 2 (.int .i64 x.blk) rfl (by kernel_rfl) (by kernel_rfl) (by kernel_rfl) (fun _ _ _ h => h) (Or.inl ⟨rfl, fun w9 hSw => by have hc := (cX.below hSw s0).cell 3 _ rfl; go_simp⟩) hHeld ?_
    try simp only [Act.put, List.setIfInBounds_toArray, List.set_cons_zero, List.set_cons_succ]
    refine takeL 3 (.pointer (some ⟨w.heap.size, 4, none⟩)) rfl (by kernel_rfl) (by kernel_rfl) (by kernel_rfl) (fun _ _ _ h => h) (Or.inl ⟨rfl, fun w9 hSw => by go_simp⟩) hHeld ?_
    try simp only [Act.put, List.setIfInBounds_toArray, List.set_cons_zero, List.set_cons_succ]
    refine takeL 4 (_) rfl (by kernel_rfl) (by kernel_rfl) (by kernel_rfl) (fun _ _ _ h => h) (yieldsIf_load_mid rfl 36 _ rfl w.heap.size 4 rfl (rcC x.r) _ (fun _ h => step_rec (cX.below h s0)) Tryz.underlying36 rfl (unhide HS4)) hHeld ?_
    try simp only [Act.put, List.setIfInBounds_toArray, List.set_cons_zero, List.set_cons_succ]
    refine oneL 5 rfl (by kernel_rfl) rfl (fun K hK => ?_)
    go_simp
    refine (unhide HRS _).mono ?_
    rintro e w4 ⟨rfl, b4⟩
    go_wp2_with fail
    refine hK.out _ _ (hHeld.trans (b4.mono hHeld.size)) (fun hHeld => ?_)
    clear hK K
    try simp only [Act.put, List.setIfInBounds_toArray, List.set_cons_zero, List.set_cons_succ]
    refine takeL 6 (.bool (x.addr == 0 && x.val == 0)) rfl (by kernel_rfl) (by kernel_rfl) (by kernel_rfl) (fun _ _ _ h => h) (Or.inl ⟨rfl, fun w9 hSw => by unfold stC writeS; go_simp; by_cases q0 : x.addr = 0 <;> by_cases q1 : x.val = 0 <;> simp [q0, q1, hk3]⟩) hHeld ?_
    try simp only [Act.put, List.setIfInBounds_toArray, List.set_cons_zero, List.set_cons_succ]
    generalize hee : (x.addr == 0 && x.val == 0) = e at *
    generalize hbb : inB x.blk 0 3 = bb at *
    generalize hrr : recB x.r.k x.r.s x.r.a x.r.v = rr at *
    refine takeL 7 (.bool e) rfl (by kernel_rfl) (by kernel_rfl) (by kernel_rfl) (fun _ _ _ h => h) (Or.inl ⟨rfl, fun _ _ => rfl⟩) hHeld ?_
    try simp only [Act.put, List.setIfInBounds_toArray, List.set_cons_zero, List.set_cons_succ]
    refine takeG 8 (e) (.bool bb) rfl (by kernel_rfl) (by kernel_rfl) (by kernel_rfl) (fun _ _ _ h => h) (by cases e <;> rfl) (fun hb w9 hSw => by cases e <;> first | (cases hb; done) | (go_simp)) hHeld ?_
    try simp only [Act.put, List.setIfInBounds_toArray, List.set_cons_zero, List.set_cons_succ]
    refine takeL 9 (.bool (e && bb)) rfl (by kernel_rfl) (by kernel_rfl) (by kernel_rfl) (fun _ _ _ h => h) (Or.inl ⟨rfl, fun w9 hSw => by cases e <;> (go_simp)⟩) hHeld ?_
    try simp only [Act.put, List.setIfInBounds_toArray, List.set_cons_zero, List.set_cons_succ]
    refine takeL 10 (.bool (e && bb)) rfl (by kernel_rfl) (by kernel_rfl) (by kernel_rfl) (fun _ _ _ h => h) (Or.inl ⟨rfl, fun _ _ => rfl⟩) hHeld ?_
    try simp only [Act.put, List.setIfInBounds_toArray, List.set_cons_zero, List.set_cons_succ]
    refine takeG 11 (e && bb) (.pointer (some ⟨w.heap.size, 4, none⟩)) rfl (by kernel_rfl) (by kernel_rfl) (by kernel_rfl) (fun _ _ _ h => h) (by cases e <;> cases bb <;> rfl) (fun hb w9 hSw => by cases e <;> cases bb <;> first | (cases hb; done) | (go_simp)) hHeld ?_
    try simp only [Act.put, List.setIfInBounds_toArray, List.set_cons_zero, List.set_cons_succ]
    refine takeG 12 (e && bb) (.agg #[.int .i64 x.r.k, .int .i64 x.r.s, .int .i64 x.r.a, .int .i64 x.r.v]) rfl (by kernel_rfl) (by kernel_rfl) (by kernel_rfl) (fun _ _ _ h => h) (by cases e <;> cases bb <;> rfl) (fun hb w9 hSw => by cases e <;> cases bb <;> first | (cases hb; done) | (have hc0 := (cX.below hSw s0).cell 4 _ rfl; have hc1 := (cX.below hSw s0).cell 5 _ rfl; have hc2 := (cX.below hSw s0).cell 6 _ rfl; have hc3 := (cX.below hSw s0).cell 7 _ rfl; go_simp)) hHeld ?_
    try simp only [Act.put, List.setIfInBounds_toArray, List.set_cons_zero, List.set_cons_succ]
    refine callG 13 (e && bb) (.bool rr) rfl (by kernel_rfl) (by cases e <;> cases bb <;> rfl) hHeld (fun hb K hK => by cases e <;> cases bb <;> first | (cases hb; done) | (go_simp; refine (unhide HRO _).mono ?_; rintro e w4 ⟨rfl, b4⟩; go_wp2_with fail; exact hK.out _ (hHeld.trans (b4.mono hHeld.size)))) (fun w4 hHeld => ?_)
    try simp only [Act.put, List.setIfInBounds_toArray, List.set_cons_zero, List.set_cons_succ]
    refine takeL 14 (.bool (e && bb && rr)) rfl (by kernel_rfl) (by kernel_rfl) (by kernel_rfl) (fun _ _ _ h => h) (Or.inl ⟨rfl, fun w9 hSw => by cases e <;> cases bb <;> (go_simp)⟩) hHeld ?_
    try simp only [Act.put, List.setIfInBounds_toArray, List.set_cons_zero, List.set_cons_succ]
    refine takeL 15 (.bool (e && bb && rr)) rfl (by kernel_rfl) (by kernel_rfl) (by kernel_rfl) (fun _ _ _ h => h) (Or.inl ⟨rfl, fun _ _ => rfl⟩) hHeld ?_
    try simp only [Act.put, List.setIfInBounds_toArray, List.set_cons_zero, List.set_cons_succ]
    refine wpAnyH_done (by kernel_rfl) ?_ _
    refine NoPanic.normal ?_
    clear cX
    go_wp2
    go_ret
    exact ⟨by rw [unhide HR]; rfl, B0.trans (hHeld.mono B0.size)⟩
  rw [if_neg hk3] at HR
  have g3 : (x.kind == 3) = false := by simpa using hk3
  go_wp2_with (first | (refine wpList_box_big rfl _ _ rfl (stC x).toArray rfl ?_) | (go_at_call 67; refine (unhide HW _).mono ?_; rintro e w' ⟨rfl, hw'⟩; obtain rfl := hw'.symm))
  go_ret
  exact ⟨by rw [unhide HR]; rfl, B0⟩

/-! The function value that waits for a step; its captured variables lie from lo to hi. -/
def DoAt (w : World) (lo hi : Nat) (x : Stp) (v : Value) : Prop :=
  (x.kind = 1 ∧ ∃ p q, v = .func (.func 140) #[] #[.pointer (some ⟨p, 0, none⟩), .pointer (some ⟨q, 0, none⟩)] ∧ (lo ≤ p ∧ p < hi) ∧ (lo ≤ q ∧ q < hi) ∧ w.cell? ⟨p, 0, none⟩ = some (.int .i64 x.addr) ∧ w.cell? ⟨q, 0, none⟩ = some (.int .i64 x.val)) ∨
  (x.kind = 2 ∧ ∃ p, v = .func (.func 142) #[] #[.pointer (some ⟨p, 0, none⟩)] ∧ (lo ≤ p ∧ p < hi) ∧ w.cell? ⟨p, 0, none⟩ = some (.int .i64 x.blk)) ∨
  (x.kind = 3 ∧ ∃ p q, v = .func (.func 144) #[] #[.pointer (some ⟨p, 0, none⟩), .pointer (some ⟨q, 0, none⟩)] ∧ (lo ≤ p ∧ p < hi) ∧ (lo ≤ q ∧ q < hi) ∧ w.cell? ⟨p, 0, none⟩ = some (.int .i64 x.blk) ∧ w.rangeAt q 0 (rcC x.r))
theorem DoAt.kept {w w' : World} {lo hi : Nat} {x : Stp} {v : Value} (h : DoAt w lo hi x v) {L : List Nat} (k : Kept L w w') (hh : hi ≤ w.heap.size) (hL : ∀ y ∈ L, y < lo ∨ hi ≤ y) : DoAt w' lo hi x v := by
  have hn : ∀ p, lo ≤ p ∧ p < hi → p ∉ L := fun p hp hm => by have := hL p hm; omega
  rcases h with ⟨hk, p, q, e, hp, hq, cp, cq⟩ | ⟨hk, p, e, hp, cp⟩ | ⟨hk, p, q, e, hp, hq, cp, cq⟩
  · exact .inl ⟨hk, p, q, e, hp, hq, by rw [k.cell 0 (by omega) (hn p hp)]; exact cp, by rw [k.cell 0 (by omega) (hn q hq)]; exact cq⟩
  · exact .inr (.inl ⟨hk, p, e, hp, by rw [k.cell 0 (by omega) (hn p hp)]; exact cp⟩)
  · exact .inr (.inr ⟨hk, p, q, e, hp, hq, by rw [k.cell 0 (by omega) (hn p hp)]; exact cp, k.range cq (by omega) (hn q hq)⟩)
theorem DoAt.mono {w : World} {lo hi : Nat} {x : Stp} {v : Value} (h : DoAt w lo hi x v) {lo' hi' : Nat} (hl : lo' ≤ lo) (hh : hi ≤ hi') : DoAt w lo' hi' x v := by
  rcases h with ⟨hk, p, q, e, hp, hq, c⟩ | ⟨hk, p, e, hp, c⟩ | ⟨hk, p, q, e, hp, hq, c⟩
  · exact .inl ⟨hk, p, q, e, by omega, by omega, c⟩
  · exact .inr (.inl ⟨hk, p, e, by omega, c⟩)
  · exact .inr (.inr ⟨hk, p, q, e, by omega, by omega, c⟩)
theorem DoAt.one {w : World} {lo hi : Nat} {x : Stp} {v : Value} (h : DoAt w lo hi x v) : v.oneCell' = true := by
  rcases h with ⟨_, p, q, rfl, _⟩ | ⟨_, p, rfl, _⟩ | ⟨_, p, q, rfl, _⟩ <;> rfl
def DfPost (w : World) (x : Stp) (e : Ending) (w' : World) : Prop := ∃ v, e = .returned v ∧ DoAt w' w.heap.size w'.heap.size x v ∧ Below w.heap.size w w'
theorem doDisk_any (addr val : Int) (w : World) : Calls Tryz.prog 117 #[.int .i64 addr, .int .i64 val] w fun e w' => e = .returned (.func (.func 140) #[] #[.pointer (some ⟨w.heap.size, 0, none⟩), .pointer (some ⟨w.heap.size + 1, 0, none⟩)]) ∧ w' = (w.alloc (.cells #[.int .i64 addr] 3)).alloc (.cells #[.int .i64 val] 3) := by
  go_enter Tryz.func117, Tryz.ntmps117
  go_wp2
  go_ret
  exact ⟨rfl, rfl⟩
theorem doWipe_any (blk : Int) (w : World) : Calls Tryz.prog 118 #[.int .i64 blk] w fun e w' => e = .returned (.func (.func 142) #[] #[.pointer (some ⟨w.heap.size, 0, none⟩)]) ∧ w' = w.alloc (.cells #[.int .i64 blk] 3) := by
  go_enter Tryz.func118, Tryz.ntmps118
  go_wp2
  go_ret
  exact ⟨rfl, rfl⟩
theorem doWrite_any (blk : Int) (r : Rc) (w : World) : Calls Tryz.prog 119 #[.int .i64 blk, .agg #[.int .i64 r.k, .int .i64 r.s, .int .i64 r.a, .int .i64 r.v]] w fun e w' => e = .returned (.func (.func 144) #[] #[.pointer (some ⟨w.heap.size, 0, none⟩), .pointer (some ⟨w.heap.size + 1, 0, none⟩)]) ∧ w' = (w.alloc (.cells #[.int .i64 blk] 3)).alloc (.cells (rcC r).toArray 36) := by
  go_enter Tryz.func119, Tryz.ntmps119
  go_wp2
  go_ret
  exact ⟨rfl, rfl⟩

set_option maxRecDepth 100000 in
set_option maxHeartbeats 1000000 in
theorem doOf_any (x : Stp) (hx : stkB x = true) (w : World) :
    Calls Tryz.prog 83 #[.agg (stC x).toArray] w fun e w' => DfPost w x e w' := by
  have cX := CsAt.new w (stC x) 38
  have B0 : Below w.heap.size w (w.alloc (.cells (stC x).toArray 38)) := (Below.refl _ _).alloc (Nat.le_refl _) _
  have s0 : w.heap.size < (w.alloc (.cells (stC x).toArray 38)).heap.size := by simp
  have x0 := cX.cell 0 _ rfl
  have x1 := cX.cell 1 _ rfl
  have x2 := cX.cell 2 _ rfl
  have x3 := cX.cell 3 _ rfl
  have x4 := cX.cell 4 _ rfl
  have x5 := cX.cell 5 _ rfl
  have x6 := cX.cell 6 _ rfl
  have x7 := cX.cell 7 _ rfl
  unfold stkB at hx
  go_enter Tryz.func83, Tryz.ntmps83
  by_cases hk1 : x.kind = 1
  · have g1 : (x.kind == 1) = true := by simpa using hk1
    have HK := hide hk1
    clear hx hk1
    go_wp2_with (refine wpList_box_big rfl _ _ rfl (stC x).toArray rfl ?_)
    clear x0 x1 x2 x3 x4 x5 x6 x7 cX
    generalize w.alloc (.cells (stC x).toArray 38) = w1 at *
    refine (doDisk_any x.addr x.val _).mono ?_
    rintro e w2 ⟨rfl, hw2⟩
    have b2 : Below w1.heap.size w1 w2 := by rw [hw2]; exact ((Below.refl _ _).alloc (Nat.le_refl _) _).alloc (by simp) _
    have c1 : w2.cell? ⟨w1.heap.size, 0, none⟩ = some (.int .i64 x.addr) := by
      rw [hw2]; exact ((CsAt.new w1 [.int .i64 x.addr] 3).alloc (by simp) _).cell 0 _ rfl
    have c2 : w2.cell? ⟨w1.heap.size + 1, 0, none⟩ = some (.int .i64 x.val) := by
      have := (CsAt.new (w1.alloc (.cells #[.int .i64 x.addr] 3)) [.int .i64 x.val] 3).cell 0 _ rfl
      rw [World.size_alloc] at this
      rw [hw2]; exact this
    have s2 : w1.heap.size + 2 ≤ w2.heap.size := by rw [hw2]; simp
    have B2 := B0.trans (b2.mono B0.size)
    clear hw2 b2
    go_wp2
    go_ret
    exact ⟨_, rfl, .inl ⟨unhide HK, _, _, rfl, by omega, by omega, c1, c2⟩, B2⟩
  have g1 : (x.kind == 1) = false := by simpa using hk1
  rw [if_neg hk1] at hx
  by_cases hk2 : x.kind = 2
  · have g2 : (x.kind == 2) = true := by simpa using hk2
    have HK := hide hk2
    clear hx hk2 hk1
    go_wp2_with (refine wpList_box_big rfl _ _ rfl (stC x).toArray rfl ?_)
    clear x0 x1 x2 x3 x4 x5 x6 x7 cX
    generalize w.alloc (.cells (stC x).toArray 38) = w1 at *
    refine (doWipe_any x.blk _).mono ?_
    rintro e w2 ⟨rfl, hw2⟩
    have b2 : Below w1.heap.size w1 w2 := by rw [hw2]; exact (Below.refl _ _).alloc (Nat.le_refl _) _
    have c1 : w2.cell? ⟨w1.heap.size, 0, none⟩ = some (.int .i64 x.blk) := by
      rw [hw2]; exact (CsAt.new w1 [.int .i64 x.blk] 3).cell 0 _ rfl
    have s2 : w1.heap.size + 1 ≤ w2.heap.size := by rw [hw2]; simp
    have B2 := B0.trans (b2.mono B0.size)
    clear hw2 b2
    go_wp2
    go_ret
    exact ⟨_, rfl, .inr (.inl ⟨unhide HK, _, rfl, by omega, c1⟩), B2⟩
  have g2 : (x.kind == 2) = false := by simpa using hk2
  rw [if_neg hk2] at hx
  have hk3 : x.kind = 3 := by
    by_cases h : x.kind = 3
    · exact h
    · rw [if_neg h] at hx; cases hx
  have HK := hide hk3
  clear hx hk1 hk2 hk3
  go_wp2_with (refine wpList_box_big rfl _ _ rfl (stC x).toArray rfl ?_)
  clear x0 x1 x2 x3 x4 x5 x6 x7 cX
  generalize w.alloc (.cells (stC x).toArray 38) = w1 at *
  refine (doWrite_any x.blk x.r _).mono ?_
  rintro e w2 ⟨rfl, hw2⟩
  have b2 : Below w1.heap.size w1 w2 := by rw [hw2]; exact ((Below.refl _ _).alloc (Nat.le_refl _) _).alloc (by simp) _
  have c1 : w2.cell? ⟨w1.heap.size, 0, none⟩ = some (.int .i64 x.blk) := by
    rw [hw2]; exact ((CsAt.new w1 [.int .i64 x.blk] 3).alloc (by simp) _).cell 0 _ rfl
  have c2 : w2.rangeAt (w1.heap.size + 1) 0 (rcC x.r) := by
    have := rangeAt_new (w1.alloc (.cells #[.int .i64 x.blk] 3)) (rcC x.r) 36
    rw [World.size_alloc] at this
    rw [hw2]; exact this
  have s2 : w1.heap.size + 2 ≤ w2.heap.size := by rw [hw2]; simp
  have B2 := B0.trans (b2.mono B0.size)
  clear hw2 b2
  go_wp2
  go_ret
  exact ⟨_, rfl, .inr (.inr ⟨unhide HK, _, _, rfl, by omega, by omega, c1, c2⟩), B2⟩
end Go.Proofs.YtbiokmojjneleaaGreat.QuB

/-
  Steps that wait in a queue; the store in memory of its own.
-/
namespace Go.Proofs.YtbiokmojjneleaaGreat.QuC
open Go.ChangeShapes Go.WideShapes Go.ChangeAt Go.RowKit Go.Shelf OkA Big Fl ImplB ImplF ImplS _root_.Go.Proofs.YtbiokmojjneleaaGreat.Own ImplT ImplU SpecA SpecB SpecC SpecD SpecW SpecF SpecG SpecH Ok2 Pl FindP SpecX SpecY ImplW ImplX ImplL Kp StA MpA StB StC StD StE StF StG FindL Gd LawU LawS LawV LawI QuA QuB
set_option linter.unusedVariables false
set_option linter.unusedSimpArgs false
attribute [local go_sem ↓] Go.wp_at_zero Go.wp_at_succ

theorem _root_.Go.Proofs.YtbiokmojjneleaaGreat.QuB.DoAt.int {w : World} {lo hi : Nat} {x : Stp} {v : Value} (h : DoAt w lo hi x v) {w' : World} {L : List Nat} (k : Kept L w w') (hh : hi ≤ w.heap.size) (hL : ∀ y ∈ L, ∀ z, w.cell? ⟨y, 0, none⟩ ≠ some (.int .i64 z)) : DoAt w' lo hi x v := by
  rcases h with ⟨hk, p, q, e, hp, hq, cp, cq⟩ | ⟨hk, p, e, hp, cp⟩ | ⟨hk, p, q, e, hp, hq, cp, cq⟩
  · exact .inl ⟨hk, p, q, e, hp, hq, by rw [k.cell 0 (by omega) (fun hm => hL p hm _ cp)]; exact cp, by rw [k.cell 0 (by omega) (fun hm => hL q hm _ cq)]; exact cq⟩
  · exact .inr (.inl ⟨hk, p, e, hp, by rw [k.cell 0 (by omega) (fun hm => hL p hm _ cp)]; exact cp⟩)
  · exact .inr (.inr ⟨hk, p, q, e, hp, hq, by rw [k.cell 0 (by omega) (fun hm => hL p hm _ cp)]; exact cp, k.range cq (by omega) (fun hm => hL q hm _ (cq 0 _ rfl))⟩)
theorem _root_.Go.Proofs.YtbiokmojjneleaaGreat.QuB.DoAt.func {w : World} {lo hi : Nat} {x : Stp} {v : Value} (h : DoAt w lo hi x v) : ∃ f c, v = .func f #[] c := by
  rcases h with ⟨_, p, q, rfl, _⟩ | ⟨_, p, rfl, _⟩ | ⟨_, p, q, rfl, _⟩ <;> exact ⟨_, _, rfl⟩

theorem cs_kept {w w' : World} {b : Nat} {cs : List Value} (h : CsAt w b cs) {L : List Nat} (k : Kept L w w') (hb : b < w.heap.size) (hL : b ∉ L) : CsAt w' b cs := ⟨k.range h.cells hb hL, k.there h.free hb hL⟩
/-- A row of functions that wait, which grows. -/
structure Fr (w : World) (lo : Nat) (v : Value) (L : List Stp) (vs : List Value) : Prop where
  row : w.ownsRow lo 90 1 v L.length vs
  len : vs.length = L.length
  lt : ∀ g, v.ownBlock = some g → lo ≤ g ∧ g < w.heap.size
  dos : ∀ i (hi : i < L.length), DoAt w lo w.heap.size L[i] (vs[i]'(by omega))
  nil : L = [] → v = .slice none 0 0
theorem Fr.start (w : World) (lo : Nat) : Fr w lo (.slice none 0 0) [] [] :=
  ⟨⟨by simp [maxLen], .inl ⟨rfl, rfl⟩⟩, rfl, fun g hg => by simp [Value.ownBlock] at hg, fun i hi => by simp at hi, fun _ => rfl⟩
theorem Fr.below {w w' : World} {lo : Nat} {v : Value} {L : List Stp} {vs : List Value} (h : Fr w lo v L vs) (hb : Below w.heap.size w w') : Fr w' lo v L vs :=
  ⟨ownsRow_below h.row hb (fun g hg => (h.lt g hg).2), h.len, fun g hg => ⟨(h.lt g hg).1, Nat.lt_of_lt_of_le (h.lt g hg).2 hb.size⟩, fun i hi => ((h.dos i hi).kept (L := []) (Kept.of hb) (Nat.le_refl _) (fun y hy => by simp at hy)).mono (Nat.le_refl _) hb.size, h.nil⟩
theorem Fr.form {w : World} {lo : Nat} {v : Value} {L : List Stp} {vs : List Value} (h : Fr w lo v L vs) : ∃ a cap, v = .slice a L.length cap ∧ L.length ≤ cap ∧ (L = [] ∨ ∃ g, a = some ⟨g, 0, none⟩ ∧ lo ≤ g ∧ g < w.heap.size ∧ w.rangeAt g 0 vs) := by
  obtain ⟨h1, h2⟩ := h.row
  rcases h2 with ⟨e, hn⟩ | ⟨g, cap, cur, e, hb, hh, hc, r⟩
  · exact ⟨none, 0, by rw [e, hn], by omega, .inl (List.eq_nil_of_length_eq_zero hn)⟩
  · refine ⟨_, cap, e, hc, ?_⟩
    cases L with
    | nil => exact .inl rfl
    | cons x r' =>
      subst e
      have hl := h.lt g rfl
      exact .inr ⟨g, rfl, hl.1, hl.2, (row_pages (by simp) h.row).1⟩
theorem Fr.push {w w' : World} {lo : Nat} {v v' : Value} {L : List Stp} {vs : List Value} {x : Stp} {fv : Value} (h : Fr w lo v L vs) (hlo : lo ≤ w.heap.size) (hd : DoAt w lo w.heap.size x fv) (ho : w'.ownsRow lo 90 1 v' (L.length + 1) (vs ++ [fv])) (hg : w.grownBy w' v.ownBlock) : Fr w' lo v' (L ++ [x]) (vs ++ [fv]) ∧ Below lo w w' := by
  have kp : Kept v.ownBlock.toList w w' := (Kept.refl _ w).grown hg (fun k e => .inl (by rw [e]; simp))
  have hno : ∀ y ∈ v.ownBlock.toList, ∀ z, w.cell? ⟨y, 0, none⟩ ≠ some (.int .i64 z) := fun y hy z hc => by
    obtain ⟨a, cap, e, _, hf⟩ := h.form
    rcases hf with rfl | ⟨g, rfl, _, _, hr⟩
    · rw [h.nil rfl] at hy; simp [Value.ownBlock] at hy
    · rw [e] at hy
      simp [Value.ownBlock] at hy
      subst hy
      have hl : 0 < L.length := by
        cases L with
        | nil => rw [h.nil rfl] at e; cases e
        | cons _ _ => simp
      have hv : 0 < vs.length := by rw [h.len]; exact hl
      obtain ⟨f, c, ef⟩ := (h.dos 0 hl).func
      have := hr 0 _ (List.getElem?_eq_getElem hv)
      rw [Nat.zero_add, hc, ef] at this
      cases this
  refine ⟨⟨by rw [List.length_append]; exact ho, by rw [List.length_append, List.length_append, h.len]; rfl, fun g e => ?_, fun i hi => ?_, fun e => by simp at e⟩, (Below.refl _ _).grown hg hlo (fun k e => (h.lt k e).1)⟩
  · obtain ⟨_, h2⟩ := ho
    rcases h2 with ⟨_, h2⟩ | ⟨g', cap, cur, rfl, hb, hh, _⟩
    · omega
    · simp [Value.ownBlock] at e
      subst e
      refine ⟨hb, ?_⟩
      by_cases hlt : g' < w'.heap.size
      · exact hlt
      · have : w'.heap[g']? = none := by simp; omega
        rw [this] at hh; cases hh
  · rw [List.length_append, List.length_singleton] at hi
    by_cases q : i < L.length
    · have := ((h.dos i q).int kp (Nat.le_refl _) hno).mono (Nat.le_refl lo) kp.size
      rw [List.getElem_append_left q, List.getElem_append_left (by rw [h.len]; exact q)]
      exact this
    · obtain rfl : i = L.length := by omega
      have := (hd.int kp (Nat.le_refl _) hno).mono (Nat.le_refl lo) kp.size
      have e1 : (L ++ [x])[L.length]'(by simp) = x := by rw [List.getElem_append_right (Nat.le_refl _)]; simp
      have e2 : (vs ++ [fv])[L.length]'(by simp [h.len]) = fv := by rw [List.getElem_append_right (by rw [h.len]; exact Nat.le_refl _)]; simp [h.len]
      rw [e1, e2]; exact this

/-- Steps that wait there, their functions and what these hold from lo to hi. -/
def QAt (w : World) (lo hi : Nat) (a : Option Addr) (L : List Stp) : Prop := L = [] ∨ ∃ g o, a = some ⟨g, o, none⟩ ∧ lo ≤ g ∧ g < hi ∧ ∀ i (h : i < L.length), ∃ v, w.cell? ⟨g, o + i, none⟩ = some v ∧ DoAt w lo hi L[i] v
theorem QAt.kept {w w' : World} {lo hi : Nat} {a : Option Addr} {L : List Stp} (h : QAt w lo hi a L) {M : List Nat} (k : Kept M w w') (hh : hi ≤ w.heap.size) (hM : ∀ y ∈ M, y < lo ∨ hi ≤ y) : QAt w' lo hi a L := by
  rcases h with h | ⟨g, o, rfl, h1, h2, h⟩
  · exact .inl h
  · refine .inr ⟨g, o, rfl, h1, h2, fun i hi' => ?_⟩
    obtain ⟨v, hv, hd⟩ := h i hi'
    exact ⟨v, by rw [k.cell _ (by omega) (fun hm => by have := hM g hm; omega)]; exact hv, hd.kept k hh hM⟩
theorem Fr.queue {w : World} {lo : Nat} {v : Value} {L : List Stp} {vs : List Value} (h : Fr w lo v L vs) : ∃ a cap, v = .slice a L.length cap ∧ L.length ≤ cap ∧ QAt w lo w.heap.size a L := by
  obtain ⟨a, cap, e, hc, hf⟩ := h.form
  refine ⟨a, cap, e, hc, ?_⟩
  rcases hf with hf | ⟨g, rfl, h1, h2, hr⟩
  · exact .inl hf
  · refine .inr ⟨g, 0, rfl, h1, h2, fun i hi => ⟨vs[i]'(by rw [h.len]; exact hi), ?_, h.dos i hi⟩⟩
    exact hr i _ (List.getElem?_eq_getElem _)
theorem made_do : (Tryz.prog.info? 90).map (fun i => (i.zero, i.size, i.bytes)) = some (some .nilFunc, 1, 8) := by kernel_rfl
theorem infoD : ∃ i, Tryz.prog.info? 90 = some i ∧ i.zero = some .nilFunc ∧ i.size = 1 ∧ i.bytes = 8 := by
  have h := made_do
  cases hq : Tryz.prog.info? 90 with
  | none => rw [hq] at h; cases h
  | some i => rw [hq] at h; simp at h; exact ⟨i, rfl, h.1, h.2.1, h.2.2⟩
/-- A queue's own cell is written. -/
theorem Fr.keptQ {w w' : World} {lo q : Nat} {v : Value} {L : List Stp} {vs : List Value} (h : Fr w lo v L vs) (k : Kept [q] w w') (hq : q < lo) (hlo : lo ≤ w.heap.size) : Fr w' lo v L vs :=
  ⟨k.row h.row (fun b hb => by have := (h.lt b hb).1; simp; omega), h.len, fun g hg => ⟨(h.lt g hg).1, Nat.lt_of_lt_of_le (h.lt g hg).2 k.size⟩, fun i hi => ((h.dos i hi).kept k (Nat.le_refl _) (fun y hy => by simp at hy; subst hy; exact .inl hq)).mono (Nat.le_refl _) k.size, h.nil⟩
def QfPost (w : World) (L : List Stp) (e : Ending) (w' : World) : Prop := ∃ a n cap, e = .returned (.tuple #[.agg #[.slice a n cap], .bool (L.all stkB)]) ∧ (L.all stkB = true → n = L.length ∧ n ≤ cap ∧ QAt w' w.heap.size w'.heap.size a L) ∧ Below w.heap.size w w'

set_option maxRecDepth 100000 in
set_option maxHeartbeats 4000000 in
theorem queueOf_any (sa : Option Addr) (sc : Nat) (L : List Stp) (w : World) (hS : SsAt w sa L) (hlen : L.length ≤ 1048576) :
    Calls Tryz.prog 52 #[.slice sa L.length sc] w fun e w' => QfPost w L e w' := by
  have cR := (CsAt.new w [.slice none 0 0] 83).alloc (by simp) (.cells #[.slice none 0 0] 83)
  have cQ := CsAt.new (w.alloc (.cells #[.slice none 0 0] 83)) [.slice none 0 0] 83
  rw [World.size_alloc] at cQ
  have B0 : Below w.heap.size w ((w.alloc (.cells #[.slice none 0 0] 83)).alloc (.cells #[.slice none 0 0] 83)) := ((Below.refl _ _).alloc (Nat.le_refl _) _).alloc (by simp) _
  have s0 : w.heap.size + 2 ≤ ((w.alloc (.cells #[.slice none 0 0] 83)).alloc (.cells #[.slice none 0 0] 83)).heap.size := by simp
  have HSA := hide hS
  have hli : (L.length : Int) ≤ 1048576 := by omega
  clear hS
  go_enter Tryz.func52, Tryz.ntmps52
  go_wp2
  generalize (w.alloc (.cells #[.slice none 0 0] 83)).alloc (.cells #[.slice none 0 0] 83) = w1 at *
  go_loopw [9] (fun i w' => ∃ (k : Nat) (v : Value) (vs : List Value), k ≤ L.length ∧ i = .int .i64 k ∧ Hid (∀ j (hj : j < L.length), j < k → stkB L[j] = true) ∧ Fr w' (w.heap.size + 2) v (L.take k) vs ∧ CsAt w' (w.heap.size + 1) [v] ∧ CsAt w' w.heap.size [.slice none 0 0] ∧ w.heap.size + 2 ≤ w'.heap.size ∧ Below w.heap.size w w') (fun i _ => L.length - (intOf i).toNat)
  case atStart => exact ⟨0, _, [], by omega, rfl, (fun j hj h => by omega), Fr.start _ _, cQ, cR, s0, B0⟩
  case round =>
    clear cR cQ B0 s0
    obtain ⟨k, v, vs, hk, rfl, HI, hF, hQ, hR, hs, hB⟩ := hrel
    by_cases h0 : k = L.length
    · subst h0
      rw [List.take_of_length_le (Nat.le_refl _)] at hF
      have HT : Hid (L.all stkB = true) := by
        show _ = _
        rw [List.all_eq_true]
        intro x hx
        obtain ⟨j, hj, rfl⟩ := List.getElem_of_mem hx
        exact unhide HI j hj hj
      obtain ⟨a, cap, rfl, hc, hA⟩ := hF.queue
      have q0 := hQ.cell 0 _ rfl
      have r0 := hR.cell 0 _ rfl
      have f0 := hR.frozen 0 (by simp)
      have p1 := hR.put [.slice a L.length cap] rfl
      have kz := keptC wr w.heap.size 0 [.slice a L.length cap]
      have hA2 := hA.kept kz (Nat.le_refl _) (fun y hy => by simp at hy; subst hy; omega)
      have BZ := below_setCells w.heap.size (Nat.le_refl _) [.slice a L.length cap] 0 _ hB
      have sz : (wr.setCells w.heap.size 0 [.slice a L.length cap]).heap.size = wr.heap.size := size_setCells _ _ _ _
      have HP : Hid (QfPost w L (.returned (.tuple #[.agg #[.slice a L.length cap], .bool true])) (wr.setCells w.heap.size 0 [.slice a L.length cap])) := by
        refine ⟨a, L.length, cap, by rw [unhide HT], fun _ => ⟨rfl, hc, ?_⟩, BZ⟩
        rcases hA2 with h | ⟨g, o, rfl, h1, h2, h⟩
        · exact .inl h
        · exact .inr ⟨g, o, rfl, by omega, by omega, fun i hi => by obtain ⟨u, hu, hd⟩ := h i hi; exact ⟨u, hu, hd.mono (by omega) (by omega)⟩⟩
      clear hA hA2 hF hQ hR BZ kz hB
      go_wp2
      exact bodyPost_ret (res_cell_tmp Tryz.results52 _ _ w.heap.size [.slice a L.length cap] _ rfl p1.cells Tryz.underlying83 rfl (by kernel_rfl)) rfl (unhide HP)
    · have hlt : (k : Int) < (L.length : Int) := by omega
      have hkb : k < L.length := by omega
      have hlo : (0 : Int) ≤ (k : Int) := by omega
      obtain ⟨sb, so, rfl, rX, lX⟩ := ((unhide HSA).below hB).at k hkb
      have HT := hide (List.take_succ_eq_append_getElem hkb)
      have HIN : Hid (∀ b, stkB L[k] = b → (b = true → ∀ j (hj : j < L.length), j < k + 1 → stkB L[j] = true) ∧ (b = false → L.all stkB = false)) := fun b hb => ⟨fun e j hj h => by
          by_cases q : j = k
          · subst q; rw [hb]; exact e
          · exact unhide HI j hj (by omega), fun e => by
          cases q : L.all stkB
          · rfl
          · rw [List.all_eq_true] at q
            have := q L[k] (List.getElem_mem hkb)
            rw [hb, e] at this; cases this⟩
      have htl : (L.take k).length = k := by simp; omega
      generalize L[k] = x at *
      have HS8 := hide (size_s8 x)
      have HOK := hide (stepOk_any x)
      have bn : Below wr.heap.size wr (wr.alloc (.cells (stC x).toArray 38)) := (Below.refl _ _).alloc (Nat.le_refl _) _
      have cX := CsAt.new wr (stC x) 38
      have hF2 := hF.below bn
      have hQ2 := hQ.below bn (by omega)
      have hR2 := hR.below bn (by omega)
      have hB2 := hB.trans (bn.mono hB.size)
      have hs2 : wr.heap.size + 1 ≤ (wr.alloc (.cells (stC x).toArray 38)).heap.size := by simp
      have hsw := hB.size
      obtain ⟨zt, hzt, hz8⟩ : ∃ z : Array Value, (Tryz.prog.info? 38).bind (·.zero) = some (.agg z) ∧ z.size = (stC x).toArray.size := ⟨(stC zSt).toArray, by kernel_rfl, rfl⟩
      have HZT := hide hzt
      have rXX := cX.cells
      clear hF hQ hR bn hzt
      go_wp2_with (first | (refine wpList_load_mid rfl 38 _ rfl sb (so + k * 8) rfl (stC x) _ rX Tryz.underlying38 rfl (unhide HS8) ?_) | (refine wpList_alloc_big rfl 38 rfl zt (unhide HZT) ?_) | (refine wpList_store_new rfl 38 _ _ rfl wr zt (stC x).toArray rfl rfl rfl (by rw [List.size_toArray]; exact unhide HS8) hz8 (all_oneCell_toArray (RmA.one_stC x)) ?_) | (refine wpList_load_mid rfl 38 _ rfl wr.heap.size 0 rfl (stC x) _ rXX Tryz.underlying38 rfl (unhide HS8) ?_))
      clear rX rXX lX
      generalize wr.alloc (.cells (stC x).toArray 38) = w4 at *
      generalize hbx : wr.heap.size = bx at *
      refine (unhide HOK _).mono ?_
      rintro e w5 ⟨rfl, b5⟩
      have hF5 := hF2.below b5
      have hQ5 := hQ2.below b5 (by omega)
      have hR5 := hR2.below b5 (by omega)
      have cX5 := cX.below b5 (by omega)
      have hB5 := hB2.trans (b5.mono hB2.size)
      have hs5 : bx + 1 ≤ w5.heap.size := by have := b5.size; omega
      clear hF2 hQ2 hR2 cX hB2 b5 HOK
      cases hx : stkB x
      · have HE := hide ((unhide HIN false hx).2 rfl)
        have r0 := hR5.cell 0 _ rfl
        have f0 := hR5.frozen 0 (by simp)
        have p1 := hR5.put [.slice none 0 0] rfl
        have BZ := below_setCells w.heap.size (Nat.le_refl _) [.slice none 0 0] 0 _ hB5
        have HP : Hid (QfPost w L (.returned (.tuple #[.agg #[.slice none 0 0], .bool false])) (w5.setCells w.heap.size 0 [.slice none 0 0])) := ⟨none, 0, 0, by rw [unhide HE], (fun h => by rw [unhide HE] at h; cases h), BZ⟩
        clear hF5 hQ5 hR5 BZ hB5 cX5
        go_wp2
        exact bodyPost_ret (res_cell_tmp Tryz.results52 _ _ w.heap.size [.slice none 0 0] _ rfl p1.cells Tryz.underlying83 rfl (by kernel_rfl)) rfl (unhide HP)
      have HI2 := hide ((unhide HIN true hx).1 rfl)
      have HDO := hide (doOf_any x hx)
      have q0 := hQ5.cell 0 _ rfl
      obtain ⟨a0, cap0, ev, _, _⟩ := hF5.form
      rw [htl] at ev
      subst ev
      obtain ⟨iD, hiD, hzD, hsD, hbD⟩ := infoD
      clear HIN
      go_wp2_with fail
      clear q0
      refine wp_region_noPanic ?_
      refine wp_region_held_drew (S := fun w' => CsAt w' w.heap.size [.slice none 0 0] ∧ (∃ u : Value, CsAt w' (w.heap.size + 1) [u]) ∧ CsAt w' bx (stC x) ∧ bx + 1 ≤ w'.heap.size) (by kernel_rfl) (⟨⟨fun j u hu => hR5.cells j u hu, fun j hj => hR5.free j hj⟩, ⟨_, ⟨fun j u hu => hQ5.cells j u hu, fun j hj => hQ5.free j hj⟩⟩, ⟨fun j u hu => cX5.cells j u hu, fun j hj => cX5.free j hj⟩, hs5⟩) (fun hHeld => ?_)
      refine takeL 0 (.pointer (some ⟨w.heap.size + 1, 0, none⟩)) rfl (by kernel_rfl) (by kernel_rfl) (by kernel_rfl) (fun _ _ _ h => h) (Or.inl ⟨rfl, fun w9 hSw => by go_simp⟩) hHeld ?_
      try simp only [Act.put, List.setIfInBounds_toArray, List.set_cons_zero, List.set_cons_succ]
      refine takeL 2 (_) rfl (by kernel_rfl) (by kernel_rfl) (by kernel_rfl) (fun _ _ _ h => h) (yieldsIf_load_mid rfl 38 _ rfl bx 0 rfl (stC x) _ (fun _ h => h.2.2.1.cells) Tryz.underlying38 rfl (unhide HS8)) hHeld ?_
      try simp only [Act.put, List.setIfInBounds_toArray, List.set_cons_zero, List.set_cons_succ]
      refine twoL 1 3 rfl rfl (by kernel_rfl) rfl rfl (fun K hK => ?_) (fun K hK => ?_)
      · have hFd : Fr w5.drew (w.heap.size + 2) (.slice a0 k cap0) (L.take k) vs := hF5.below ((Below.refl _ _).drew)
        have hQd : CsAt w5.drew (w.heap.size + 1) [.slice a0 k cap0] := ⟨fun j u hu => hQ5.cells j u hu, fun j hj => hQ5.free j hj⟩
        have hBd := hB5.drew
        have hsd : bx + 1 ≤ w5.drew.heap.size := hs5
        have hq9 := hQd.cell 0 _ rfl
        go_simp
        clear hq9
        refine hK.out _ _ hHeld (fun _ => ?_)
        clear hK K
        try simp only [Act.put, List.setIfInBounds_toArray, List.set_cons_zero, List.set_cons_succ]
        refine oneL 3 rfl (by kernel_rfl) rfl (fun K hK => ?_)
        go_simp
        refine (unhide HDO _).mono ?_
        rintro e w6 ⟨fvv, rfl, hD6, b6⟩
        obtain ⟨ff, fc, rfl⟩ := hD6.func
        go_wp2_with fail
        refine hK.out _ _ ⟨hHeld.1.below b6 (by have := hHeld.2.2.2; omega), (by obtain ⟨u, hu⟩ := hHeld.2.1; exact ⟨u, hu.below b6 (by have := hHeld.2.2.2; omega)⟩), hHeld.2.2.1.below b6 (by have := hHeld.2.2.2; omega), Nat.le_trans hHeld.2.2.2 b6.size⟩ (fun hHeld => ?_)
        clear hK K
        try simp only [Act.put, List.setIfInBounds_toArray, List.set_cons_zero, List.set_cons_succ]
        refine oneL 4 rfl (by kernel_rfl) rfl (fun K hK => ?_)
        go_simp
        have bA : Below w6.heap.size w6 (w6.alloc (.cells #[(Value.func ff #[] fc)] 90)) := (Below.refl _ _).alloc (Nat.le_refl _) _
        have HA : CsAt (w6.alloc (.cells #[(Value.func ff #[] fc)] 90)) w.heap.size [.slice none 0 0] ∧ (∃ u : Value, CsAt (w6.alloc (.cells #[(Value.func ff #[] fc)] 90)) (w.heap.size + 1) [u]) ∧ CsAt (w6.alloc (.cells #[(Value.func ff #[] fc)] 90)) bx (stC x) ∧ bx + 1 ≤ (w6.alloc (.cells #[(Value.func ff #[] fc)] 90)).heap.size := ⟨hHeld.1.below bA (by have := hHeld.2.2.2; omega), (by obtain ⟨u, hu⟩ := hHeld.2.1; exact ⟨u, hu.below bA (by have := hHeld.2.2.2; omega)⟩), hHeld.2.2.1.below bA (by have := hHeld.2.2.2; omega), Nat.le_trans hHeld.2.2.2 bA.size⟩
        clear hHeld
        refine hK.out _ _ HA (fun hHeld => ?_)
        clear hK K HA
        try simp only [Act.put, List.setIfInBounds_toArray, List.set_cons_zero, List.set_cons_succ]
        have nw := CsAt.new w6 [(Value.func ff #[] fc)] 90
        have q6 := b6.size
        have hF7 := (hFd.below b6).below bA
        have hD7 : DoAt (w6.alloc (.cells #[(Value.func ff #[] fc)] 90)) (w.heap.size + 2) (w6.alloc (.cells #[(Value.func ff #[] fc)] 90)).heap.size x (Value.func ff #[] fc) := (hD6.kept (L := []) (Kept.of bA) (Nat.le_refl _) (fun y hy => by simp at hy)).mono (by omega) (by simp)
        have hQ7 := (hQd.below b6 (by omega)).below bA (by omega)
        have hB7 := (hBd.trans (b6.mono hBd.size)).trans (bA.mono (by omega))
        have hone : ∀ u ∈ [(Value.func ff #[] fc)], u.oneCell' = true := fun u hu => by simp at hu; subst hu; exact hD6.one
        have hs7 : w6.heap.size + 1 ≤ (w6.alloc (.cells #[(Value.func ff #[] fc)] 90)).heap.size := by simp
        generalize w6.alloc (.cells #[(Value.func ff #[] fc)] 90) = w7 at *
        generalize hb7 : w6.heap.size = b7 at *
        refine oneL 5 rfl (by kernel_rfl) rfl (fun K hK => ?_)
        refine wp_append_own w7 _ _ 81 rfl (w.heap.size + 2) 90 iD .nilFunc 1 8 Tryz.underlying81 hiD hzD hsD hbD rfl (by omega) (.slice a0 k cap0) (L.take k).length vs rfl hF7.row ⟨b7, 0, none⟩ 1 1 [(Value.func ff #[] fc)] rfl rfl (src_mid nw.cells) hone (by simp [maxLen]; omega) (by omega) (by omega) ?_
        intro v' w8 ho8 hg8 _
        obtain ⟨F8, b8⟩ := hF7.push (by omega) hD7 ho8 hg8
        have hB8 := hB7.trans (b8.mono (by omega))
        have hs8 := b8.size
        have kg : Kept (Value.slice a0 k cap0).ownBlock.toList w7 w8 := (Kept.refl _ w7).grown hg8 (fun k e => .inl (by rw [e]; simp))
        have hX8 : CsAt w8 bx (stC x) := by
          refine cs_kept hHeld.2.2.1 kg (by omega) (fun hm => ?_)
          obtain ⟨a1, c1, e1, _, hf⟩ := hF7.form
          rcases hf with hf | ⟨g, rfl, _, _, hr⟩
          · rw [hF7.nil hf] at hm; simp [Value.ownBlock] at hm
          · rw [e1] at hm
            simp [Value.ownBlock] at hm
            subst hm
            have hl : 0 < (L.take k).length := by
              rcases Nat.eq_zero_or_pos (L.take k).length with h | h
              · have := hF7.nil (List.eq_nil_of_length_eq_zero h); rw [this] at e1; cases e1
              · exact h
            have hv : 0 < vs.length := by rw [hF7.len]; exact hl
            obtain ⟨f, c, ef⟩ := (hF7.dos 0 hl).func
            have h1 := hr 0 _ (List.getElem?_eq_getElem hv)
            have h2 := hHeld.2.2.1.cell 0 _ rfl
            rw [Nat.zero_add, h2, ef] at h1
            cases h1
        refine hK.out _ _ ⟨hHeld.1.below b8 (by omega), (by obtain ⟨u, hu⟩ := hHeld.2.1; exact ⟨u, hu.below b8 (by omega)⟩), hX8, by omega⟩ (fun hHeld => ?_)
        clear hK K hX8 kg
        try simp only [Act.put, List.setIfInBounds_toArray, List.set_cons_zero, List.set_cons_succ]
        have hQ8 := hQ7.below b8 (by omega)
        obtain ⟨a8, c8, e8, _, _⟩ := F8.form
        rw [show (L.take k ++ [x]).length = k + 1 by rw [List.length_append, htl]; rfl] at e8
        subst e8
        refine takeL 6 (.pointer (some ⟨w.heap.size + 1, 0, none⟩)) rfl (by kernel_rfl) (by kernel_rfl) (by kernel_rfl) (fun _ _ _ h => h) (Or.inl ⟨rfl, fun w9 hSw => by go_simp⟩) hHeld ?_
        try simp only [Act.put, List.setIfInBounds_toArray, List.set_cons_zero, List.set_cons_succ]
        have q8 := hQ8.cell 0 _ rfl
        have f8 := hQ8.frozen 0 (by simp)
        have kz := keptC w8 (w.heap.size + 1) 0 [.slice a8 (k + 1) c8]
        have hQ9 := hQ8.put [.slice a8 (k + 1) c8] rfl
        have hR9 := hHeld.1.other (show w.heap.size ≠ w.heap.size + 1 by omega) 0 [.slice a8 (k + 1) c8]
        have hX9 := hHeld.2.2.1.other (show bx ≠ w.heap.size + 1 by omega) 0 [.slice a8 (k + 1) c8]
        have B9 := below_setCells (w.heap.size + 1) (show w.heap.size ≤ w.heap.size + 1 by omega) [.slice a8 (k + 1) c8] 0 _ hB8
        have s9 : (w8.setCells (w.heap.size + 1) 0 [.slice a8 (k + 1) c8]).heap.size = w8.heap.size := size_setCells _ _ _ _
        have F9 := F8.keptQ kz (by omega) (by omega)
        refine oneL 7 rfl (by kernel_rfl) rfl (fun K hK => ?_)
        go_simp
        refine hK.out _ _ ⟨hR9, ⟨_, hQ9⟩, hX9, by rw [show (w8.setCell ⟨w.heap.size + 1, 0, none⟩ (.slice a8 (k + 1) c8)).heap.size = w8.heap.size from s9]; omega⟩ (fun hHeld => ?_)
        clear hK K
        try simp only [Act.put, List.setIfInBounds_toArray, List.set_cons_zero, List.set_cons_succ]
        refine wpAnyH_done (by kernel_rfl) ?_ _
        refine NoPanic.normal ?_
        have s9' : w.heap.size + 2 ≤ (w8.setCell ⟨w.heap.size + 1, 0, none⟩ (.slice a8 (k + 1) c8)).heap.size := by rw [show (w8.setCell ⟨w.heap.size + 1, 0, none⟩ (.slice a8 (k + 1) c8)).heap.size = w8.heap.size from s9]; omega
        have hR9' : CsAt (w8.setCell ⟨w.heap.size + 1, 0, none⟩ (.slice a8 (k + 1) c8)) w.heap.size [.slice none 0 0] := hR9
        have hQ9' : CsAt (w8.setCell ⟨w.heap.size + 1, 0, none⟩ (.slice a8 (k + 1) c8)) (w.heap.size + 1) [.slice a8 (k + 1) c8] := hQ9
        have B9' : Below w.heap.size w (w8.setCell ⟨w.heap.size + 1, 0, none⟩ (.slice a8 (k + 1) c8)) := B9
        have F9' : Fr (w8.setCell ⟨w.heap.size + 1, 0, none⟩ (.slice a8 (k + 1) c8)) (w.heap.size + 2) (.slice a8 (k + 1) c8) (L.take k ++ [x]) (vs ++ [(Value.func ff #[] fc)]) := F9
        clear hR9 hQ9 hX9 B9 F9 kz q8 f8 hHeld s9 F8 hQ8 hB8
        generalize w8.setCell ⟨w.heap.size + 1, 0, none⟩ (.slice a8 (k + 1) c8) = w9 at *
        clear hQ5 hR5 cX5
        go_wp2
        go_roundw
        case rel => exact ⟨k + 1, _, vs ++ [(Value.func ff #[] fc)], by omega, by first | rfl | go_num, HI2, by rw [unhide HT]; exact F9', hQ9', hR9', s9', B9'⟩
        case measure => simp [intOf]; omega
      · have hFd : Fr w5.drew (w.heap.size + 2) (.slice a0 k cap0) (L.take k) vs := hF5.below ((Below.refl _ _).drew)
        have hQd : CsAt w5.drew (w.heap.size + 1) [.slice a0 k cap0] := ⟨fun j u hu => hQ5.cells j u hu, fun j hj => hQ5.free j hj⟩
        have hBd := hB5.drew
        have hsd : bx + 1 ≤ w5.drew.heap.size := hs5
        go_simp
        refine (unhide HDO _).mono ?_
        rintro e w6 ⟨fvv, rfl, hD6, b6⟩
        obtain ⟨ff, fc, rfl⟩ := hD6.func
        go_wp2_with fail
        refine hK.out _ _ ⟨hHeld.1.below b6 (by have := hHeld.2.2.2; omega), (by obtain ⟨u, hu⟩ := hHeld.2.1; exact ⟨u, hu.below b6 (by have := hHeld.2.2.2; omega)⟩), hHeld.2.2.1.below b6 (by have := hHeld.2.2.2; omega), Nat.le_trans hHeld.2.2.2 b6.size⟩ (fun hHeld => ?_)
        clear hK K
        try simp only [Act.put, List.setIfInBounds_toArray, List.set_cons_zero, List.set_cons_succ]
        refine twoL 1 4 rfl rfl (by kernel_rfl) rfl rfl (fun K hK => ?_) (fun K hK => ?_)
        · have hq9 := (hQd.below b6 (by omega)).cell 0 _ rfl
          go_simp
          clear hq9
          refine hK.out _ _ hHeld (fun _ => ?_)
          clear hK K
          try simp only [Act.put, List.setIfInBounds_toArray, List.set_cons_zero, List.set_cons_succ]
          refine oneL 4 rfl (by kernel_rfl) rfl (fun K hK => ?_)
          go_simp
          have bA : Below w6.heap.size w6 (w6.alloc (.cells #[(Value.func ff #[] fc)] 90)) := (Below.refl _ _).alloc (Nat.le_refl _) _
          have HA : CsAt (w6.alloc (.cells #[(Value.func ff #[] fc)] 90)) w.heap.size [.slice none 0 0] ∧ (∃ u : Value, CsAt (w6.alloc (.cells #[(Value.func ff #[] fc)] 90)) (w.heap.size + 1) [u]) ∧ CsAt (w6.alloc (.cells #[(Value.func ff #[] fc)] 90)) bx (stC x) ∧ bx + 1 ≤ (w6.alloc (.cells #[(Value.func ff #[] fc)] 90)).heap.size := ⟨hHeld.1.below bA (by have := hHeld.2.2.2; omega), (by obtain ⟨u, hu⟩ := hHeld.2.1; exact ⟨u, hu.below bA (by have := hHeld.2.2.2; omega)⟩), hHeld.2.2.1.below bA (by have := hHeld.2.2.2; omega), Nat.le_trans hHeld.2.2.2 bA.size⟩
          clear hHeld
          refine hK.out _ _ HA (fun hHeld => ?_)
          clear hK K HA
          try simp only [Act.put, List.setIfInBounds_toArray, List.set_cons_zero, List.set_cons_succ]
          have nw := CsAt.new w6 [(Value.func ff #[] fc)] 90
          have q6 := b6.size
          have hF7 := (hFd.below b6).below bA
          have hD7 : DoAt (w6.alloc (.cells #[(Value.func ff #[] fc)] 90)) (w.heap.size + 2) (w6.alloc (.cells #[(Value.func ff #[] fc)] 90)).heap.size x (Value.func ff #[] fc) := (hD6.kept (L := []) (Kept.of bA) (Nat.le_refl _) (fun y hy => by simp at hy)).mono (by omega) (by simp)
          have hQ7 := (hQd.below b6 (by omega)).below bA (by omega)
          have hB7 := (hBd.trans (b6.mono hBd.size)).trans (bA.mono (by omega))
          have hone : ∀ u ∈ [(Value.func ff #[] fc)], u.oneCell' = true := fun u hu => by simp at hu; subst hu; exact hD6.one
          have hs7 : w6.heap.size + 1 ≤ (w6.alloc (.cells #[(Value.func ff #[] fc)] 90)).heap.size := by simp
          generalize w6.alloc (.cells #[(Value.func ff #[] fc)] 90) = w7 at *
          generalize hb7 : w6.heap.size = b7 at *
          refine oneL 5 rfl (by kernel_rfl) rfl (fun K hK => ?_)
          refine wp_append_own w7 _ _ 81 rfl (w.heap.size + 2) 90 iD .nilFunc 1 8 Tryz.underlying81 hiD hzD hsD hbD rfl (by omega) (.slice a0 k cap0) (L.take k).length vs rfl hF7.row ⟨b7, 0, none⟩ 1 1 [(Value.func ff #[] fc)] rfl rfl (src_mid nw.cells) hone (by simp [maxLen]; omega) (by omega) (by omega) ?_
          intro v' w8 ho8 hg8 _
          obtain ⟨F8, b8⟩ := hF7.push (by omega) hD7 ho8 hg8
          have hB8 := hB7.trans (b8.mono (by omega))
          have hs8 := b8.size
          have kg : Kept (Value.slice a0 k cap0).ownBlock.toList w7 w8 := (Kept.refl _ w7).grown hg8 (fun k e => .inl (by rw [e]; simp))
          have hX8 : CsAt w8 bx (stC x) := by
            refine cs_kept hHeld.2.2.1 kg (by omega) (fun hm => ?_)
            obtain ⟨a1, c1, e1, _, hf⟩ := hF7.form
            rcases hf with hf | ⟨g, rfl, _, _, hr⟩
            · rw [hF7.nil hf] at hm; simp [Value.ownBlock] at hm
            · rw [e1] at hm
              simp [Value.ownBlock] at hm
              subst hm
              have hl : 0 < (L.take k).length := by
                rcases Nat.eq_zero_or_pos (L.take k).length with h | h
                · have := hF7.nil (List.eq_nil_of_length_eq_zero h); rw [this] at e1; cases e1
                · exact h
              have hv : 0 < vs.length := by rw [hF7.len]; exact hl
              obtain ⟨f, c, ef⟩ := (hF7.dos 0 hl).func
              have h1 := hr 0 _ (List.getElem?_eq_getElem hv)
              have h2 := hHeld.2.2.1.cell 0 _ rfl
              rw [Nat.zero_add, h2, ef] at h1
              cases h1
          refine hK.out _ _ ⟨hHeld.1.below b8 (by omega), (by obtain ⟨u, hu⟩ := hHeld.2.1; exact ⟨u, hu.below b8 (by omega)⟩), hX8, by omega⟩ (fun hHeld => ?_)
          clear hK K hX8 kg
          try simp only [Act.put, List.setIfInBounds_toArray, List.set_cons_zero, List.set_cons_succ]
          have hQ8 := hQ7.below b8 (by omega)
          obtain ⟨a8, c8, e8, _, _⟩ := F8.form
          rw [show (L.take k ++ [x]).length = k + 1 by rw [List.length_append, htl]; rfl] at e8
          subst e8
          refine takeL 6 (.pointer (some ⟨w.heap.size + 1, 0, none⟩)) rfl (by kernel_rfl) (by kernel_rfl) (by kernel_rfl) (fun _ _ _ h => h) (Or.inl ⟨rfl, fun w9 hSw => by go_simp⟩) hHeld ?_
          try simp only [Act.put, List.setIfInBounds_toArray, List.set_cons_zero, List.set_cons_succ]
          have q8 := hQ8.cell 0 _ rfl
          have f8 := hQ8.frozen 0 (by simp)
          have kz := keptC w8 (w.heap.size + 1) 0 [.slice a8 (k + 1) c8]
          have hQ9 := hQ8.put [.slice a8 (k + 1) c8] rfl
          have hR9 := hHeld.1.other (show w.heap.size ≠ w.heap.size + 1 by omega) 0 [.slice a8 (k + 1) c8]
          have hX9 := hHeld.2.2.1.other (show bx ≠ w.heap.size + 1 by omega) 0 [.slice a8 (k + 1) c8]
          have B9 := below_setCells (w.heap.size + 1) (show w.heap.size ≤ w.heap.size + 1 by omega) [.slice a8 (k + 1) c8] 0 _ hB8
          have s9 : (w8.setCells (w.heap.size + 1) 0 [.slice a8 (k + 1) c8]).heap.size = w8.heap.size := size_setCells _ _ _ _
          have F9 := F8.keptQ kz (by omega) (by omega)
          refine oneL 7 rfl (by kernel_rfl) rfl (fun K hK => ?_)
          go_simp
          refine hK.out _ _ ⟨hR9, ⟨_, hQ9⟩, hX9, by rw [show (w8.setCell ⟨w.heap.size + 1, 0, none⟩ (.slice a8 (k + 1) c8)).heap.size = w8.heap.size from s9]; omega⟩ (fun hHeld => ?_)
          clear hK K
          try simp only [Act.put, List.setIfInBounds_toArray, List.set_cons_zero, List.set_cons_succ]
          refine wpAnyH_done (by kernel_rfl) ?_ _
          refine NoPanic.normal ?_
          have s9' : w.heap.size + 2 ≤ (w8.setCell ⟨w.heap.size + 1, 0, none⟩ (.slice a8 (k + 1) c8)).heap.size := by rw [show (w8.setCell ⟨w.heap.size + 1, 0, none⟩ (.slice a8 (k + 1) c8)).heap.size = w8.heap.size from s9]; omega
          have hR9' : CsAt (w8.setCell ⟨w.heap.size + 1, 0, none⟩ (.slice a8 (k + 1) c8)) w.heap.size [.slice none 0 0] := hR9
          have hQ9' : CsAt (w8.setCell ⟨w.heap.size + 1, 0, none⟩ (.slice a8 (k + 1) c8)) (w.heap.size + 1) [.slice a8 (k + 1) c8] := hQ9
          have B9' : Below w.heap.size w (w8.setCell ⟨w.heap.size + 1, 0, none⟩ (.slice a8 (k + 1) c8)) := B9
          have F9' : Fr (w8.setCell ⟨w.heap.size + 1, 0, none⟩ (.slice a8 (k + 1) c8)) (w.heap.size + 2) (.slice a8 (k + 1) c8) (L.take k ++ [x]) (vs ++ [(Value.func ff #[] fc)]) := F9
          clear hR9 hQ9 hX9 B9 F9 kz q8 f8 hHeld s9 F8 hQ8 hB8
          generalize w8.setCell ⟨w.heap.size + 1, 0, none⟩ (.slice a8 (k + 1) c8) = w9 at *
          clear hQ5 hR5 cX5
          go_wp2
          go_roundw
          case rel => exact ⟨k + 1, _, vs ++ [(Value.func ff #[] fc)], by omega, by first | rfl | go_num, HI2, by rw [unhide HT]; exact F9', hQ9', hR9', s9', B9'⟩
          case measure => simp [intOf]; omega
        · go_simp
          have bA : Below w6.heap.size w6 (w6.alloc (.cells #[(Value.func ff #[] fc)] 90)) := (Below.refl _ _).alloc (Nat.le_refl _) _
          have HA : CsAt (w6.alloc (.cells #[(Value.func ff #[] fc)] 90)) w.heap.size [.slice none 0 0] ∧ (∃ u : Value, CsAt (w6.alloc (.cells #[(Value.func ff #[] fc)] 90)) (w.heap.size + 1) [u]) ∧ CsAt (w6.alloc (.cells #[(Value.func ff #[] fc)] 90)) bx (stC x) ∧ bx + 1 ≤ (w6.alloc (.cells #[(Value.func ff #[] fc)] 90)).heap.size := ⟨hHeld.1.below bA (by have := hHeld.2.2.2; omega), (by obtain ⟨u, hu⟩ := hHeld.2.1; exact ⟨u, hu.below bA (by have := hHeld.2.2.2; omega)⟩), hHeld.2.2.1.below bA (by have := hHeld.2.2.2; omega), Nat.le_trans hHeld.2.2.2 bA.size⟩
          clear hHeld
          refine hK.out _ _ HA (fun hHeld => ?_)
          clear hK K HA
          try simp only [Act.put, List.setIfInBounds_toArray, List.set_cons_zero, List.set_cons_succ]
          have nw := CsAt.new w6 [(Value.func ff #[] fc)] 90
          have q6 := b6.size
          have hF7 := (hFd.below b6).below bA
          have hD7 : DoAt (w6.alloc (.cells #[(Value.func ff #[] fc)] 90)) (w.heap.size + 2) (w6.alloc (.cells #[(Value.func ff #[] fc)] 90)).heap.size x (Value.func ff #[] fc) := (hD6.kept (L := []) (Kept.of bA) (Nat.le_refl _) (fun y hy => by simp at hy)).mono (by omega) (by simp)
          have hQ7 := (hQd.below b6 (by omega)).below bA (by omega)
          have hB7 := (hBd.trans (b6.mono hBd.size)).trans (bA.mono (by omega))
          have hone : ∀ u ∈ [(Value.func ff #[] fc)], u.oneCell' = true := fun u hu => by simp at hu; subst hu; exact hD6.one
          have hs7 : w6.heap.size + 1 ≤ (w6.alloc (.cells #[(Value.func ff #[] fc)] 90)).heap.size := by simp
          generalize w6.alloc (.cells #[(Value.func ff #[] fc)] 90) = w7 at *
          generalize hb7 : w6.heap.size = b7 at *
          refine oneL 1 rfl (by kernel_rfl) rfl (fun K hK => ?_)
          have hq9 := hQ7.cell 0 _ rfl
          go_simp
          clear hq9
          refine hK.out _ _ hHeld (fun _ => ?_)
          clear hK K
          try simp only [Act.put, List.setIfInBounds_toArray, List.set_cons_zero, List.set_cons_succ]
          refine oneL 5 rfl (by kernel_rfl) rfl (fun K hK => ?_)
          refine wp_append_own w7 _ _ 81 rfl (w.heap.size + 2) 90 iD .nilFunc 1 8 Tryz.underlying81 hiD hzD hsD hbD rfl (by omega) (.slice a0 k cap0) (L.take k).length vs rfl hF7.row ⟨b7, 0, none⟩ 1 1 [(Value.func ff #[] fc)] rfl rfl (src_mid nw.cells) hone (by simp [maxLen]; omega) (by omega) (by omega) ?_
          intro v' w8 ho8 hg8 _
          obtain ⟨F8, b8⟩ := hF7.push (by omega) hD7 ho8 hg8
          have hB8 := hB7.trans (b8.mono (by omega))
          have hs8 := b8.size
          have kg : Kept (Value.slice a0 k cap0).ownBlock.toList w7 w8 := (Kept.refl _ w7).grown hg8 (fun k e => .inl (by rw [e]; simp))
          have hX8 : CsAt w8 bx (stC x) := by
            refine cs_kept hHeld.2.2.1 kg (by omega) (fun hm => ?_)
            obtain ⟨a1, c1, e1, _, hf⟩ := hF7.form
            rcases hf with hf | ⟨g, rfl, _, _, hr⟩
            · rw [hF7.nil hf] at hm; simp [Value.ownBlock] at hm
            · rw [e1] at hm
              simp [Value.ownBlock] at hm
              subst hm
              have hl : 0 < (L.take k).length := by
                rcases Nat.eq_zero_or_pos (L.take k).length with h | h
                · have := hF7.nil (List.eq_nil_of_length_eq_zero h); rw [this] at e1; cases e1
                · exact h
              have hv : 0 < vs.length := by rw [hF7.len]; exact hl
              obtain ⟨f, c, ef⟩ := (hF7.dos 0 hl).func
              have h1 := hr 0 _ (List.getElem?_eq_getElem hv)
              have h2 := hHeld.2.2.1.cell 0 _ rfl
              rw [Nat.zero_add, h2, ef] at h1
              cases h1
          refine hK.out _ _ ⟨hHeld.1.below b8 (by omega), (by obtain ⟨u, hu⟩ := hHeld.2.1; exact ⟨u, hu.below b8 (by omega)⟩), hX8, by omega⟩ (fun hHeld => ?_)
          clear hK K hX8 kg
          try simp only [Act.put, List.setIfInBounds_toArray, List.set_cons_zero, List.set_cons_succ]
          have hQ8 := hQ7.below b8 (by omega)
          obtain ⟨a8, c8, e8, _, _⟩ := F8.form
          rw [show (L.take k ++ [x]).length = k + 1 by rw [List.length_append, htl]; rfl] at e8
          subst e8
          refine takeL 6 (.pointer (some ⟨w.heap.size + 1, 0, none⟩)) rfl (by kernel_rfl) (by kernel_rfl) (by kernel_rfl) (fun _ _ _ h => h) (Or.inl ⟨rfl, fun w9 hSw => by go_simp⟩) hHeld ?_
          try simp only [Act.put, List.setIfInBounds_toArray, List.set_cons_zero, List.set_cons_succ]
          have q8 := hQ8.cell 0 _ rfl
          have f8 := hQ8.frozen 0 (by simp)
          have kz := keptC w8 (w.heap.size + 1) 0 [.slice a8 (k + 1) c8]
          have hQ9 := hQ8.put [.slice a8 (k + 1) c8] rfl
          have hR9 := hHeld.1.other (show w.heap.size ≠ w.heap.size + 1 by omega) 0 [.slice a8 (k + 1) c8]
          have hX9 := hHeld.2.2.1.other (show bx ≠ w.heap.size + 1 by omega) 0 [.slice a8 (k + 1) c8]
          have B9 := below_setCells (w.heap.size + 1) (show w.heap.size ≤ w.heap.size + 1 by omega) [.slice a8 (k + 1) c8] 0 _ hB8
          have s9 : (w8.setCells (w.heap.size + 1) 0 [.slice a8 (k + 1) c8]).heap.size = w8.heap.size := size_setCells _ _ _ _
          have F9 := F8.keptQ kz (by omega) (by omega)
          refine oneL 7 rfl (by kernel_rfl) rfl (fun K hK => ?_)
          go_simp
          refine hK.out _ _ ⟨hR9, ⟨_, hQ9⟩, hX9, by rw [show (w8.setCell ⟨w.heap.size + 1, 0, none⟩ (.slice a8 (k + 1) c8)).heap.size = w8.heap.size from s9]; omega⟩ (fun hHeld => ?_)
          clear hK K
          try simp only [Act.put, List.setIfInBounds_toArray, List.set_cons_zero, List.set_cons_succ]
          refine wpAnyH_done (by kernel_rfl) ?_ _
          refine NoPanic.normal ?_
          have s9' : w.heap.size + 2 ≤ (w8.setCell ⟨w.heap.size + 1, 0, none⟩ (.slice a8 (k + 1) c8)).heap.size := by rw [show (w8.setCell ⟨w.heap.size + 1, 0, none⟩ (.slice a8 (k + 1) c8)).heap.size = w8.heap.size from s9]; omega
          have hR9' : CsAt (w8.setCell ⟨w.heap.size + 1, 0, none⟩ (.slice a8 (k + 1) c8)) w.heap.size [.slice none 0 0] := hR9
          have hQ9' : CsAt (w8.setCell ⟨w.heap.size + 1, 0, none⟩ (.slice a8 (k + 1) c8)) (w.heap.size + 1) [.slice a8 (k + 1) c8] := hQ9
          have B9' : Below w.heap.size w (w8.setCell ⟨w.heap.size + 1, 0, none⟩ (.slice a8 (k + 1) c8)) := B9
          have F9' : Fr (w8.setCell ⟨w.heap.size + 1, 0, none⟩ (.slice a8 (k + 1) c8)) (w.heap.size + 2) (.slice a8 (k + 1) c8) (L.take k ++ [x]) (vs ++ [(Value.func ff #[] fc)]) := F9
          clear hR9 hQ9 hX9 B9 F9 kz q8 f8 hHeld s9 F8 hQ8 hB8
          generalize w8.setCell ⟨w.heap.size + 1, 0, none⟩ (.slice a8 (k + 1) c8) = w9 at *
          clear hQ5 hR5 cX5
          go_wp2
          go_roundw
          case rel => exact ⟨k + 1, _, vs ++ [(Value.func ff #[] fc)], by omega, by first | rfl | go_num, HI2, by rw [unhide HT]; exact F9', hQ9', hR9', s9', B9'⟩
          case measure => simp [intOf]; omega
end Go.Proofs.YtbiokmojjneleaaGreat.QuC

/-
  The queue's methods; what a step that is taken does; the store in memory of its own.
-/
namespace Go.Proofs.YtbiokmojjneleaaGreat.QuD
open Go.ChangeShapes Go.WideShapes Go.ChangeAt Go.RowKit Go.Shelf OkA Big Fl ImplB ImplF ImplS _root_.Go.Proofs.YtbiokmojjneleaaGreat.Own ImplT ImplU SpecA SpecB SpecC SpecD SpecW SpecF SpecG SpecH Ok2 Pl FindP SpecX SpecY ImplW ImplX ImplL Kp StA MpA StB StC StD StE StF StG FindL Gd LawU LawS LawV LawI QuA QuB QuC
set_option linter.unusedVariables false
set_option linter.unusedSimpArgs false
attribute [local go_sem ↓] Go.wp_at_zero Go.wp_at_succ

theorem some_any (Q n cap : Nat) (a : Option Addr) (w : World) (hc : w.cell? ⟨Q, 0, none⟩ = some (.slice a n cap)) :
    Calls Tryz.prog 53 #[.pointer (some ⟨Q, 0, none⟩)] w fun e w' => e = .returned (.bool (decide (0 < n))) ∧ w' = w := by
  by_cases h : 0 < n
  · have hi : (0 : Int) < (n : Int) := by omega
    rw [show decide (0 < n) = true by simpa using h]
    go_enter Tryz.func53, Tryz.ntmps53
    go_wp2
    go_ret
    exact ⟨by first | rfl | simp [hi], rfl⟩
  · obtain rfl : n = 0 := by omega
    go_enter Tryz.func53, Tryz.ntmps53
    go_wp2
    go_ret
    exact ⟨rfl, rfl⟩

def TkPost (w : World) (Q g o n cap : Nat) (v : Value) (e : Ending) (w' : World) : Prop := ∃ a', e = .returned v ∧ w' = w.setCell ⟨Q, 0, none⟩ (.slice a' n (cap - 1)) ∧ (0 < n → a' = some ⟨g, o + 1, none⟩)
set_option maxHeartbeats 1000000 in
theorem take_any (Q g o n cap : Nat) (f : Fn) (c : Array Value) (w : World) (hc : w.cell? ⟨Q, 0, none⟩ = some (.slice (some ⟨g, o, none⟩) (n + 1) cap)) (hf : w.frozen? ⟨Q, 0, none⟩ = false) (hcap : n + 1 ≤ cap) (hv : w.cell? ⟨g, o, none⟩ = some (.func f #[] c)) :
    Calls Tryz.prog 54 #[.pointer (some ⟨Q, 0, none⟩)] w fun e w' => TkPost w Q g o n cap (.func f #[] c) e w' := by
  have h1 : (1 : Int) ≤ ((n + 1 : Nat) : Int) := by omega
  have h0 : (0 : Int) < ((n + 1 : Nat) : Int) := by omega
  by_cases hc1 : cap = 1
  · subst hc1
    obtain rfl : n = 0 := by omega
    go_enter Tryz.func54, Tryz.ntmps54
    go_wp2
    go_ret
    exact ⟨_, rfl, rfl, fun h => by omega⟩
  · go_enter Tryz.func54, Tryz.ntmps54
    go_wp2
    go_ret
    exact ⟨_, rfl, rfl, fun _ => rfl⟩

/-! A step that is taken is done, or torn. -/
theorem doF1 {ks : List Bk} {x : Stp} {t : Bool} (h : x.kind = 1) : doF ks x t = ks := by unfold doF; rw [if_neg (by omega), if_neg (by omega)]
theorem doD1 {dk : List Int} {x : Stp} {t : Bool} (h : x.kind = 1) : doD dk x t = if t then dk else dk.set (x.addr - 1).toNat x.val := by unfold doD; rw [if_pos h]
theorem doF2 {ks : List Bk} {x : Stp} {t : Bool} (h : x.kind = 2) : doF ks x t = wiK ks x.blk.toNat t := by unfold doF; rw [if_pos h]; rfl
theorem doF3 {ks : List Bk} {x : Stp} {t : Bool} (h : x.kind = 3) : doF ks x t = wrK ks x.blk.toNat x.r.k x.r.s x.r.a x.r.v t := by unfold doF; rw [if_neg (by omega), if_pos h]; rfl
theorem doD23 {dk : List Int} {x : Stp} {t : Bool} (h : ¬ x.kind = 1) : doD dk x t = dk := by unfold doD; rw [if_neg h]
theorem stk1 {x : Stp} (h : stkB x = true) (hk : x.kind = 1) : 1 ≤ x.addr ∧ x.addr ≤ 6 := by
  unfold stkB at h; rw [if_pos hk] at h; simp only [Bool.and_eq_true] at h
  simpa [inB] using h.1.2
theorem stk2 {x : Stp} (h : stkB x = true) (hk : x.kind = 2 ∨ x.kind = 3) : ∃ k : Nat, k < 4 ∧ x.blk = (k : Int) ∧ x.blk.toNat = k := by
  have hb : inB x.blk 0 3 = true := by
    unfold stkB at h
    rcases hk with hk | hk
    · rw [if_neg (by omega), if_pos hk] at h; simp only [Bool.and_eq_true] at h; exact h.2
    · rw [if_neg (by omega), if_neg (by omega), if_pos hk] at h; simp only [Bool.and_eq_true] at h; exact h.1.2
  have : 0 ≤ x.blk ∧ x.blk ≤ 3 := by simpa [inB] using hb
  exact ⟨x.blk.toNat, by omega, by omega, rfl⟩
theorem ent1 : Enters Tryz.prog 140 := enters_of Tryz.func140 (by kernel_rfl) rfl
theorem ent2 : Enters Tryz.prog 142 := enters_of Tryz.func142 (by kernel_rfl) rfl
theorem ent3 : Enters Tryz.prog 144 := enters_of Tryz.func144 (by kernel_rfl) rfl
theorem wp_do {o : Oper} {a : Act} {w : World} {K : Act → World → Prop} {Q : Exit → Act → World → Prop} (t u : Operand) (tn : Bool) (ts : Array TypeId) (ho : o.op = .call { callee := .value t, args := #[u, .const (.bool tn)], argTypes := ts })
    (lo hi : Nat) (x : Stp) (v : Value) (ks : List Bk) (dk : List Int) (hv : a.eval t = v) (hu : a.eval u = .agg (ssC ks dk).toArray) (hD : DoAt w lo hi x v) (hx : stkB x = true) (hok : okB ks = true) (h6 : dk.length = 6)
    (h : ∀ w', Below w.heap.size w w' → K (a.put o.dst (.agg (ssC (doF ks x tn) (doD dk x tn)).toArray)) w') : o.wp Tryz.prog a w K Q := by
  rcases hD with ⟨hk, p, q, rfl, hp, hq, cp, cq⟩ | ⟨hk, p, rfl, hp, cp⟩ | ⟨hk, p, q, rfl, hp, hq, cp, cq⟩
  · have hrun : (execOp a.eval o).run Tryz.prog w = .ok (.enter 140 #[.agg (ssC ks dk).toArray, .bool tn, .pointer (some ⟨p, 0, none⟩), .pointer (some ⟨q, 0, none⟩)]) w := by
      have he := ent1 #[.agg (ssC ks dk).toArray, .bool tn, .pointer (some ⟨p, 0, none⟩), .pointer (some ⟨q, 0, none⟩)] w
      have hcn : a.eval (.const (.bool tn)) = .bool tn := rfl
      simp [execOp, ho, resolve, hv, hu, hcn, Deferred.ofValue, invoke, he, Result.andThen]
    unfold Oper.wp
    rw [hrun]
    refine (doDisk1_any ks hok dk h6 p q x.addr x.val (stk1 hx hk).1 (stk1 hx hk).2 tn w cp cq).mono ?_
    rintro e w' ⟨rfl, b⟩
    have := h w' b
    rw [doF1 hk, doD1 hk] at this
    exact this
  · obtain ⟨k, hk4, e1, e2⟩ := stk2 hx (.inl hk)
    rw [e1] at cp
    have hrun : (execOp a.eval o).run Tryz.prog w = .ok (.enter 142 #[.agg (ssC ks dk).toArray, .bool tn, .pointer (some ⟨p, 0, none⟩)]) w := by
      have he := ent2 #[.agg (ssC ks dk).toArray, .bool tn, .pointer (some ⟨p, 0, none⟩)] w
      have hcn : a.eval (.const (.bool tn)) = .bool tn := rfl
      simp [execOp, ho, resolve, hv, hu, hcn, Deferred.ofValue, invoke, he, Result.andThen]
    unfold Oper.wp
    rw [hrun]
    refine (doWipe1_any ks hok dk h6 p k hk4 tn w cp).mono ?_
    rintro e w' ⟨rfl, b⟩
    have := h w' b
    rw [doF2 hk, doD23 (by omega), e2] at this
    exact this
  · obtain ⟨k, hk4, e1, e2⟩ := stk2 hx (.inr hk)
    rw [e1] at cp
    have hrun : (execOp a.eval o).run Tryz.prog w = .ok (.enter 144 #[.agg (ssC ks dk).toArray, .bool tn, .pointer (some ⟨p, 0, none⟩), .pointer (some ⟨q, 0, none⟩)]) w := by
      have he := ent3 #[.agg (ssC ks dk).toArray, .bool tn, .pointer (some ⟨p, 0, none⟩), .pointer (some ⟨q, 0, none⟩)] w
      have hcn : a.eval (.const (.bool tn)) = .bool tn := rfl
      simp [execOp, ho, resolve, hv, hu, hcn, Deferred.ofValue, invoke, he, Result.andThen]
    unfold Oper.wp
    rw [hrun]
    refine (doWrite1_any ks hok dk h6 p q k hk4 x.r tn w cp cq).mono ?_
    rintro e w' ⟨rfl, b⟩
    have := h w' b
    rw [doF3 hk, doD23 (by omega), e2] at this
    exact this

/-! The store in memory of its own. -/
def SoPost (w : World) (ks : List Bk) (dk : List Int) (e : Ending) (w' : World) : Prop := ∃ g G d, e = .returned (.agg #[.slice (some ⟨g, 0, none⟩) 4 4, .slice (some ⟨d, 0, none⟩) 6 6]) ∧ OwnS w' w.heap.size g G d ks dk ∧ Below w.heap.size w w'
set_option maxRecDepth 100000 in
set_option maxHeartbeats 2000000 in
theorem store_any (ks : List Bk) (hk4 : ks.length = 4) (hkF : Fours ks) (dk : List Int) (h6 : dk.length = 6) (w : World) :
    Calls Tryz.prog 55 #[.agg (ssC ks dk).toArray] w fun e w' => SoPost w ks dk e w' := by
  have cA := (CsAt.new w (ssC ks dk) 87).alloc (by simp) (.cells #[.slice none 0 0, .slice none 0 0] 26)
  have cR := store_box (w.alloc (.cells (ssC ks dk).toArray 87)) (.slice none 0 0) (.slice none 0 0)
  rw [World.size_alloc] at cR
  have B0 : Below w.heap.size w ((w.alloc (.cells (ssC ks dk).toArray 87)).alloc (.cells #[.slice none 0 0, .slice none 0 0] 26)) := ((Below.refl _ _).alloc (Nat.le_refl _) _).alloc (by simp) _
  have s0 : w.heap.size + 2 ≤ ((w.alloc (.cells (ssC ks dk).toArray 87)).alloc (.cells #[.slice none 0 0, .slice none 0 0] 26)).heap.size := by simp
  have HSF := hide (size_fsl hkF hk4)
  have HSD := hide (size_dk h6)
  have HLI := hide (list_any ks hk4 hkF)
  have HDL := hide (dlist_any dk h6)
  have HSS := hide (show (Tryz.prog.info? 26).map (·.size) = some 2 by kernel_rfl)
  have HB := hide (fun (g d : Nat) => (show Tryz.prog.built 26 [(0, .slice (some ⟨g, 0, none⟩) 4 4), (1, .slice (some ⟨d, 0, none⟩) 6 6)] = some #[.slice (some ⟨g, 0, none⟩) 4 4, .slice (some ⟨d, 0, none⟩) 6 6] by kernel_rfl))
  go_enter Tryz.func55, Tryz.ntmps55
  go_upto_region 1 with (refine wpList_box_big rfl _ _ rfl (ssC ks dk).toArray rfl ?_)
  generalize (w.alloc (.cells (ssC ks dk).toArray 87)).alloc (.cells #[.slice none 0 0, .slice none 0 0] 26) = w1 at *
  refine wp_region_noPanic ?_
  refine wp_region_held_drew (S := fun w' => CsAt w' w.heap.size (ssC ks dk) ∧ w.heap.size + 2 ≤ w'.heap.size) (by kernel_rfl) (⟨⟨fun j v hv => cA.cells j v hv, fun j hj => cA.free j hj⟩, s0⟩) (fun hHeld => ?_)
  refine takeL 0 (.pointer (some ⟨w.heap.size, 0, none⟩)) rfl (by kernel_rfl) (by kernel_rfl) (by kernel_rfl) (fun _ _ _ h => h) (Or.inl ⟨rfl, fun w9 hSw => by go_simp⟩) hHeld ?_
  try simp only [Act.put, List.setIfInBounds_toArray, List.set_cons_zero, List.set_cons_succ]
  refine takeL 1 (_) rfl (by kernel_rfl) (by kernel_rfl) (by kernel_rfl) (fun _ _ _ h => h) (yieldsIf_load_mid rfl 73 _ rfl w.heap.size 0 rfl (fsC ks) _ (fun _ h => ss_flash h.1.cells) Tryz.underlying73 rfl (unhide HSF)) hHeld ?_
  try simp only [Act.put, List.setIfInBounds_toArray, List.set_cons_zero, List.set_cons_succ]
  refine takeL 3 (.pointer (some ⟨w.heap.size, 84, none⟩)) rfl (by kernel_rfl) (by kernel_rfl) (by kernel_rfl) (fun _ _ _ h => h) (Or.inl ⟨rfl, fun w9 hSw => by go_simp⟩) hHeld ?_
  try simp only [Act.put, List.setIfInBounds_toArray, List.set_cons_zero, List.set_cons_succ]
  refine takeL 4 (_) rfl (by kernel_rfl) (by kernel_rfl) (by kernel_rfl) (fun _ _ _ h => h) (yieldsIf_load_mid rfl 76 _ rfl w.heap.size 84 rfl (isC dk) _ (fun _ h => ss_disk hk4 hkF h.1.cells) Tryz.underlying76 rfl (unhide HSD)) hHeld ?_
  try simp only [Act.put, List.setIfInBounds_toArray, List.set_cons_zero, List.set_cons_succ]
  have cRd : CsAt w1.drew (w.heap.size + 1) [.slice none 0 0, .slice none 0 0] := ⟨fun j v hv => cR.cells j v hv, fun j hj => cR.free j hj⟩
  have B1 := B0.drew
  have s1 : w.heap.size + 2 ≤ w1.drew.heap.size := s0
  clear cA cR B0 s0
  generalize w1.drew = w2 at *
  refine oneL 2 rfl (by kernel_rfl) rfl (fun K hK => ?_)
  go_simp
  refine (unhide HLI _).mono ?_
  rintro e w3 ⟨g, G, rfl, o3, b3⟩
  go_wp2_with fail
  have q3 := b3.size
  refine hK.out _ _ ⟨hHeld.1.below b3 (by omega), by omega⟩ (fun hHeld3 => ?_)
  clear hK K hHeld
  try simp only [Act.put, List.setIfInBounds_toArray, List.set_cons_zero, List.set_cons_succ]
  refine oneL 5 rfl (by kernel_rfl) rfl (fun K hK => ?_)
  go_simp
  refine (unhide HDL _).mono ?_
  rintro e w4 ⟨rfl, c4, q4, b4⟩
  go_wp2_with fail
  refine hK.out _ _ ⟨hHeld3.1.below b4 (by omega), by omega⟩ (fun hHeld => ?_)
  clear hK K hHeld3
  try simp only [Act.put, List.setIfInBounds_toArray, List.set_cons_zero, List.set_cons_succ]
  have S4 : OwnS w4 w.heap.size g G (w3.heap.size + 1) ks dk := ⟨by rw [hk4]; exact (o3.below b4 (Nat.le_refl _)).mono (by omega), c4, by omega, q4, fun hm => by have := o3.hi _ hm; omega⟩
  have C4 := (cRd.below b3 (by omega)).below b4 (by omega)
  have B4 := (B1.trans (b3.mono B1.size)).trans (b4.mono (by omega))
  have hl4 : ∀ x ∈ (w3.heap.size + 1) :: g :: G, w.heap.size + 2 ≤ x := fun x hx => by rcases List.mem_cons.1 hx with rfl | hx; omega; have := o3.lo x hx; omega
  clear cRd B1 s1 o3 b3 b4 c4
  refine oneL 6 rfl (by kernel_rfl) rfl (fun K hK => ?_)
  refine wp_build_two 26 _ _ rfl (.slice (some ⟨g, 0, none⟩) 4 4) (.slice (some ⟨w3.heap.size + 1, 0, none⟩) 6 6) rfl rfl [.slice (some ⟨g, 0, none⟩) 4 4, .slice (some ⟨w3.heap.size + 1, 0, none⟩) 6 6].toArray (unhide HB g (w3.heap.size + 1)) ?_
  refine hK.out _ _ hHeld (fun _ => ?_)
  clear hK K
  try simp only [Act.put, List.setIfInBounds_toArray, List.set_cons_zero, List.set_cons_succ]
  have p1 := C4.put [.slice (some ⟨g, 0, none⟩) 4 4, .slice (some ⟨w3.heap.size + 1, 0, none⟩) 6 6] rfl
  have oz : Only [w.heap.size + 1] w4 (w4.setCells (w.heap.size + 1) 0 [.slice (some ⟨g, 0, none⟩) 4 4, .slice (some ⟨w3.heap.size + 1, 0, none⟩) 6 6]) := (Only.refl _ _).setCells (by simp) 0 _
  have SZ := keptS S4 oz (by rw [size_setCells]; exact Nat.le_refl _) (fun x hx => by have := hl4 x hx; simp; omega)
  have BZ := below_setCells (w.heap.size + 1) (show w.heap.size ≤ w.heap.size + 1 by omega) [.slice (some ⟨g, 0, none⟩) 4 4, .slice (some ⟨w3.heap.size + 1, 0, none⟩) 6 6] 0 _ B4
  have cZ := hHeld.1.other (show w.heap.size ≠ w.heap.size + 1 by omega) 0 [.slice (some ⟨g, 0, none⟩) 4 4, .slice (some ⟨w3.heap.size + 1, 0, none⟩) 6 6]
  refine oneL 7 rfl (by kernel_rfl) rfl (fun K hK => ?_)
  refine wp_store_mid 26 _ _ rfl (w.heap.size + 1) 0 [.slice (some ⟨g, 0, none⟩) 4 4, .slice (some ⟨w3.heap.size + 1, 0, none⟩) 6 6].toArray rfl rfl C4.free (unhide HSS) (by kernel_rfl) ?_
  refine hK.out _ _ ⟨cZ, by rw [size_setCells]; exact hHeld.2⟩ (fun _ => ?_)
  clear hK K
  try simp only [Act.put, List.setIfInBounds_toArray, List.set_cons_zero, List.set_cons_succ]
  refine wpAnyH_done (by kernel_rfl) ?_ _
  refine NoPanic.normal ?_
  go_wp2_with fail
  refine bodyPost_ret (res_cell_mid Tryz.results55 _ _ (w.heap.size + 1) [.slice (some ⟨g, 0, none⟩) 4 4, .slice (some ⟨w3.heap.size + 1, 0, none⟩) 6 6] _ rfl p1.cells Tryz.underlying26 rfl (by kernel_rfl)) rfl ?_
  exact ⟨g, G, w3.heap.size + 1, rfl, SZ, BZ⟩
end Go.Proofs.YtbiokmojjneleaaGreat.QuD
