/-
  The program's stores: what the slow disk has, as it is kept; the last record of each address in a map.
-/
import Derived.Test.YtahloklmogkaeaaStA
import Derived.Test.YtahloklmogkaeaaFindQ
import Derived.Test.YtahloklmogkaeaaMpA
namespace Go.Proofs.Ytahloklmogkaeaa.StB
open Go.ChangeShapes Go.WideShapes Go.ChangeAt Go.RowKit Go.Shelf OkA Big Fl ImplB ImplF ImplS _root_.Go.Proofs.Ytahloklmogkaeaa.Own ImplT ImplU SpecA SpecB SpecC SpecD SpecW SpecF SpecG SpecH Ok2 Pl FindP SpecX ImplL FindN FindL FindV FindQ Kp StA MpA
set_option linter.unusedVariables false
set_option linter.unusedSimpArgs false
attribute [local go_sem ↓] Go.wp_at_zero Go.wp_at_succ

theorem run_index_int {P : Program} (w : World) (T e : TypeId) (n : Nat) (cs : Array Value) (i : Int) (v : Value) (hu : P.underlying T = some (.array n e)) (hd : P.underlying e = some (.int .i64))
    (hs : (P.info? e).map (·.size) = some 1) (h0 : 0 ≤ i) (h1 : i < n) (hc : cs[i.toNat]? = some v) : (Instr.index T (.agg cs) (.int .i64 i)).run P w = .ok v w := by
  cases hq : P.info? e with
  | none => simp [hq] at hs
  | some j =>
    have hj : j.size = 1 := by simpa [hq] using hs
    have hagg : (isAgg e).run P w = .ok false w := by
      unfold isAgg
      rw [Sem.run_bind, run_underlying hd w]
      rfl
    simp [Instr.index, asIntOf, run_underlying hu, h0, h1, sizeOf, typeInfo, hq, hj, part, hagg, hc]

theorem rdirty_any (r : Rc) (w : World) :
    Calls Try.prog 76 #[.agg (rcC r).toArray] w fun e w' => e = .returned (.bool (r.k == 1)) ∧ Below w.heap.size w w' := by
  rw [show (rcC r).toArray = #[.int .i64 r.k, .int .i64 r.s, .int .i64 r.a, .int .i64 r.v] from rfl]
  go_enter Try.func76, Try.ntmps76
  go_wp2
  go_ret
  exact ⟨rfl, (Below.refl _ _).alloc (Nat.le_refl _) _⟩
theorem rclean_any (r : Rc) (w : World) :
    Calls Try.prog 124 #[.agg (rcC r).toArray] w fun e w' => e = .returned (.bool (r.k == 2)) ∧ Below w.heap.size w w' := by
  rw [show (rcC r).toArray = #[.int .i64 r.k, .int .i64 r.s, .int .i64 r.a, .int .i64 r.v] from rfl]
  go_enter Try.func124, Try.ntmps124
  go_wp2
  go_ret
  exact ⟨rfl, (Below.refl _ _).alloc (Nat.le_refl _) _⟩

/-- What the slow disk has of an address. -/
def dkV (dk : List Int) (addr : Int) : Int := dk.getD (addr - 1).toNat 0
theorem dof_any (dk : List Int) (h6 : dk.length = 6) (addr : Int) (ha0 : 1 ≤ addr) (ha6 : addr ≤ 6) (w : World) :
    Calls Try.prog 109 #[.agg (isC dk).toArray, .int .i64 addr] w fun e w' => e = .returned (.int .i64 (dkV dk addr)) ∧ Below w.heap.size w w' := by
  obtain ⟨n, rfl⟩ : ∃ n : Nat, addr = (n : Int) + 1 := ⟨(addr - 1).toNat, by omega⟩
  have hn6 : n < 6 := by omega
  have e1 : ((n : Int) + 1 - 1).toNat = n := by omega
  have HV : Hid (dkV dk ((n : Int) + 1) = dk.getD n 0) := by show _ = _; unfold dkV; rw [e1]
  have dn := isC_at (rangeAt_new w (isC dk) 70) n (by omega)
  rw [Nat.zero_add] at dn
  have B0 : Below w.heap.size w (w.alloc (.cells (isC dk).toArray 70)) := (Below.refl _ _).alloc (Nat.le_refl _) _
  generalize dkV dk ((n : Int) + 1) = R at *
  generalize dk.getD n 0 = v at *
  have hn0 : (0 : Int) ≤ (n : Int) := by omega
  have hnl : (n : Int) < 6 := by omega
  have e2 : ((n : Int) + 1 - 1) = (n : Int) := by omega
  go_enter Try.func109, Try.ntmps109
  go_wp2_with (refine wpList_box_big rfl _ _ rfl (isC dk).toArray rfl ?_)
  go_ret
  exact ⟨by rw [unhide HV]; rfl, B0⟩

/-- The slow disk's numbers lie there. -/
def DkAt (w : World) (a : Option Addr) (dk : List Int) : Prop := dk = [] ∨ ∃ b o, a = some ⟨b, o, none⟩ ∧ w.rangeAt b o (isC dk)
theorem DkAt.below {w w' : World} {a : Option Addr} {dk : List Int} (h : DkAt w a dk) (hb : Below w.heap.size w w') : DkAt w' a dk := by
  rcases h with h | ⟨b, o, rfl, h⟩
  · exact .inl h
  · cases dk with
    | nil => exact .inl rfl
    | cons x r => exact .inr ⟨b, o, rfl, rangeAt_below h hb (cell_lt (h 0 _ rfl))⟩
def dkB (dk : List Int) : Bool := dk.length == 6 && dk.all fun v => inB v 0 9
def zDk6 : List Int := [0, 0, 0, 0, 0, 0]
theorem one_isC (l : List Int) : ∀ v ∈ isC l, v.oneCell' = true := by intro v hv; simp [isC] at hv; obtain ⟨x, _, rfl⟩ := hv; rfl
theorem size_dk {dk : List Int} (h : dk.length = 6) : (Try.prog.info? 70).map (·.size) = some (isC dk).length := by rw [len_isC, h]; kernel_rfl
theorem size_dka {dk : List Int} (h : dk.length = 6) : (Try.prog.info? 70).map (·.size) = some (isC dk).toArray.size := by rw [List.size_toArray]; exact size_dk h
theorem zero_dk : (Try.prog.info? 70).bind (·.zero) = some (.agg (isC zDk6).toArray) := by kernel_rfl
def DkPost (w : World) (dk : List Int) (e : Ending) (w' : World) : Prop := ∃ ks : List Int, e = .returned (.tuple #[.agg (isC ks).toArray, .bool (dkB dk)]) ∧ ks.length = 6 ∧ (dkB dk = true → ks = dk) ∧ Below w.heap.size w w'

set_option maxRecDepth 100000 in
set_option maxHeartbeats 1000000 in
theorem diskOf_any (a : Option Addr) (cap : Nat) (dk : List Int) (w : World) (hd : DkAt w a dk) (hm : dk.length ≤ 9223372036854775807) :
    Calls Try.prog 106 #[.slice a dk.length cap] w fun e w' => DkPost w dk e w' := by
  have cR := (CsAt.new w (isC zDk6) 70).alloc (by simp) (.cells (isC zDk6).toArray 70)
  have cK := CsAt.new (w.alloc (.cells (isC zDk6).toArray 70)) (isC zDk6) 70
  rw [World.size_alloc] at cK
  have B0 : Below w.heap.size w ((w.alloc (.cells (isC zDk6).toArray 70)).alloc (.cells (isC zDk6).toArray 70)) := ((Below.refl _ _).alloc (Nat.le_refl _) _).alloc (by simp) _
  have hd2 := hd.below B0
  have s0 : ((w.alloc (.cells (isC zDk6).toArray 70)).alloc (.cells (isC zDk6).toArray 70)).heap.size = w.heap.size + 2 := by simp
  have hmi : (dk.length : Int) ≤ 9223372036854775807 := by omega
  clear hd
  by_cases h6 : dk.length = 6
  rotate_left
  · have HB : Hid (dkB dk = false) := by show _ = _; simp [dkB, h6]
    have g6 : ((dk.length : Int) != 6) = true := by simp; omega
    have rk := cK.cells
    have tr := cR.free
    have p1 := cR.put (isC zDk6) rfl
    have pB := below_setCells w.heap.size (Nat.le_refl _) (isC zDk6) 0 _ B0
    go_enter Try.func106, Try.ntmps106
    go_wp2_with (first | (refine wpList_alloc_big rfl 70 rfl (isC zDk6).toArray zero_dk ?_) | (refine wpList_load_mid rfl 70 _ rfl (w.heap.size + 1) 0 rfl (isC zDk6) _ rk Try.underlying70 rfl (size_dk rfl) ?_) | (refine wpList_store_mid rfl 70 _ _ rfl w.heap.size 0 (isC zDk6).toArray rfl rfl tr (size_dka rfl) (all_oneCell_toArray (one_isC _)) ?_) | (refine bodyPost_ret (res_cell_tmp Try.results106 _ _ w.heap.size (isC zDk6) _ rfl p1.cells Try.underlying70 rfl (size_dk rfl)) rfl (unhide ?_)))
    exact hide ⟨zDk6, by rw [unhide HB], rfl, (fun h => by rw [unhide HB] at h; cases h), pB⟩
  · obtain ⟨db, dof, rfl, hr⟩ : ∃ b o, a = some ⟨b, o, none⟩ ∧ ((w.alloc (.cells (isC zDk6).toArray 70)).alloc (.cells (isC zDk6).toArray 70)).rangeAt b o (isC dk) := by
      rcases hd2 with rfl | h
      · simp at h6
      · exact h
    have HB : Hid (dkB dk = dk.all fun v => inB v 0 9) := by show _ = _; simp [dkB, h6]
    have hl6 : (isC dk).length = 6 * 1 := by rw [len_isC, h6]
    have tK : ((w.alloc (.cells (isC zDk6).toArray 70)).alloc (.cells (isC zDk6).toArray 70)).there (w.heap.size + 1) 0 (6 * 1) := cK.free
    have cK2 := cK.put (isC dk) (by rw [len_isC, h6]; rfl)
    have cR2 := cR.other (show w.heap.size ≠ w.heap.size + 1 by omega) 0 (isC dk)
    have B2 := below_setCells (w.heap.size + 1) (show w.heap.size ≤ w.heap.size + 1 by omega) (isC dk) 0 _ B0
    have s2 : (((w.alloc (.cells (isC zDk6).toArray 70)).alloc (.cells (isC zDk6).toArray 70)).setCells (w.heap.size + 1) 0 (isC dk)).heap.size = w.heap.size + 2 := by rw [size_setCells]; exact s0
    have rk := cK2.cells
    have g6 : ((dk.length : Int) != 6) = false := by simp; omega
    have HSZ := hide (size_dk h6)
    have HSZA := hide (size_dka h6)
    have HIX := hide (fun (k : Nat) (hk : k < 6) (w' : World) => run_index_int (P := Try.prog) w' 70 3 6 (isC dk).toArray (k : Int) (.int .i64 (dk.getD k 0)) Try.underlying70 Try.underlying3 (by kernel_rfl) (by omega) (by omega) (by simp [isC, h6, hk]))
    rw [h6]
    go_enter Try.func106, Try.ntmps106
    go_wp2_with (first | (refine wpList_alloc_big rfl 70 rfl (isC zDk6).toArray zero_dk ?_) | (refine wpList_copy_big rfl _ _ 23 23 rfl 3 (w.heap.size + 1) 0 6 6 ⟨db, dof, none⟩ cap 1 (isC dk) Try.underlying23 (by kernel_rfl) rfl rfl hl6 (src_mid hr) tK (one_isC dk) ?_) | (refine wpList_load_mid rfl 70 _ rfl (w.heap.size + 1) 0 rfl (isC dk) _ rk Try.underlying70 rfl (unhide HSZ) ?_))
    generalize ((w.alloc (.cells (isC zDk6).toArray 70)).alloc (.cells (isC zDk6).toArray 70)).setCells (w.heap.size + 1) 0 (isC dk) = w2 at *
    clear tK hr hd2 cK cR B0 s0 rk
    go_loopw [15] (fun i w' => ∃ n : Nat, n ≤ 6 ∧ i = .int .i64 n ∧ w' = w2 ∧ Hid (∀ j, j < n → inB (dk.getD j 0) 0 9 = true)) (fun i _ => 6 - (intOf i).toNat)
    case atStart => exact ⟨0, by omega, rfl, rfl, fun j hj => by omega⟩
    case round =>
      obtain ⟨n, hn, rfl, rfl, HI⟩ := hrel
      have rk := cK2.cells
      have tr := cR2.free
      have p1 := cR2.put (isC dk) (by rw [len_isC, h6]; rfl)
      have pB := below_setCells w.heap.size (Nat.le_refl _) (isC dk) 0 _ B2
      have trz : wr.there w.heap.size 0 (isC dk).toArray.size := by rw [show (isC dk).toArray.size = 6 by rw [List.size_toArray, len_isC, h6]]; exact tr
      by_cases h0 : n = 6
      · subst h0
        have HT : Hid (dkB dk = true) := by
          show _ = _
          rw [unhide HB, List.all_eq_true]
          intro v hv
          obtain ⟨j, hj, rfl⟩ := List.getElem_of_mem hv
          have := unhide HI j (by omega)
          rwa [List.getD_eq_getElem?_getD, List.getElem?_eq_getElem hj] at this
        go_wp2_with (first | (refine wpList_load_mid rfl 70 _ rfl (w.heap.size + 1) 0 rfl (isC dk) _ rk Try.underlying70 rfl (unhide HSZ) ?_) | (refine wpList_store_mid rfl 70 _ _ rfl w.heap.size 0 (isC dk).toArray rfl rfl trz (unhide HSZA) (all_oneCell_toArray (one_isC _)) ?_) | (refine bodyPost_ret (res_cell_tmp Try.results106 _ _ w.heap.size (isC dk) _ rfl p1.cells Try.underlying70 rfl (unhide HSZ)) rfl (unhide ?_)))
        exact hide ⟨dk, by rw [unhide HT], h6, fun _ => rfl, pB⟩
      · have hn6 : n < 6 := by omega
        have hlt : (n : Int) < 6 := by omega
        have hlo : (0 : Int) ≤ (n : Int) := by omega
        have hix := unhide HIX n hn6
        have HW := hide (fun (w' : World) => within_any (dk.getD n 0) 0 9 w')
        cases hv : inB (dk.getD n 0) 0 9
        · have HT : Hid (dkB dk = false) := by
            show _ = _
            rw [unhide HB]
            cases e : dk.all fun v => inB v 0 9
            · rfl
            · rw [List.all_eq_true] at e
              have := e dk[n] (List.getElem_mem (by omega))
              rw [List.getD_eq_getElem?_getD, List.getElem?_eq_getElem (by omega)] at hv
              simp at hv
              rw [hv] at this; cases this
          rw [hv] at HW
          clear hv
          generalize dk.getD n 0 = v at *
          go_wp2_with (first | (go_at_call 72; refine (unhide HW _).mono ?_; rintro e w' ⟨rfl, hw'⟩; obtain rfl := hw'.symm) | (refine wpList_load_mid rfl 70 _ rfl (w.heap.size + 1) 0 rfl (isC dk) _ rk Try.underlying70 rfl (unhide HSZ) ?_) | (refine wpList_store_mid rfl 70 _ _ rfl w.heap.size 0 (isC dk).toArray rfl rfl trz (unhide HSZA) (all_oneCell_toArray (one_isC _)) ?_) | (refine bodyPost_ret (res_cell_tmp Try.results106 _ _ w.heap.size (isC dk) _ rfl p1.cells Try.underlying70 rfl (unhide HSZ)) rfl (unhide ?_)))
          exact hide ⟨dk, by rw [unhide HT], h6, fun h => rfl, pB⟩
        · have HI2 : Hid (∀ j, j < n + 1 → inB (dk.getD j 0) 0 9 = true) := fun j hj => by
            by_cases e : j = n
            · subst e; exact hv
            · exact unhide HI j (by omega)
          rw [hv] at HW
          clear hv
          generalize dk.getD n 0 = v at *
          go_wp2_with (go_at_call 72; refine (unhide HW _).mono ?_; rintro e w' ⟨rfl, hw'⟩; obtain rfl := hw'.symm)
          go_roundw
          case rel => exact ⟨n + 1, by omega, by first | rfl | go_num, by first | exact rfl | exact trivial, HI2⟩
          case measure => simp [intOf]; omega
end Go.Proofs.Ytahloklmogkaeaa.StB
