/-
  Texts that belong together, one behind the other: StB, StC.
-/
import Derived.Test.YtbiokmojjneleaaGreatHaT
import Derived.Test.YtbiokmojjneleaaGreatHaS
import Derived.Deep.Cut

/-
  The program's stores: what the slow disk has, as it is kept; the last record of each address in a map.
-/
namespace Go.Proofs.YtbiokmojjneleaaGreat.StB
open Go.ChangeShapes Go.WideShapes Go.ChangeAt Go.RowKit Go.Shelf OkA Big Fl ImplB ImplF ImplS _root_.Go.Proofs.YtbiokmojjneleaaGreat.Own ImplT ImplU SpecA SpecB SpecC SpecD SpecW SpecF SpecG SpecH Ok2 Pl FindP SpecX ImplL FindN FindL FindV FindQ Kp StA MpA
set_option linter.unusedVariables false
set_option linter.unusedSimpArgs false
attribute [local go_sem ↓] Go.wp_at_zero Go.wp_at_succ

theorem run_index_int {P : Program} (w : World) (T e : TypeId) (n : Nat) (cs : Array Value) (i : Int) (v : Value) (hu : P.underlying T = some (.array n e)) (hd : P.underlying e = some (.int .i64))
    (hs : (P.info? e).map (·.size) = some 1) (h0 : 0 ≤ i) (h1 : i < n) (hc : cs[i.toNat]? = some v) : (Instr.index T (.agg cs) (.int .i64 i)).run P w = .ok v w := by
  cases hq : P.info? e with
  | none => simp [hq] at hs
  | some j =>
    have hj : j.size = 1 := by simpa [hq] using hs
    have hagg : (isAgg e).run P w = .ok false w := by
      unfold isAgg
      rw [Sem.run_bind, run_underlying hd w]
      rfl
    simp [Instr.index, asIntOf, run_underlying hu, h0, h1, sizeOf, typeInfo, hq, hj, part, hagg, hc]

theorem rdirty_any (r : Rc) (w : World) :
    Calls Tryz.prog 69 #[.agg (rcC r).toArray] w fun e w' => e = .returned (.bool (r.k == 1)) ∧ Below w.heap.size w w' := by
  rw [show (rcC r).toArray = #[.int .i64 r.k, .int .i64 r.s, .int .i64 r.a, .int .i64 r.v] from rfl]
  go_enter Tryz.func69, Tryz.ntmps69
  go_wp2
  go_ret
  exact ⟨rfl, (Below.refl _ _).alloc (Nat.le_refl _) _⟩
theorem rclean_any (r : Rc) (w : World) :
    Calls Tryz.prog 112 #[.agg (rcC r).toArray] w fun e w' => e = .returned (.bool (r.k == 2)) ∧ Below w.heap.size w w' := by
  rw [show (rcC r).toArray = #[.int .i64 r.k, .int .i64 r.s, .int .i64 r.a, .int .i64 r.v] from rfl]
  go_enter Tryz.func112, Tryz.ntmps112
  go_wp2
  go_ret
  exact ⟨rfl, (Below.refl _ _).alloc (Nat.le_refl _) _⟩

/-- What the slow disk has of an address. -/
def dkV (dk : List Int) (addr : Int) : Int := dk.getD (addr - 1).toNat 0
theorem dof_any (dk : List Int) (h6 : dk.length = 6) (addr : Int) (ha0 : 1 ≤ addr) (ha6 : addr ≤ 6) (w : World) :
    Calls Tryz.prog 94 #[.agg (isC dk).toArray, .int .i64 addr] w fun e w' => e = .returned (.int .i64 (dkV dk addr)) ∧ Below w.heap.size w w' := by
  obtain ⟨n, rfl⟩ : ∃ n : Nat, addr = (n : Int) + 1 := ⟨(addr - 1).toNat, by omega⟩
  have hn6 : n < 6 := by omega
  have e1 : ((n : Int) + 1 - 1).toNat = n := by omega
  have HV : Hid (dkV dk ((n : Int) + 1) = dk.getD n 0) := by show _ = _; unfold dkV; rw [e1]
  have dn := isC_at (rangeAt_new w (isC dk) 76) n (by omega)
  rw [Nat.zero_add] at dn
  have B0 : Below w.heap.size w (w.alloc (.cells (isC dk).toArray 76)) := (Below.refl _ _).alloc (Nat.le_refl _) _
  generalize dkV dk ((n : Int) + 1) = R at *
  generalize dk.getD n 0 = v at *
  have hn0 : (0 : Int) ≤ (n : Int) := by omega
  have hnl : (n : Int) < 6 := by omega
  have e2 : ((n : Int) + 1 - 1) = (n : Int) := by omega
  go_enter Tryz.func94, Tryz.ntmps94
  go_wp2_with (refine wpList_box_big rfl _ _ rfl (isC dk).toArray rfl ?_)
  go_ret
  exact ⟨by rw [unhide HV]; rfl, B0⟩

/-- The slow disk's numbers lie there. -/
def DkAt (w : World) (a : Option Addr) (dk : List Int) : Prop := dk = [] ∨ ∃ b o, a = some ⟨b, o, none⟩ ∧ w.rangeAt b o (isC dk)
theorem DkAt.below {w w' : World} {a : Option Addr} {dk : List Int} (h : DkAt w a dk) (hb : Below w.heap.size w w') : DkAt w' a dk := by
  rcases h with h | ⟨b, o, rfl, h⟩
  · exact .inl h
  · cases dk with
    | nil => exact .inl rfl
    | cons x r => exact .inr ⟨b, o, rfl, rangeAt_below h hb (cell_lt (h 0 _ rfl))⟩
def dkB (dk : List Int) : Bool := dk.length == 6 && dk.all fun v => inB v 0 9
def zDk6 : List Int := [0, 0, 0, 0, 0, 0]
theorem one_isC (l : List Int) : ∀ v ∈ isC l, v.oneCell' = true := by intro v hv; simp [isC] at hv; obtain ⟨x, _, rfl⟩ := hv; rfl
theorem size_dk {dk : List Int} (h : dk.length = 6) : (Tryz.prog.info? 76).map (·.size) = some (isC dk).length := by rw [len_isC, h]; kernel_rfl
theorem size_dka {dk : List Int} (h : dk.length = 6) : (Tryz.prog.info? 76).map (·.size) = some (isC dk).toArray.size := by rw [List.size_toArray]; exact size_dk h
theorem zero_dk : (Tryz.prog.info? 76).bind (·.zero) = some (.agg (isC zDk6).toArray) := by kernel_rfl
def DkPost (w : World) (dk : List Int) (e : Ending) (w' : World) : Prop := ∃ ks : List Int, e = .returned (.tuple #[.agg (isC ks).toArray, .bool (dkB dk)]) ∧ ks.length = 6 ∧ (dkB dk = true → ks = dk) ∧ Below w.heap.size w w'

set_option maxRecDepth 100000 in
set_option maxHeartbeats 1000000 in
theorem diskOf_any (a : Option Addr) (cap : Nat) (dk : List Int) (w : World) (hd : DkAt w a dk) (hm : dk.length ≤ 9223372036854775807) :
    Calls Tryz.prog 79 #[.slice a dk.length cap] w fun e w' => DkPost w dk e w' := by
  have cR := (CsAt.new w (isC zDk6) 76).alloc (by simp) (.cells (isC zDk6).toArray 76)
  have cK := CsAt.new (w.alloc (.cells (isC zDk6).toArray 76)) (isC zDk6) 76
  rw [World.size_alloc] at cK
  have B0 : Below w.heap.size w ((w.alloc (.cells (isC zDk6).toArray 76)).alloc (.cells (isC zDk6).toArray 76)) := ((Below.refl _ _).alloc (Nat.le_refl _) _).alloc (by simp) _
  have hd2 := hd.below B0
  have s0 : ((w.alloc (.cells (isC zDk6).toArray 76)).alloc (.cells (isC zDk6).toArray 76)).heap.size = w.heap.size + 2 := by simp
  have hmi : (dk.length : Int) ≤ 9223372036854775807 := by omega
  clear hd
  by_cases h6 : dk.length = 6
  rotate_left
  · have HB : Hid (dkB dk = false) := by show _ = _; simp [dkB, h6]
    have g6 : ((dk.length : Int) != 6) = true := by simp; omega
    have rk := cK.cells
    have tr := cR.free
    have p1 := cR.put (isC zDk6) rfl
    have pB := below_setCells w.heap.size (Nat.le_refl _) (isC zDk6) 0 _ B0
    go_enter Tryz.func79, Tryz.ntmps79
    go_wp2_with (first | (refine wpList_alloc_big rfl 76 rfl (isC zDk6).toArray zero_dk ?_) | (refine wpList_load_mid rfl 76 _ rfl (w.heap.size + 1) 0 rfl (isC zDk6) _ rk Tryz.underlying76 rfl (size_dk rfl) ?_) | (refine wpList_store_mid rfl 76 _ _ rfl w.heap.size 0 (isC zDk6).toArray rfl rfl tr (size_dka rfl) (all_oneCell_toArray (one_isC _)) ?_) | (refine bodyPost_ret (res_cell_tmp Tryz.results79 _ _ w.heap.size (isC zDk6) _ rfl p1.cells Tryz.underlying76 rfl (size_dk rfl)) rfl (unhide ?_)))
    exact hide ⟨zDk6, by rw [unhide HB], rfl, (fun h => by rw [unhide HB] at h; cases h), pB⟩
  · obtain ⟨db, dof, rfl, hr⟩ : ∃ b o, a = some ⟨b, o, none⟩ ∧ ((w.alloc (.cells (isC zDk6).toArray 76)).alloc (.cells (isC zDk6).toArray 76)).rangeAt b o (isC dk) := by
      rcases hd2 with rfl | h
      · simp at h6
      · exact h
    have HB : Hid (dkB dk = dk.all fun v => inB v 0 9) := by show _ = _; simp [dkB, h6]
    have hl6 : (isC dk).length = 6 * 1 := by rw [len_isC, h6]
    have tK : ((w.alloc (.cells (isC zDk6).toArray 76)).alloc (.cells (isC zDk6).toArray 76)).there (w.heap.size + 1) 0 (6 * 1) := cK.free
    have cK2 := cK.put (isC dk) (by rw [len_isC, h6]; rfl)
    have cR2 := cR.other (show w.heap.size ≠ w.heap.size + 1 by omega) 0 (isC dk)
    have B2 := below_setCells (w.heap.size + 1) (show w.heap.size ≤ w.heap.size + 1 by omega) (isC dk) 0 _ B0
    have s2 : (((w.alloc (.cells (isC zDk6).toArray 76)).alloc (.cells (isC zDk6).toArray 76)).setCells (w.heap.size + 1) 0 (isC dk)).heap.size = w.heap.size + 2 := by rw [size_setCells]; exact s0
    have rk := cK2.cells
    have g6 : ((dk.length : Int) != 6) = false := by simp; omega
    have HSZ := hide (size_dk h6)
    have HSZA := hide (size_dka h6)
    have HIX := hide (fun (k : Nat) (hk : k < 6) (w' : World) => run_index_int (P := Tryz.prog) w' 76 3 6 (isC dk).toArray (k : Int) (.int .i64 (dk.getD k 0)) Tryz.underlying76 Tryz.underlying3 (by kernel_rfl) (by omega) (by omega) (by simp [isC, h6, hk]))
    rw [h6]
    go_enter Tryz.func79, Tryz.ntmps79
    go_wp2_with (first | (refine wpList_alloc_big rfl 76 rfl (isC zDk6).toArray zero_dk ?_) | (refine wpList_copy_big rfl _ _ 24 24 rfl 3 (w.heap.size + 1) 0 6 6 ⟨db, dof, none⟩ cap 1 (isC dk) Tryz.underlying24 (by kernel_rfl) rfl rfl hl6 (src_mid hr) tK (one_isC dk) ?_) | (refine wpList_load_mid rfl 76 _ rfl (w.heap.size + 1) 0 rfl (isC dk) _ rk Tryz.underlying76 rfl (unhide HSZ) ?_))
    generalize ((w.alloc (.cells (isC zDk6).toArray 76)).alloc (.cells (isC zDk6).toArray 76)).setCells (w.heap.size + 1) 0 (isC dk) = w2 at *
    clear tK hr hd2 cK cR B0 s0 rk
    go_loopw [15] (fun i w' => ∃ n : Nat, n ≤ 6 ∧ i = .int .i64 n ∧ w' = w2 ∧ Hid (∀ j, j < n → inB (dk.getD j 0) 0 9 = true)) (fun i _ => 6 - (intOf i).toNat)
    case atStart => exact ⟨0, by omega, rfl, rfl, fun j hj => by omega⟩
    case round =>
      obtain ⟨n, hn, rfl, rfl, HI⟩ := hrel
      have rk := cK2.cells
      have tr := cR2.free
      have p1 := cR2.put (isC dk) (by rw [len_isC, h6]; rfl)
      have pB := below_setCells w.heap.size (Nat.le_refl _) (isC dk) 0 _ B2
      have trz : wr.there w.heap.size 0 (isC dk).toArray.size := by rw [show (isC dk).toArray.size = 6 by rw [List.size_toArray, len_isC, h6]]; exact tr
      by_cases h0 : n = 6
      · subst h0
        have HT : Hid (dkB dk = true) := by
          show _ = _
          rw [unhide HB, List.all_eq_true]
          intro v hv
          obtain ⟨j, hj, rfl⟩ := List.getElem_of_mem hv
          have := unhide HI j (by omega)
          rwa [List.getD_eq_getElem?_getD, List.getElem?_eq_getElem hj] at this
        go_wp2_with (first | (refine wpList_load_mid rfl 76 _ rfl (w.heap.size + 1) 0 rfl (isC dk) _ rk Tryz.underlying76 rfl (unhide HSZ) ?_) | (refine wpList_store_mid rfl 76 _ _ rfl w.heap.size 0 (isC dk).toArray rfl rfl trz (unhide HSZA) (all_oneCell_toArray (one_isC _)) ?_) | (refine bodyPost_ret (res_cell_tmp Tryz.results79 _ _ w.heap.size (isC dk) _ rfl p1.cells Tryz.underlying76 rfl (unhide HSZ)) rfl (unhide ?_)))
        exact hide ⟨dk, by rw [unhide HT], h6, fun _ => rfl, pB⟩
      · have hn6 : n < 6 := by omega
        have hlt : (n : Int) < 6 := by omega
        have hlo : (0 : Int) ≤ (n : Int) := by omega
        have hix := unhide HIX n hn6
        have HW := hide (fun (w' : World) => within_any (dk.getD n 0) 0 9 w')
        cases hv : inB (dk.getD n 0) 0 9
        · have HT : Hid (dkB dk = false) := by
            show _ = _
            rw [unhide HB]
            cases e : dk.all fun v => inB v 0 9
            · rfl
            · rw [List.all_eq_true] at e
              have := e dk[n] (List.getElem_mem (by omega))
              rw [List.getD_eq_getElem?_getD, List.getElem?_eq_getElem (by omega)] at hv
              simp at hv
              rw [hv] at this; cases this
          rw [hv] at HW
          clear hv
          generalize dk.getD n 0 = v at *
          go_wp2_with (first | (go_at_call 67; refine (unhide HW _).mono ?_; rintro e w' ⟨rfl, hw'⟩; obtain rfl := hw'.symm) | (refine wpList_load_mid rfl 76 _ rfl (w.heap.size + 1) 0 rfl (isC dk) _ rk Tryz.underlying76 rfl (unhide HSZ) ?_) | (refine wpList_store_mid rfl 76 _ _ rfl w.heap.size 0 (isC dk).toArray rfl rfl trz (unhide HSZA) (all_oneCell_toArray (one_isC _)) ?_) | (refine bodyPost_ret (res_cell_tmp Tryz.results79 _ _ w.heap.size (isC dk) _ rfl p1.cells Tryz.underlying76 rfl (unhide HSZ)) rfl (unhide ?_)))
          exact hide ⟨dk, by rw [unhide HT], h6, fun h => rfl, pB⟩
        · have HI2 : Hid (∀ j, j < n + 1 → inB (dk.getD j 0) 0 9 = true) := fun j hj => by
            by_cases e : j = n
            · subst e; exact hv
            · exact unhide HI j (by omega)
          rw [hv] at HW
          clear hv
          generalize dk.getD n 0 = v at *
          go_wp2_with (go_at_call 67; refine (unhide HW _).mono ?_; rintro e w' ⟨rfl, hw'⟩; obtain rfl := hw'.symm)
          go_roundw
          case rel => exact ⟨n + 1, by omega, by first | rfl | go_num, by first | exact rfl | exact trivial, HI2⟩
          case measure => simp [intOf]; omega
end Go.Proofs.YtbiokmojjneleaaGreat.StB

/-
  The program's stores: the last record of each address, made a map; what is asked of it.
-/
namespace Go.Proofs.YtbiokmojjneleaaGreat.StC
open Go.ChangeShapes Go.WideShapes Go.ChangeAt Go.RowKit Go.Shelf OkA Big Fl ImplB ImplF ImplS _root_.Go.Proofs.YtbiokmojjneleaaGreat.Own ImplT ImplU SpecA SpecB SpecC SpecD SpecW SpecF SpecG SpecH Ok2 Pl FindP SpecX ImplL FindN FindL FindV FindQ Kp StA MpA StB
set_option linter.unusedVariables false
set_option linter.unusedSimpArgs false
attribute [local go_sem ↓] Go.wp_at_zero Go.wp_at_succ
section
variable {P : Program} {ops : Array Oper} {rest : List Oper} {o : Oper} {a : Act} {w : World} {Q : Exit → Act → World → Prop}
theorem wpList_upd (hgd : o.guard = none) (t : TypeId) (m x v : Operand) (ho : o.op = .mapUpdate t m x v) (vm vx vv : Value) (hm : a.eval m = vm) (hx : a.eval x = vx) (hv : a.eval v = vv) (w' : World) (hr : (Instr.mapUpdate t vm vx vv).run P w = .ok () w')
    (h : wpList P ops Q rest (a.put o.dst undef) w') : wpList P ops Q (o :: rest) a w := by
  refine wpList_plain hgd fun K hK => ?_
  unfold Oper.wp
  simp [execOp, ho, hm, hx, hv, hr, Result.andThen]
  exact hK _ _ h
theorem wpList_look (hgd : o.guard = none) (t : TypeId) (m x : Operand) (c : Bool) (ho : o.op = .lookup t m x c) (vm vx v : Value) (hm : a.eval m = vm) (hx : a.eval x = vx) (hr : (Instr.lookup t vm vx c).run P w = .ok v w)
    (h : wpList P ops Q rest (a.put o.dst v) w) : wpList P ops Q (o :: rest) a w := by
  refine wpList_plain hgd fun K hK => ?_
  unfold Oper.wp
  simp [execOp, ho, hm, hx, hr, Result.andThen]
  exact hK _ _ h
theorem wpList_mkMap (hgd : o.guard = none) (t : TypeId) (x : Operand) (ho : o.op = .makeMap t (some x)) (n : Int) (hx : a.eval x = .int .i64 n) (k e : TypeId) (ht : P.underlying t = some (.map k e))
    (h : wpList P ops Q rest (a.put o.dst (.map (some w.heap.size))) (w.alloc (.map #[] 0))) : wpList P ops Q (o :: rest) a w := by
  refine wpList_plain hgd fun K hK => ?_
  have hr : (Instr.makeMap t (some (.int .i64 n))).run P w = .ok (.map (some w.heap.size)) (w.alloc (.map #[] 0)) := by
    simp [Instr.makeMap, run_underlying ht, asInt, newObj, go_sem]
    rfl
  unfold Oper.wp
  simp [execOp, ho, hx, hr, Result.andThen]
  exact hK _ _ h
end
theorem wpList_rec_neq {ops : Array Oper} {rest : List Oper} {o : Oper} {a : Act} {w : World} {Q : Exit → Act → World → Prop} (hgd : o.guard = none) (x y : Operand) (ho : o.op = .binOp .neq 36 x y 36) (r : Rc) (hx : a.eval x = .agg (rcC r).toArray)
    (hy : a.eval y = .agg #[.int .i64 0, .int .i64 0, .int .i64 0, .int .i64 0]) (h : wpList Tryz.prog ops Q rest (a.put o.dst (.bool (!noRc r))) w) : wpList Tryz.prog ops Q (o :: rest) a w := by
  refine wpList_plain hgd fun K hK => ?_
  have hr : (execOp a.eval o).run Tryz.prog w = .ok (.value (.bool (!noRc r))) w := by
    unfold execOp
    simp only [ho, hx, hy]
    unfold noRc rcC
    go_simp
    by_cases q1 : r.k = 0 <;> by_cases q2 : r.s = 0 <;> by_cases q3 : r.a = 0 <;> by_cases q4 : r.v = 0 <;> simp [q1, q2, q3, q4]
  unfold Oper.wp
  rw [hr]
  exact hK _ _ h

/-- The last record of each address up to k that has any. -/
def mpK (bs : List Bk) (k : Nat) (j : Int) : Option Rc := if 1 ≤ j ∧ j ≤ (k : Int) ∧ noRc (lastR bs j) = false then some (lastR bs j) else none
def mpF (bs : List Bk) : Int → Option Rc := mpK bs 6
def LePost (w : World) (bs : List Bk) (e : Ending) (w' : World) : Prop := ∃ mb, e = .returned (.map (some mb)) ∧ w.heap.size ≤ mb ∧ MapAt w' mb 6 (mpF bs) ∧ Below w.heap.size w w'

set_option maxRecDepth 100000 in
set_option maxHeartbeats 1000000 in
theorem lastOfEach_any (bs : List Bk) (h4 : bs.length = 4) (hF : Fours bs) (w : World) :
    Calls Tryz.prog 80 #[.agg (fsC bs).toArray] w fun e w' => LePost w bs e w' := by
  have r1 := rangeAt_below (rangeAt_new w (fsC bs) 73) ((Below.refl (w.alloc (.cells (fsC bs).toArray 73)).heap.size _).alloc (Nat.le_refl _) (.map #[] 0)) (by simp)
  have m1 := MapAt.new (w.alloc (.cells (fsC bs).toArray 73))
  rw [World.size_alloc] at m1
  have B1 : Below w.heap.size w ((w.alloc (.cells (fsC bs).toArray 73)).alloc (.map #[] 0)) := ((Below.refl _ _).alloc (Nat.le_refl _) _).alloc (by simp) _
  have s1 : w.heap.size + 2 ≤ ((w.alloc (.cells (fsC bs).toArray 73)).alloc (.map #[] 0)).heap.size := by simp
  have HSF := hide (size_fsl hF h4)
  have HLA := hide (fun (addr : Int) (w' : World) => callsIn_wide.1 (last_in bs addr h4 hF w'))
  have HM0 : Hid (∀ j, mpK bs 0 j = none) := fun j => by unfold mpK; rw [if_neg (by omega)]
  have HM1 : Hid (∀ (k : Nat) (j : Int), noRc (lastR bs ((k : Int) + 1)) = true → mpK bs (k + 1) j = mpK bs k j) := fun (k : Nat) (j : Int) h => by
    unfold mpK
    by_cases e : j = (k : Int) + 1
    · subst e; rw [if_neg (fun q => by rw [h] at q; cases q.2.2), if_neg (fun q => by omega)]
    · by_cases q : 1 ≤ j ∧ j ≤ (k : Int) ∧ noRc (lastR bs j) = false
      · rw [if_pos q, if_pos ⟨q.1, by omega, q.2.2⟩]
      · rw [if_neg q, if_neg (fun q' => q ⟨q'.1, by omega, q'.2.2⟩)]
  have HM2 : Hid (∀ (k : Nat) (j : Int), noRc (lastR bs ((k : Int) + 1)) = false → mpK bs (k + 1) j = if j = (k : Int) + 1 then some (lastR bs ((k : Int) + 1)) else mpK bs k j) := fun (k : Nat) (j : Int) h => by
    unfold mpK
    by_cases e : j = (k : Int) + 1
    · subst e; rw [if_pos rfl, if_pos ⟨by omega, by omega, h⟩]
    · rw [if_neg e]
      by_cases q : 1 ≤ j ∧ j ≤ (k : Int) ∧ noRc (lastR bs j) = false
      · rw [if_pos q, if_pos ⟨q.1, by omega, q.2.2⟩]
      · rw [if_neg q, if_neg (fun q' => q ⟨q'.1, by omega, q'.2.2⟩)]
  go_enter Tryz.func80, Tryz.ntmps80
  go_wp2_with (first | (refine wpList_box_big rfl _ _ rfl (fsC bs).toArray rfl ?_) | (refine wpList_mkMap rfl _ _ rfl 6 rfl 3 36 Tryz.underlying74 ?_))
  generalize (w.alloc (.cells (fsC bs).toArray 73)).alloc (.map #[] 0) = w1 at *
  go_loopw [4] (fun i w' => ∃ k : Nat, k ≤ 6 ∧ i = .int .i64 ((k : Int) + 1) ∧ w'.rangeAt w.heap.size 0 (fsC bs) ∧ MapAt w' (w.heap.size + 1) k (mpK bs k) ∧ w.heap.size + 2 ≤ w'.heap.size ∧ Below w.heap.size w w') (fun i _ => 7 - (intOf i).toNat)
  case atStart => exact ⟨0, by omega, rfl, r1, m1.ext (unhide HM0), s1, B1⟩
  case round =>
    clear r1 m1 B1 s1
    obtain ⟨k, hk, rfl, rF, mK, hs, hB⟩ := hrel
    by_cases h0 : k = 6
    · subst h0
      go_wp2
      go_ret
      exact ⟨w.heap.size + 1, rfl, by omega, mK, hB⟩
    · have hlt : (k : Int) + 1 ≤ 6 := by omega
      have hlo : (0 : Int) ≤ (k : Int) := by omega
      go_wp2_with (refine wpList_load_mid rfl 73 _ rfl w.heap.size 0 rfl (fsC bs) _ rF Tryz.underlying73 rfl (unhide HSF) ?_)
      refine (unhide HLA _ _).mono ?_
      rintro e w2 ⟨rfl, b2⟩
      have rF2 := rangeAt_below rF b2 (by omega)
      have mK2 := mK.below b2 (by omega)
      have hB2 := hB.trans (b2.mono hB.size)
      have hs2 := Nat.le_trans hs b2.size
      clear rF mK hB hs b2
      have HM1 := hide (fun j => unhide HM1 k j)
      have HM2 := hide (fun j => unhide HM2 k j)
      generalize lastR bs ((k : Int) + 1) = r at *
      have cX := CsAt.new w2 (rcC r) 36
      have rX := cX.cells
      have HS := hide (SpecL.size_rc r)
      have rF3 := rangeAt_below rF2 ((Below.refl w2.heap.size w2).alloc (Nat.le_refl _) (.cells (rcC r).toArray 36)) (by omega)
      have mK3 := mK2.below ((Below.refl w2.heap.size w2).alloc (Nat.le_refl _) (.cells (rcC r).toArray 36)) (by omega)
      have hB3 := hB2.alloc (by omega) (.cells (rcC r).toArray 36)
      have hs3 : w.heap.size + 2 ≤ (w2.alloc (.cells (rcC r).toArray 36)).heap.size := by simp; omega
      clear rF2 mK2 hB2
      have hz4 : (rcC zRc).toArray.size = (rcC r).toArray.size := rfl
      cases hno : noRc r
      · obtain ⟨w4, hput, mK4, hg⟩ := mK3.put (by omega) (i := (k : Int) + 1) (by omega) (by omega) r
        have mK5 := mK4.ext (fun j => unhide HM2 j hno)
        have hB4 := below_grown hB3 hg (by omega) (by omega)
        have rF4 : w4.rangeAt w.heap.size 0 (fsC bs) := (Kept.of (Below.refl _ _)).grown (L := [w.heap.size + 1]) hg (fun q e => by cases e; exact .inl (by simp)) |>.range rF3 (by omega) (by simp)
        have hs4 := Nat.le_trans hs3 hg.size
        clear mK3 mK4 hg rF3 hB3
        go_wp2_with (first | (refine wpList_alloc_big rfl 36 rfl (rcC zRc).toArray (by kernel_rfl) ?_) | (refine wpList_store_new rfl 36 _ _ rfl w2 (rcC zRc).toArray (rcC r).toArray rfl rfl rfl (SpecL.size_rca r) hz4 (SpecL.one_rc r) ?_) | (refine wpList_load_mid rfl 36 _ rfl w2.heap.size 0 rfl (rcC r) _ rX Tryz.underlying36 rfl (unhide HS) ?_) | (refine wpList_rec_neq rfl _ _ rfl r rfl rfl ?_; rw [hno]) | (refine wpList_upd rfl _ _ _ _ rfl _ _ _ rfl rfl rfl w4 hput ?_))
        go_roundw
        case rel => exact ⟨k + 1, by omega, by first | rfl | go_num, rF4, mK5, hs4, hB4⟩
        case measure => simp [intOf]; omega
      · have mK5 := (mK3.mono (show k ≤ k + 1 by omega)).ext (fun j => unhide HM1 j hno)
        clear mK3
        go_wp2_with (first | (refine wpList_alloc_big rfl 36 rfl (rcC zRc).toArray (by kernel_rfl) ?_) | (refine wpList_store_new rfl 36 _ _ rfl w2 (rcC zRc).toArray (rcC r).toArray rfl rfl rfl (SpecL.size_rca r) hz4 (SpecL.one_rc r) ?_) | (refine wpList_load_mid rfl 36 _ rfl w2.heap.size 0 rfl (rcC r) _ rX Tryz.underlying36 rfl (unhide HS) ?_) | (refine wpList_rec_neq rfl _ _ rfl r rfl rfl ?_; rw [hno]))
        go_roundw
        case rel => exact ⟨k + 1, by omega, by first | rfl | go_num, rF3, mK5, hs3, hB3⟩
        case measure => simp [intOf]; omega

/-- A store as it is kept. -/
def skC (ks : List Bk) (mb : Nat) (dk : List Int) : List Value := fsC ks ++ .map (some mb) :: isC dk
theorem sk_len {ks : List Bk} {mb : Nat} {dk : List Int} (h4 : ks.length = 4) (hF : Fours ks) (h : dk.length = 6) : (skC ks mb dk).length = 91 := by rw [skC, List.length_append, List.length_cons, len_isC, h, len_fsC ks hF, h4]
theorem size_sk {ks : List Bk} {mb : Nat} {dk : List Int} (h4 : ks.length = 4) (hF : Fours ks) (h : dk.length = 6) : (Tryz.prog.info? 78).map (·.size) = some (skC ks mb dk).length := by rw [sk_len h4 hF h]; kernel_rfl
theorem size_ska {ks : List Bk} {mb : Nat} {dk : List Int} (h4 : ks.length = 4) (hF : Fours ks) (h : dk.length = 6) : (Tryz.prog.info? 78).map (·.size) = some (skC ks mb dk).toArray.size := by rw [List.size_toArray]; exact size_sk h4 hF h
theorem one_skv (ks : List Bk) (mb : Nat) (dk : List Int) : ∀ v ∈ skC ks mb dk, v.oneCell' = true := fun v hv => by
  rcases List.mem_append.1 hv with h | h
  · exact one_fsC ks v h
  · rcases List.mem_cons.1 h with rfl | h
    · rfl
    · exact one_isC dk v h
theorem one_sk (ks : List Bk) (mb : Nat) (dk : List Int) : (skC ks mb dk).toArray.all (·.oneCell') = true := all_oneCell_toArray (one_skv ks mb dk)
theorem sk_map {ks : List Bk} {mb : Nat} {dk : List Int} (h4 : ks.length = 4) (hF : Fours ks) : (skC ks mb dk)[84]? = some (.map (some mb)) := by
  have hl : (fsC ks).length = 84 := by rw [len_fsC ks hF, h4]
  rw [skC, List.getElem?_append_right (by omega), hl]; rfl
theorem sk_flash {w : World} {S mb : Nat} {ks : List Bk} {dk : List Int} (h : w.rangeAt S 0 (skC ks mb dk)) : w.rangeAt S 0 (fsC ks) := fun j v hv => by
  obtain ⟨hj, _⟩ := List.getElem?_eq_some_iff.1 hv
  exact h j v (by rw [skC, List.getElem?_append_left hj]; exact hv)
theorem sk_diskR {w : World} {S mb : Nat} {ks : List Bk} {dk : List Int} (h4 : ks.length = 4) (hF : Fours ks) (h : w.rangeAt S 0 (skC ks mb dk)) : w.rangeAt S 85 (isC dk) := fun j v hv => by
  have hl : (fsC ks).length = 84 := by rw [len_fsC ks hF, h4]
  have := h (85 + j) v (by rw [skC, List.getElem?_append_right (by omega), hl, show 85 + j - 84 = j + 1 by omega]; exact hv)
  rwa [Nat.zero_add] at this
/-- The value of an address, of a map and the slow disk. -/
def mpV (f : Int → Option Rc) (dk : List Int) (addr : Int) : Int := if (f addr).isSome then ((f addr).getD zRc).v else dkV dk addr

set_option maxRecDepth 100000 in
set_option maxHeartbeats 1000000 in
theorem value_any (ks : List Bk) (hk4 : ks.length = 4) (hkF : Fours ks) (mb n : Nat) (f : Int → Option Rc) (dk : List Int) (h6 : dk.length = 6) (addr : Int) (ha0 : 1 ≤ addr) (ha6 : addr ≤ 6) (w : World) (hM : MapAt w mb n f) :
    Calls Tryz.prog 62 #[.agg (skC ks mb dk).toArray, .int .i64 addr] w fun e w' => e = .returned (.int .i64 (mpV f dk addr)) ∧ Below w.heap.size w w' := by
  have cS := CsAt.new w (skC ks mb dk) 78
  have B0 : Below w.heap.size w (w.alloc (.cells (skC ks mb dk).toArray 78)) := (Below.refl _ _).alloc (Nat.le_refl _) _
  have s0 : w.heap.size < (w.alloc (.cells (skC ks mb dk).toArray 78)).heap.size := by simp
  have hM2 := hM.below B0 hM.lt
  have hlk := hM2.look2 (i := addr) (by omega) (by omega)
  have x0 := cS.cell 84 _ (sk_map hk4 hkF)
  have HV : Hid (mpV f dk addr = if (f addr).isSome then ((f addr).getD zRc).v else dkV dk addr) := rfl
  have HD := hide (fun (w' : World) => dof_any dk h6 addr ha0 ha6 w')
  generalize mpV f dk addr = R at *
  generalize (f addr).getD zRc = r at *
  generalize (f addr).isSome = o at *
  generalize dkV dk addr = d at *
  have cS2 := cS.alloc s0 (.cells (rcC r).toArray 36)
  have y3 : ((w.alloc (.cells (skC ks mb dk).toArray 78)).alloc (.cells (rcC r).toArray 36)).cell? ⟨w.heap.size + 1, 3, none⟩ = some (.int .i64 r.v) := by
    have := (CsAt.new (w.alloc (.cells (skC ks mb dk).toArray 78)) (rcC r) 36).cell 3 _ rfl
    rwa [World.size_alloc] at this
  have rD := sk_diskR hk4 hkF cS2.cells
  have B2 := B0.alloc (by omega) (.cells (rcC r).toArray 36)
  have HS := hide (size_dk h6)
  clear hM hM2 cS cS2
  rw [show (rcC r).toArray = #[.int .i64 r.k, .int .i64 r.s, .int .i64 r.a, .int .i64 r.v] from rfl] at *
  go_enter Tryz.func62, Tryz.ntmps62
  go_upto_region 2 with (first | (refine wpList_box_big rfl _ _ rfl (skC ks mb dk).toArray rfl ?_) | (refine wpList_look rfl _ _ _ true rfl _ _ _ rfl rfl hlk ?_))
  generalize (w.alloc (.cells (skC ks mb dk).toArray 78)).alloc (.cells #[.int .i64 r.k, .int .i64 r.s, .int .i64 r.a, .int .i64 r.v] 36) = w2 at *
  cases o
  · go_wp2_with (refine wpList_load_mid rfl 76 _ rfl w.heap.size 85 rfl (isC dk) _ rD Tryz.underlying76 rfl (unhide HS) ?_)
    refine (unhide HD _).mono ?_
    rintro e w3 ⟨rfl, b3⟩
    have B3 := B2.trans (b3.mono B2.size)
    clear rD B2 b3 HD
    go_wp2
    go_ret
    exact ⟨by rw [unhide HV]; rfl, B3⟩
  · go_wp2
    go_ret
    exact ⟨by rw [unhide HV]; rfl, B2⟩
end Go.Proofs.YtbiokmojjneleaaGreat.StC
