/-
  Texts that belong together, one behind the other: MpA, StB, StC, StD, StE.
-/
import Derived.Test.YtkikeapfjpnkgaaFindL
import Derived.Maps.OwnSet
import Derived.Test.YtkikeapfjpnkgaaDrwA
import Derived.Test.YtkikeapfjpnkgaaBaT
import Derived.Deep.Cut
import Derived.Test.YtkikeapfjpnkgaaImplW

/-
  A map from addresses to records that a call has made: what is asked of it, what is laid into it. Nothing here walks the program.
-/
namespace Go.Proofs.Ytkikeapfjpnkgaa.MpA
open Go.ChangeShapes Go.WideShapes Go.ChangeAt Go.RowKit Go.Shelf OkA Big Fl Pl ImplL FindL Kp
open Go.Maps (Keyed)
set_option linter.unusedVariables false
set_option linter.unusedSimpArgs false

def recD (r : Rc) : DataW Unit := .agg [.lit (.int .i64 r.k), .lit (.int .i64 r.s), .lit (.int .i64 r.a), .lit (.int .i64 r.v)]
theorem recD_inj {r q : Rc} (h : recD r = recD q) : r = q := by
  cases r; cases q
  simp [recD] at h
  obtain ⟨rfl, rfl, rfl, rfl⟩ := h
  rfl
/-- How a record reads. -/
def recR (v : Value) : Option (DataW Unit × List MemPlace) :=
  match v with
  | .agg cs => match cs.toList with
    | [.int .i64 k, .int .i64 s, .int .i64 a, .int .i64 v] => some (recD ⟨k, s, a, v⟩, [])
    | _ => none
  | _ => none
theorem recR_mk (r : Rc) : recR (.agg (rcC r).toArray) = some (recD r, []) := rfl
theorem recR_inv {v : Value} {r : Rc} {ps : List MemPlace} (h : recR v = some (recD r, ps)) : v = .agg (rcC r).toArray := by
  unfold recR at h
  split at h
  · rename_i cs
    split at h
    · rename_i k s a v e
      simp only [Option.some.injEq, Prod.mk.injEq] at h
      obtain rfl := recD_inj h.1
      have : cs = (rcC ⟨k, s, a, v⟩).toArray := by apply Array.ext'; rw [e]; rfl
      rw [this]
    · cases h
  · cases h
theorem law : Keyed Try.prog 3 := Maps.int_keyed Try.underlying3
theorem key {i : Int} (h0 : -9223372036854775808 ≤ i) (h1 : i ≤ 9223372036854775807) : keyOf Try.prog 3 (.int .i64 i) = some (.int .i64 i) := Maps.keyOf_int_mk Try.underlying3 (by simp [Lit.wf, IntKind.min, IntKind.max, IntKind.bits, IntKind.signed]; omega)
theorem zeroR (w : World) : (zeroValue 25).run Try.prog w = .ok (.agg (rcC zRc).toArray) w := by
  have h : (Try.prog.info? 25).bind (·.zero) = some (.agg (rcC zRc).toArray) := by kernel_rfl
  cases hq : Try.prog.info? 25 with
  | none => rw [hq] at h; cases h
  | some i => rw [hq] at h; simp at h; simp [zeroValue, typeInfo, hq, h]

/-- Block b is a map of at most n records, which has f of each address. -/
def MapAt (w : World) (b n : Nat) (f : Int → Option Rc) : Prop :=
  ∃ D : DataW Unit, w.ownsMap Try.prog 3 recR b n D ∧ ∀ i : Int, Maps.has D (.int .i64 i) = (f i).isSome ∧ D.atKey (.int .i64 i) (recD zRc) = recD ((f i).getD zRc)
variable {w w' : World} {b n : Nat} {f : Int → Option Rc}
theorem MapAt.new (w : World) : MapAt (w.alloc (.map #[] 0)) w.heap.size 0 (fun _ => none) := ⟨_, World.ownsMap_made w _ _ _, fun i => ⟨rfl, rfl⟩⟩
theorem MapAt.mono (h : MapAt w b n f) {m : Nat} (hm : n ≤ m) : MapAt w b m f := by obtain ⟨D, h1, h2⟩ := h; exact ⟨D, h1.mono hm, h2⟩
theorem MapAt.ext (h : MapAt w b n f) {g : Int → Option Rc} (hg : ∀ i, g i = f i) : MapAt w b n g := by obtain ⟨D, h1, h2⟩ := h; exact ⟨D, h1, fun i => by rw [hg i]; exact h2 i⟩
theorem MapAt.lt (h : MapAt w b n f) : b < w.heap.size := by obtain ⟨D, h1, h2⟩ := h; exact h1.lt
theorem MapAt.below (h : MapAt w b n f) {B : Nat} (hb : Below B w w') (hl : b < B) : MapAt w' b n f := by
  obtain ⟨D, ⟨es, clock, hh, r⟩, h2⟩ := h
  exact ⟨D, ⟨es, clock, (hb.block b hl).trans hh, r⟩, h2⟩
theorem MapAt.keptL {L : List Nat} (h : MapAt w b n f) (hk : Kept L w w') (hn : b ∉ L) : MapAt w' b n f := by
  have hl := h.lt
  obtain ⟨D, ⟨es, clock, hh, r⟩, h2⟩ := h
  exact ⟨D, ⟨es, clock, (hk.block b hl hn).trans hh, r⟩, h2⟩
theorem MapAt.look (h : MapAt w b n f) {i : Int} (h0 : -9223372036854775808 ≤ i) (h1 : i ≤ 9223372036854775807) :
    (Instr.lookup 91 (.map (some b)) (.int .i64 i) false).run Try.prog w = .ok (.agg (rcC ((f i).getD zRc)).toArray) w := by
  obtain ⟨D, ho, h2⟩ := h
  obtain ⟨v, ps, hr, hv⟩ := ho.lookup law Try.underlying91 (zeroR w) (recR_mk zRc) (key h0 h1)
  rw [(h2 i).2] at hv
  rw [hr, recR_inv hv]
theorem MapAt.look2 (h : MapAt w b n f) {i : Int} (h0 : -9223372036854775808 ≤ i) (h1 : i ≤ 9223372036854775807) :
    (Instr.lookup 91 (.map (some b)) (.int .i64 i) true).run Try.prog w = .ok (.tuple #[.agg (rcC ((f i).getD zRc)).toArray, .bool (f i).isSome]) w := by
  obtain ⟨D, ho, h2⟩ := h
  obtain ⟨v, ps, hr, hv⟩ := ho.look_ok law Try.underlying91 (zeroR w) (recR_mk zRc) (key h0 h1)
  rw [(h2 i).2] at hv
  rw [hr, recR_inv hv, (h2 i).1]
theorem MapAt.put (h : MapAt w b n f) (hn : n < 1000) {i : Int} (h0 : -9223372036854775808 ≤ i) (h1 : i ≤ 9223372036854775807) (r : Rc) :
    ∃ w', (Instr.mapUpdate 91 (.map (some b)) (.int .i64 i) (.agg (rcC r).toArray)).run Try.prog w = .ok () w' ∧ MapAt w' b (n + 1) (fun j => if j = i then some r else f j) ∧ w.grownBy w' (some b) := by
  obtain ⟨D, ho, h2⟩ := h
  have hm := ho.isMap
  obtain ⟨w', hr, ho', hg⟩ := ho.update law Try.underlying91 (by simp [maxLen]; omega) (key h0 h1) (recR_mk r)
  refine ⟨w', hr, ⟨_, ho', fun j => ?_⟩, hg⟩
  by_cases e : j = i
  · subst e
    simp only [if_true]
    exact ⟨by rw [Maps.has_put_same (k := .int .i64 j) hm trivial]; rfl, by rw [Maps.atKey_put_same (k := .int .i64 j) hm trivial]; rfl⟩
  · have hne : (Lit.int .i64 j) ≠ (.int .i64 i) := fun q => e (by cases q; rfl)
    simp only [if_neg e]
    exact ⟨by rw [Maps.has_put_other hne]; exact (h2 j).1, by rw [Maps.atKey_put_other hne]; exact (h2 j).2⟩
theorem below_grown {B : Nat} {u : World} (h : Below B u w) (hg : w.grownBy w' (some b)) (hs : B ≤ w.heap.size) (hb : B ≤ b) : Below B u w' := h.grown hg hs (fun k e => by cases e; exact hb)
end Go.Proofs.Ytkikeapfjpnkgaa.MpA

/-
  The program's stores: what the slow disk has, as it is kept; the last record of each address in a map.
-/
namespace Go.Proofs.Ytkikeapfjpnkgaa.StB
open Go.ChangeShapes Go.WideShapes Go.ChangeAt Go.RowKit Go.Shelf OkA Big Fl ImplB ImplF ImplS _root_.Go.Proofs.Ytkikeapfjpnkgaa.Own ImplT ImplU SpecA SpecB SpecC SpecD SpecW SpecF SpecG SpecH Ok2 Pl FindP SpecX ImplL FindN FindL FindV FindQ Kp StA MpA
set_option linter.unusedVariables false
set_option linter.unusedSimpArgs false
attribute [local go_sem ↓] Go.wp_at_zero Go.wp_at_succ

theorem run_index_int {P : Program} (w : World) (T e : TypeId) (n : Nat) (cs : Array Value) (i : Int) (v : Value) (hu : P.underlying T = some (.array n e)) (hd : P.underlying e = some (.int .i64))
    (hs : (P.info? e).map (·.size) = some 1) (h0 : 0 ≤ i) (h1 : i < n) (hc : cs[i.toNat]? = some v) : (Instr.index T (.agg cs) (.int .i64 i)).run P w = .ok v w := by
  cases hq : P.info? e with
  | none => simp [hq] at hs
  | some j =>
    have hj : j.size = 1 := by simpa [hq] using hs
    have hagg : (isAgg e).run P w = .ok false w := by
      unfold isAgg
      rw [Sem.run_bind, run_underlying hd w]
      rfl
    simp [Instr.index, asIntOf, run_underlying hu, h0, h1, sizeOf, typeInfo, hq, hj, part, hagg, hc]

theorem rdirty_any (r : Rc) (w : World) :
    Calls Try.prog 116 #[.agg (rcC r).toArray] w fun e w' => e = .returned (.bool (r.k == 1)) ∧ Below w.heap.size w w' := by
  rw [show (rcC r).toArray = #[.int .i64 r.k, .int .i64 r.s, .int .i64 r.a, .int .i64 r.v] from rfl]
  go_enter Try.func116, Try.ntmps116
  go_wp2
  go_ret
  exact ⟨rfl, (Below.refl _ _).alloc (Nat.le_refl _) _⟩
theorem rclean_any (r : Rc) (w : World) :
    Calls Try.prog 114 #[.agg (rcC r).toArray] w fun e w' => e = .returned (.bool (r.k == 2)) ∧ Below w.heap.size w w' := by
  rw [show (rcC r).toArray = #[.int .i64 r.k, .int .i64 r.s, .int .i64 r.a, .int .i64 r.v] from rfl]
  go_enter Try.func114, Try.ntmps114
  go_wp2
  go_ret
  exact ⟨rfl, (Below.refl _ _).alloc (Nat.le_refl _) _⟩

/-- What the slow disk has of an address. -/
def dkV (dk : List Int) (addr : Int) : Int := dk.getD (addr - 1).toNat 0
theorem dof_any (dk : List Int) (h6 : dk.length = 6) (addr : Int) (ha0 : 1 ≤ addr) (ha6 : addr ≤ 6) (w : World) :
    Calls Try.prog 115 #[.agg (isC dk).toArray, .int .i64 addr] w fun e w' => e = .returned (.int .i64 (dkV dk addr)) ∧ Below w.heap.size w w' := by
  obtain ⟨n, rfl⟩ : ∃ n : Nat, addr = (n : Int) + 1 := ⟨(addr - 1).toNat, by omega⟩
  have hn6 : n < 6 := by omega
  have e1 : ((n : Int) + 1 - 1).toNat = n := by omega
  have HV : Hid (dkV dk ((n : Int) + 1) = dk.getD n 0) := by show _ = _; unfold dkV; rw [e1]
  have dn := isC_at (rangeAt_new w (isC dk) 93) n (by omega)
  rw [Nat.zero_add] at dn
  have B0 : Below w.heap.size w (w.alloc (.cells (isC dk).toArray 93)) := (Below.refl _ _).alloc (Nat.le_refl _) _
  generalize dkV dk ((n : Int) + 1) = R at *
  generalize dk.getD n 0 = v at *
  have hn0 : (0 : Int) ≤ (n : Int) := by omega
  have hnl : (n : Int) < 6 := by omega
  have e2 : ((n : Int) + 1 - 1) = (n : Int) := by omega
  go_enter Try.func115, Try.ntmps115
  go_wp2_with (refine wpList_box_big rfl _ _ rfl (isC dk).toArray rfl ?_)
  go_ret
  exact ⟨by rw [unhide HV]; rfl, B0⟩

/-- The slow disk's numbers lie there. -/
def DkAt (w : World) (a : Option Addr) (dk : List Int) : Prop := dk = [] ∨ ∃ b o, a = some ⟨b, o, none⟩ ∧ w.rangeAt b o (isC dk)
theorem DkAt.below {w w' : World} {a : Option Addr} {dk : List Int} (h : DkAt w a dk) (hb : Below w.heap.size w w') : DkAt w' a dk := by
  rcases h with h | ⟨b, o, rfl, h⟩
  · exact .inl h
  · cases dk with
    | nil => exact .inl rfl
    | cons x r => exact .inr ⟨b, o, rfl, rangeAt_below h hb (cell_lt (h 0 _ rfl))⟩
def dkB (dk : List Int) : Bool := dk.length == 6 && dk.all fun v => inB v 0 9
def zDk6 : List Int := [0, 0, 0, 0, 0, 0]
theorem one_isC (l : List Int) : ∀ v ∈ isC l, v.oneCell' = true := by intro v hv; simp [isC] at hv; obtain ⟨x, _, rfl⟩ := hv; rfl
theorem size_dk {dk : List Int} (h : dk.length = 6) : (Try.prog.info? 93).map (·.size) = some (isC dk).length := by rw [len_isC, h]; kernel_rfl
theorem size_dka {dk : List Int} (h : dk.length = 6) : (Try.prog.info? 93).map (·.size) = some (isC dk).toArray.size := by rw [List.size_toArray]; exact size_dk h
theorem zero_dk : (Try.prog.info? 93).bind (·.zero) = some (.agg (isC zDk6).toArray) := by kernel_rfl
def DkPost (w : World) (dk : List Int) (e : Ending) (w' : World) : Prop := ∃ ks : List Int, e = .returned (.tuple #[.agg (isC ks).toArray, .bool (dkB dk)]) ∧ ks.length = 6 ∧ (dkB dk = true → ks = dk) ∧ Below w.heap.size w w'

set_option maxRecDepth 100000 in
set_option maxHeartbeats 1000000 in
theorem diskOf_any (a : Option Addr) (cap : Nat) (dk : List Int) (w : World) (hd : DkAt w a dk) (hm : dk.length ≤ 9223372036854775807) :
    Calls Try.prog 94 #[.slice a dk.length cap] w fun e w' => DkPost w dk e w' := by
  have cR := (CsAt.new w (isC zDk6) 93).alloc (by simp) (.cells (isC zDk6).toArray 93)
  have cK := CsAt.new (w.alloc (.cells (isC zDk6).toArray 93)) (isC zDk6) 93
  rw [World.size_alloc] at cK
  have B0 : Below w.heap.size w ((w.alloc (.cells (isC zDk6).toArray 93)).alloc (.cells (isC zDk6).toArray 93)) := ((Below.refl _ _).alloc (Nat.le_refl _) _).alloc (by simp) _
  have hd2 := hd.below B0
  have s0 : ((w.alloc (.cells (isC zDk6).toArray 93)).alloc (.cells (isC zDk6).toArray 93)).heap.size = w.heap.size + 2 := by simp
  have hmi : (dk.length : Int) ≤ 9223372036854775807 := by omega
  clear hd
  by_cases h6 : dk.length = 6
  rotate_left
  · have HB : Hid (dkB dk = false) := by show _ = _; simp [dkB, h6]
    have g6 : ((dk.length : Int) != 6) = true := by simp; omega
    have rk := cK.cells
    have tr := cR.free
    have p1 := cR.put (isC zDk6) rfl
    have pB := below_setCells w.heap.size (Nat.le_refl _) (isC zDk6) 0 _ B0
    go_enter Try.func94, Try.ntmps94
    go_wp2_with (first | (refine wpList_alloc_big rfl 93 rfl (isC zDk6).toArray zero_dk ?_) | (refine wpList_load_mid rfl 93 _ rfl (w.heap.size + 1) 0 rfl (isC zDk6) _ rk Try.underlying93 rfl (size_dk rfl) ?_) | (refine wpList_store_mid rfl 93 _ _ rfl w.heap.size 0 (isC zDk6).toArray rfl rfl tr (size_dka rfl) (all_oneCell_toArray (one_isC _)) ?_) | (refine bodyPost_ret (res_cell_tmp Try.results94 _ _ w.heap.size (isC zDk6) _ rfl p1.cells Try.underlying93 rfl (size_dk rfl)) rfl (unhide ?_)))
    exact hide ⟨zDk6, by rw [unhide HB], rfl, (fun h => by rw [unhide HB] at h; cases h), pB⟩
  · obtain ⟨db, dof, rfl, hr⟩ : ∃ b o, a = some ⟨b, o, none⟩ ∧ ((w.alloc (.cells (isC zDk6).toArray 93)).alloc (.cells (isC zDk6).toArray 93)).rangeAt b o (isC dk) := by
      rcases hd2 with rfl | h
      · simp at h6
      · exact h
    have HB : Hid (dkB dk = dk.all fun v => inB v 0 9) := by show _ = _; simp [dkB, h6]
    have hl6 : (isC dk).length = 6 * 1 := by rw [len_isC, h6]
    have tK : ((w.alloc (.cells (isC zDk6).toArray 93)).alloc (.cells (isC zDk6).toArray 93)).there (w.heap.size + 1) 0 (6 * 1) := cK.free
    have cK2 := cK.put (isC dk) (by rw [len_isC, h6]; rfl)
    have cR2 := cR.other (show w.heap.size ≠ w.heap.size + 1 by omega) 0 (isC dk)
    have B2 := below_setCells (w.heap.size + 1) (show w.heap.size ≤ w.heap.size + 1 by omega) (isC dk) 0 _ B0
    have s2 : (((w.alloc (.cells (isC zDk6).toArray 93)).alloc (.cells (isC zDk6).toArray 93)).setCells (w.heap.size + 1) 0 (isC dk)).heap.size = w.heap.size + 2 := by rw [size_setCells]; exact s0
    have rk := cK2.cells
    have g6 : ((dk.length : Int) != 6) = false := by simp; omega
    have HSZ := hide (size_dk h6)
    have HSZA := hide (size_dka h6)
    have HIX := hide (fun (k : Nat) (hk : k < 6) (w' : World) => run_index_int (P := Try.prog) w' 93 3 6 (isC dk).toArray (k : Int) (.int .i64 (dk.getD k 0)) Try.underlying93 Try.underlying3 (by kernel_rfl) (by omega) (by omega) (by simp [isC, h6, hk]))
    rw [h6]
    go_enter Try.func94, Try.ntmps94
    go_wp2_with (first | (refine wpList_alloc_big rfl 93 rfl (isC zDk6).toArray zero_dk ?_) | (refine wpList_copy_big rfl _ _ 47 47 rfl 3 (w.heap.size + 1) 0 6 6 ⟨db, dof, none⟩ cap 1 (isC dk) Try.underlying47 (by kernel_rfl) rfl rfl hl6 (src_mid hr) tK (one_isC dk) ?_) | (refine wpList_load_mid rfl 93 _ rfl (w.heap.size + 1) 0 rfl (isC dk) _ rk Try.underlying93 rfl (unhide HSZ) ?_))
    generalize ((w.alloc (.cells (isC zDk6).toArray 93)).alloc (.cells (isC zDk6).toArray 93)).setCells (w.heap.size + 1) 0 (isC dk) = w2 at *
    clear tK hr hd2 cK cR B0 s0 rk
    go_loopw [15] (fun i w' => ∃ n : Nat, n ≤ 6 ∧ i = .int .i64 n ∧ w' = w2 ∧ Hid (∀ j, j < n → inB (dk.getD j 0) 0 9 = true)) (fun i _ => 6 - (intOf i).toNat)
    case atStart => exact ⟨0, by omega, rfl, rfl, fun j hj => by omega⟩
    case round =>
      obtain ⟨n, hn, rfl, rfl, HI⟩ := hrel
      have rk := cK2.cells
      have tr := cR2.free
      have p1 := cR2.put (isC dk) (by rw [len_isC, h6]; rfl)
      have pB := below_setCells w.heap.size (Nat.le_refl _) (isC dk) 0 _ B2
      have trz : wr.there w.heap.size 0 (isC dk).toArray.size := by rw [show (isC dk).toArray.size = 6 by rw [List.size_toArray, len_isC, h6]]; exact tr
      by_cases h0 : n = 6
      · subst h0
        have HT : Hid (dkB dk = true) := by
          show _ = _
          rw [unhide HB, List.all_eq_true]
          intro v hv
          obtain ⟨j, hj, rfl⟩ := List.getElem_of_mem hv
          have := unhide HI j (by omega)
          rwa [List.getD_eq_getElem?_getD, List.getElem?_eq_getElem hj] at this
        go_wp2_with (first | (refine wpList_load_mid rfl 93 _ rfl (w.heap.size + 1) 0 rfl (isC dk) _ rk Try.underlying93 rfl (unhide HSZ) ?_) | (refine wpList_store_mid rfl 93 _ _ rfl w.heap.size 0 (isC dk).toArray rfl rfl trz (unhide HSZA) (all_oneCell_toArray (one_isC _)) ?_) | (refine bodyPost_ret (res_cell_tmp Try.results94 _ _ w.heap.size (isC dk) _ rfl p1.cells Try.underlying93 rfl (unhide HSZ)) rfl (unhide ?_)))
        exact hide ⟨dk, by rw [unhide HT], h6, fun _ => rfl, pB⟩
      · have hn6 : n < 6 := by omega
        have hlt : (n : Int) < 6 := by omega
        have hlo : (0 : Int) ≤ (n : Int) := by omega
        have hix := unhide HIX n hn6
        have HW := hide (fun (w' : World) => within_any (dk.getD n 0) 0 9 w')
        cases hv : inB (dk.getD n 0) 0 9
        · have HT : Hid (dkB dk = false) := by
            show _ = _
            rw [unhide HB]
            cases e : dk.all fun v => inB v 0 9
            · rfl
            · rw [List.all_eq_true] at e
              have := e dk[n] (List.getElem_mem (by omega))
              rw [List.getD_eq_getElem?_getD, List.getElem?_eq_getElem (by omega)] at hv
              simp at hv
              rw [hv] at this; cases this
          rw [hv] at HW
          clear hv
          generalize dk.getD n 0 = v at *
          go_wp2_with (first | (go_at_call 57; refine (unhide HW _).mono ?_; rintro e w' ⟨rfl, hw'⟩; obtain rfl := hw'.symm) | (refine wpList_load_mid rfl 93 _ rfl (w.heap.size + 1) 0 rfl (isC dk) _ rk Try.underlying93 rfl (unhide HSZ) ?_) | (refine wpList_store_mid rfl 93 _ _ rfl w.heap.size 0 (isC dk).toArray rfl rfl trz (unhide HSZA) (all_oneCell_toArray (one_isC _)) ?_) | (refine bodyPost_ret (res_cell_tmp Try.results94 _ _ w.heap.size (isC dk) _ rfl p1.cells Try.underlying93 rfl (unhide HSZ)) rfl (unhide ?_)))
          exact hide ⟨dk, by rw [unhide HT], h6, fun h => rfl, pB⟩
        · have HI2 : Hid (∀ j, j < n + 1 → inB (dk.getD j 0) 0 9 = true) := fun j hj => by
            by_cases e : j = n
            · subst e; exact hv
            · exact unhide HI j (by omega)
          rw [hv] at HW
          clear hv
          generalize dk.getD n 0 = v at *
          go_wp2_with (go_at_call 57; refine (unhide HW _).mono ?_; rintro e w' ⟨rfl, hw'⟩; obtain rfl := hw'.symm)
          go_roundw
          case rel => exact ⟨n + 1, by omega, by first | rfl | go_num, by first | exact rfl | exact trivial, HI2⟩
          case measure => simp [intOf]; omega
end Go.Proofs.Ytkikeapfjpnkgaa.StB

/-
  The program's stores: the last record of each address, made a map; what is asked of it.
-/
namespace Go.Proofs.Ytkikeapfjpnkgaa.StC
open Go.ChangeShapes Go.WideShapes Go.ChangeAt Go.RowKit Go.Shelf OkA Big Fl ImplB ImplF ImplS _root_.Go.Proofs.Ytkikeapfjpnkgaa.Own ImplT ImplU SpecA SpecB SpecC SpecD SpecW SpecF SpecG SpecH Ok2 Pl FindP SpecX ImplL FindN FindL FindV FindQ Kp StA MpA StB
set_option linter.unusedVariables false
set_option linter.unusedSimpArgs false
attribute [local go_sem ↓] Go.wp_at_zero Go.wp_at_succ
section
variable {P : Program} {ops : Array Oper} {rest : List Oper} {o : Oper} {a : Act} {w : World} {Q : Exit → Act → World → Prop}
theorem wpList_upd (hgd : o.guard = none) (t : TypeId) (m x v : Operand) (ho : o.op = .mapUpdate t m x v) (vm vx vv : Value) (hm : a.eval m = vm) (hx : a.eval x = vx) (hv : a.eval v = vv) (w' : World) (hr : (Instr.mapUpdate t vm vx vv).run P w = .ok () w')
    (h : wpList P ops Q rest (a.put o.dst undef) w') : wpList P ops Q (o :: rest) a w := by
  refine wpList_plain hgd fun K hK => ?_
  unfold Oper.wp
  simp [execOp, ho, hm, hx, hv, hr, Result.andThen]
  exact hK _ _ h
theorem wpList_look (hgd : o.guard = none) (t : TypeId) (m x : Operand) (c : Bool) (ho : o.op = .lookup t m x c) (vm vx v : Value) (hm : a.eval m = vm) (hx : a.eval x = vx) (hr : (Instr.lookup t vm vx c).run P w = .ok v w)
    (h : wpList P ops Q rest (a.put o.dst v) w) : wpList P ops Q (o :: rest) a w := by
  refine wpList_plain hgd fun K hK => ?_
  unfold Oper.wp
  simp [execOp, ho, hm, hx, hr, Result.andThen]
  exact hK _ _ h
theorem wpList_mkMap (hgd : o.guard = none) (t : TypeId) (x : Operand) (ho : o.op = .makeMap t (some x)) (n : Int) (hx : a.eval x = .int .i64 n) (k e : TypeId) (ht : P.underlying t = some (.map k e))
    (h : wpList P ops Q rest (a.put o.dst (.map (some w.heap.size))) (w.alloc (.map #[] 0))) : wpList P ops Q (o :: rest) a w := by
  refine wpList_plain hgd fun K hK => ?_
  have hr : (Instr.makeMap t (some (.int .i64 n))).run P w = .ok (.map (some w.heap.size)) (w.alloc (.map #[] 0)) := by
    simp [Instr.makeMap, run_underlying ht, asInt, newObj, go_sem]
    rfl
  unfold Oper.wp
  simp [execOp, ho, hx, hr, Result.andThen]
  exact hK _ _ h
end
theorem wpList_rec_neq {ops : Array Oper} {rest : List Oper} {o : Oper} {a : Act} {w : World} {Q : Exit → Act → World → Prop} (hgd : o.guard = none) (x y : Operand) (ho : o.op = .binOp .neq 25 x y 25) (r : Rc) (hx : a.eval x = .agg (rcC r).toArray)
    (hy : a.eval y = .agg #[.int .i64 0, .int .i64 0, .int .i64 0, .int .i64 0]) (h : wpList Try.prog ops Q rest (a.put o.dst (.bool (!noRc r))) w) : wpList Try.prog ops Q (o :: rest) a w := by
  refine wpList_plain hgd fun K hK => ?_
  have hr : (execOp a.eval o).run Try.prog w = .ok (.value (.bool (!noRc r))) w := by
    unfold execOp
    simp only [ho, hx, hy]
    unfold noRc rcC
    go_simp
    by_cases q1 : r.k = 0 <;> by_cases q2 : r.s = 0 <;> by_cases q3 : r.a = 0 <;> by_cases q4 : r.v = 0 <;> simp [q1, q2, q3, q4]
  unfold Oper.wp
  rw [hr]
  exact hK _ _ h

/-- The last record of each address up to k that has any. -/
def mpK (bs : List Bk) (k : Nat) (j : Int) : Option Rc := if 1 ≤ j ∧ j ≤ (k : Int) ∧ noRc (lastR bs j) = false then some (lastR bs j) else none
def mpF (bs : List Bk) : Int → Option Rc := mpK bs 6
def LePost (w : World) (bs : List Bk) (e : Ending) (w' : World) : Prop := ∃ mb, e = .returned (.map (some mb)) ∧ w.heap.size ≤ mb ∧ MapAt w' mb 6 (mpF bs) ∧ Below w.heap.size w w'

set_option maxRecDepth 100000 in
set_option maxHeartbeats 1000000 in
theorem lastOfEach_any (bs : List Bk) (h4 : bs.length = 4) (hF : Fours bs) (w : World) :
    Calls Try.prog 95 #[.agg (fsC bs).toArray] w fun e w' => LePost w bs e w' := by
  have r1 := rangeAt_below (rangeAt_new w (fsC bs) 75) ((Below.refl (w.alloc (.cells (fsC bs).toArray 75)).heap.size _).alloc (Nat.le_refl _) (.map #[] 0)) (by simp)
  have m1 := MapAt.new (w.alloc (.cells (fsC bs).toArray 75))
  rw [World.size_alloc] at m1
  have B1 : Below w.heap.size w ((w.alloc (.cells (fsC bs).toArray 75)).alloc (.map #[] 0)) := ((Below.refl _ _).alloc (Nat.le_refl _) _).alloc (by simp) _
  have s1 : w.heap.size + 2 ≤ ((w.alloc (.cells (fsC bs).toArray 75)).alloc (.map #[] 0)).heap.size := by simp
  have HSF := hide (size_fsl hF h4)
  have HLA := hide (fun (addr : Int) (w' : World) => callsIn_wide.1 (last_in bs addr h4 hF w'))
  have HM0 : Hid (∀ j, mpK bs 0 j = none) := fun j => by unfold mpK; rw [if_neg (by omega)]
  have HM1 : Hid (∀ (k : Nat) (j : Int), noRc (lastR bs ((k : Int) + 1)) = true → mpK bs (k + 1) j = mpK bs k j) := fun (k : Nat) (j : Int) h => by
    unfold mpK
    by_cases e : j = (k : Int) + 1
    · subst e; rw [if_neg (fun q => by rw [h] at q; cases q.2.2), if_neg (fun q => by omega)]
    · by_cases q : 1 ≤ j ∧ j ≤ (k : Int) ∧ noRc (lastR bs j) = false
      · rw [if_pos q, if_pos ⟨q.1, by omega, q.2.2⟩]
      · rw [if_neg q, if_neg (fun q' => q ⟨q'.1, by omega, q'.2.2⟩)]
  have HM2 : Hid (∀ (k : Nat) (j : Int), noRc (lastR bs ((k : Int) + 1)) = false → mpK bs (k + 1) j = if j = (k : Int) + 1 then some (lastR bs ((k : Int) + 1)) else mpK bs k j) := fun (k : Nat) (j : Int) h => by
    unfold mpK
    by_cases e : j = (k : Int) + 1
    · subst e; rw [if_pos rfl, if_pos ⟨by omega, by omega, h⟩]
    · rw [if_neg e]
      by_cases q : 1 ≤ j ∧ j ≤ (k : Int) ∧ noRc (lastR bs j) = false
      · rw [if_pos q, if_pos ⟨q.1, by omega, q.2.2⟩]
      · rw [if_neg q, if_neg (fun q' => q ⟨q'.1, by omega, q'.2.2⟩)]
  go_enter Try.func95, Try.ntmps95
  go_wp2_with (first | (refine wpList_box_big rfl _ _ rfl (fsC bs).toArray rfl ?_) | (refine wpList_mkMap rfl _ _ rfl 6 rfl 3 25 Try.underlying91 ?_))
  generalize (w.alloc (.cells (fsC bs).toArray 75)).alloc (.map #[] 0) = w1 at *
  go_loopw [4] (fun i w' => ∃ k : Nat, k ≤ 6 ∧ i = .int .i64 ((k : Int) + 1) ∧ w'.rangeAt w.heap.size 0 (fsC bs) ∧ MapAt w' (w.heap.size + 1) k (mpK bs k) ∧ w.heap.size + 2 ≤ w'.heap.size ∧ Below w.heap.size w w') (fun i _ => 7 - (intOf i).toNat)
  case atStart => exact ⟨0, by omega, rfl, r1, m1.ext (unhide HM0), s1, B1⟩
  case round =>
    clear r1 m1 B1 s1
    obtain ⟨k, hk, rfl, rF, mK, hs, hB⟩ := hrel
    by_cases h0 : k = 6
    · subst h0
      go_wp2
      go_ret
      exact ⟨w.heap.size + 1, rfl, by omega, mK, hB⟩
    · have hlt : (k : Int) + 1 ≤ 6 := by omega
      have hlo : (0 : Int) ≤ (k : Int) := by omega
      go_wp2_with (refine wpList_load_mid rfl 75 _ rfl w.heap.size 0 rfl (fsC bs) _ rF Try.underlying75 rfl (unhide HSF) ?_)
      refine (unhide HLA _ _).mono ?_
      rintro e w2 ⟨rfl, b2⟩
      have rF2 := rangeAt_below rF b2 (by omega)
      have mK2 := mK.below b2 (by omega)
      have hB2 := hB.trans (b2.mono hB.size)
      have hs2 := Nat.le_trans hs b2.size
      clear rF mK hB hs b2
      have HM1 := hide (fun j => unhide HM1 k j)
      have HM2 := hide (fun j => unhide HM2 k j)
      generalize lastR bs ((k : Int) + 1) = r at *
      have cX := CsAt.new w2 (rcC r) 25
      have rX := cX.cells
      have HS := hide (SpecL.size_rc r)
      have rF3 := rangeAt_below rF2 ((Below.refl w2.heap.size w2).alloc (Nat.le_refl _) (.cells (rcC r).toArray 25)) (by omega)
      have mK3 := mK2.below ((Below.refl w2.heap.size w2).alloc (Nat.le_refl _) (.cells (rcC r).toArray 25)) (by omega)
      have hB3 := hB2.alloc (by omega) (.cells (rcC r).toArray 25)
      have hs3 : w.heap.size + 2 ≤ (w2.alloc (.cells (rcC r).toArray 25)).heap.size := by simp; omega
      clear rF2 mK2 hB2
      have hz4 : (rcC zRc).toArray.size = (rcC r).toArray.size := rfl
      cases hno : noRc r
      · obtain ⟨w4, hput, mK4, hg⟩ := mK3.put (by omega) (i := (k : Int) + 1) (by omega) (by omega) r
        have mK5 := mK4.ext (fun j => unhide HM2 j hno)
        have hB4 := below_grown hB3 hg (by omega) (by omega)
        have rF4 : w4.rangeAt w.heap.size 0 (fsC bs) := (Kept.of (Below.refl _ _)).grown (L := [w.heap.size + 1]) hg (fun q e => by cases e; exact .inl (by simp)) |>.range rF3 (by omega) (by simp)
        have hs4 := Nat.le_trans hs3 hg.size
        clear mK3 mK4 hg rF3 hB3
        go_wp2_with (first | (refine wpList_alloc_big rfl 25 rfl (rcC zRc).toArray (by kernel_rfl) ?_) | (refine wpList_store_new rfl 25 _ _ rfl w2 (rcC zRc).toArray (rcC r).toArray rfl rfl rfl (SpecL.size_rca r) hz4 (SpecL.one_rc r) ?_) | (refine wpList_load_mid rfl 25 _ rfl w2.heap.size 0 rfl (rcC r) _ rX Try.underlying25 rfl (unhide HS) ?_) | (refine wpList_rec_neq rfl _ _ rfl r rfl rfl ?_; rw [hno]) | (refine wpList_upd rfl _ _ _ _ rfl _ _ _ rfl rfl rfl w4 hput ?_))
        go_roundw
        case rel => exact ⟨k + 1, by omega, by first | rfl | go_num, rF4, mK5, hs4, hB4⟩
        case measure => simp [intOf]; omega
      · have mK5 := (mK3.mono (show k ≤ k + 1 by omega)).ext (fun j => unhide HM1 j hno)
        clear mK3
        go_wp2_with (first | (refine wpList_alloc_big rfl 25 rfl (rcC zRc).toArray (by kernel_rfl) ?_) | (refine wpList_store_new rfl 25 _ _ rfl w2 (rcC zRc).toArray (rcC r).toArray rfl rfl rfl (SpecL.size_rca r) hz4 (SpecL.one_rc r) ?_) | (refine wpList_load_mid rfl 25 _ rfl w2.heap.size 0 rfl (rcC r) _ rX Try.underlying25 rfl (unhide HS) ?_) | (refine wpList_rec_neq rfl _ _ rfl r rfl rfl ?_; rw [hno]))
        go_roundw
        case rel => exact ⟨k + 1, by omega, by first | rfl | go_num, rF3, mK5, hs3, hB3⟩
        case measure => simp [intOf]; omega

/-- A store as it is kept. -/
def skC (ks : List Bk) (mb : Nat) (dk : List Int) : List Value := fsC ks ++ .map (some mb) :: isC dk
theorem sk_len {ks : List Bk} {mb : Nat} {dk : List Int} (h4 : ks.length = 4) (hF : Fours ks) (h : dk.length = 6) : (skC ks mb dk).length = 91 := by rw [skC, List.length_append, List.length_cons, len_isC, h, len_fsC ks hF, h4]
theorem size_sk {ks : List Bk} {mb : Nat} {dk : List Int} (h4 : ks.length = 4) (hF : Fours ks) (h : dk.length = 6) : (Try.prog.info? 95).map (·.size) = some (skC ks mb dk).length := by rw [sk_len h4 hF h]; kernel_rfl
theorem size_ska {ks : List Bk} {mb : Nat} {dk : List Int} (h4 : ks.length = 4) (hF : Fours ks) (h : dk.length = 6) : (Try.prog.info? 95).map (·.size) = some (skC ks mb dk).toArray.size := by rw [List.size_toArray]; exact size_sk h4 hF h
theorem one_skv (ks : List Bk) (mb : Nat) (dk : List Int) : ∀ v ∈ skC ks mb dk, v.oneCell' = true := fun v hv => by
  rcases List.mem_append.1 hv with h | h
  · exact one_fsC ks v h
  · rcases List.mem_cons.1 h with rfl | h
    · rfl
    · exact one_isC dk v h
theorem one_sk (ks : List Bk) (mb : Nat) (dk : List Int) : (skC ks mb dk).toArray.all (·.oneCell') = true := all_oneCell_toArray (one_skv ks mb dk)
theorem sk_map {ks : List Bk} {mb : Nat} {dk : List Int} (h4 : ks.length = 4) (hF : Fours ks) : (skC ks mb dk)[84]? = some (.map (some mb)) := by
  have hl : (fsC ks).length = 84 := by rw [len_fsC ks hF, h4]
  rw [skC, List.getElem?_append_right (by omega), hl]; rfl
theorem sk_flash {w : World} {S mb : Nat} {ks : List Bk} {dk : List Int} (h : w.rangeAt S 0 (skC ks mb dk)) : w.rangeAt S 0 (fsC ks) := fun j v hv => by
  obtain ⟨hj, _⟩ := List.getElem?_eq_some_iff.1 hv
  exact h j v (by rw [skC, List.getElem?_append_left hj]; exact hv)
theorem sk_diskR {w : World} {S mb : Nat} {ks : List Bk} {dk : List Int} (h4 : ks.length = 4) (hF : Fours ks) (h : w.rangeAt S 0 (skC ks mb dk)) : w.rangeAt S 85 (isC dk) := fun j v hv => by
  have hl : (fsC ks).length = 84 := by rw [len_fsC ks hF, h4]
  have := h (85 + j) v (by rw [skC, List.getElem?_append_right (by omega), hl, show 85 + j - 84 = j + 1 by omega]; exact hv)
  rwa [Nat.zero_add] at this
/-- The value of an address, of a map and the slow disk. -/
def mpV (f : Int → Option Rc) (dk : List Int) (addr : Int) : Int := if (f addr).isSome then ((f addr).getD zRc).v else dkV dk addr

theorem here : True := trivial
end Go.Proofs.Ytkikeapfjpnkgaa.StC

/-
  The program's stores: which addresses' last records are dirty, or clean; whether the slow disk has what is clean.
-/
namespace Go.Proofs.Ytkikeapfjpnkgaa.StD
open Go.ChangeShapes Go.WideShapes Go.ChangeAt Go.RowKit Go.Shelf OkA Big Fl ImplB ImplF ImplS _root_.Go.Proofs.Ytkikeapfjpnkgaa.Own ImplT ImplU SpecA SpecB SpecC SpecD SpecW SpecF SpecG SpecH Ok2 Pl FindP SpecX ImplL FindN FindL FindV FindQ Kp StA MpA StB StC
set_option linter.unusedVariables false
set_option linter.unusedSimpArgs false
attribute [local go_sem ↓] Go.wp_at_zero Go.wp_at_succ

/-! A row of numbers that grows. -/
structure Rw (w : World) (lo : Nat) (v : Value) (l : List Int) : Prop where
  row : w.ownsRow lo 3 1 v l.length (isC l)
  lt : ∀ g, v.ownBlock = some g → lo ≤ g ∧ g < w.heap.size
theorem made_int : (Try.prog.info? 3).map (fun i => (i.zero, i.size, i.bytes)) = some (some (.int .i64 0), 1, 8) := by kernel_rfl
theorem infoI : ∃ i, Try.prog.info? 3 = some i ∧ i.zero = some (.int .i64 0) ∧ i.size = 1 ∧ i.bytes = 8 := by
  have h := made_int
  cases hq : Try.prog.info? 3 with
  | none => rw [hq] at h; cases h
  | some i => rw [hq] at h; simp at h; exact ⟨i, rfl, h.1, h.2.1, h.2.2⟩
theorem Rw.below {w w' : World} {lo : Nat} {v : Value} {l : List Int} (h : Rw w lo v l) {B : Nat} (hb : Below B w w') (hB : w.heap.size ≤ B) : Rw w' lo v l :=
  ⟨ownsRow_below h.row hb (fun g hg => Nat.lt_of_lt_of_le (h.lt g hg).2 hB), fun g hg => ⟨(h.lt g hg).1, Nat.lt_of_lt_of_le (h.lt g hg).2 hb.size⟩⟩
theorem Rw.nil (w : World) (lo : Nat) : Rw w lo (.slice none 0 0) [] :=
  ⟨⟨by simp [maxLen, isC], .inl ⟨rfl, rfl⟩⟩, fun g hg => by simp [Value.ownBlock] at hg⟩
theorem Rw.nil' (w : World) (lo : Nat) (hl : lo ≤ w.heap.size) : Rw (w.alloc (.cells #[] 3)) lo (.slice (some ⟨w.heap.size, 0, none⟩) 0 0) [] :=
  ⟨World.ownsRow_lit w #[] 0 hl (by simp [maxLen]) rfl, fun g hg => by simp [Value.ownBlock] at hg; subst hg; exact ⟨hl, by simp⟩⟩
theorem Rw.mono {w : World} {lo lo' : Nat} {v : Value} {l : List Int} (h : Rw w lo v l) (hl : lo' ≤ lo) : Rw w lo' v l := by
  refine ⟨?_, fun g hg => ⟨Nat.le_trans hl (h.lt g hg).1, (h.lt g hg).2⟩⟩
  obtain ⟨h1, h2⟩ := h.row
  refine ⟨h1, ?_⟩
  rcases h2 with h2 | ⟨g, cap, cur, e, hb, r⟩
  · exact .inl h2
  · exact .inr ⟨g, cap, cur, e, Nat.le_trans hl hb, r⟩
theorem isC_one (l : List Int) (x : Int) : isC (l ++ [x]) = isC l ++ [.int .i64 x] := by simp [isC]
theorem Rw.push {w w' : World} {lo : Nat} {v v' : Value} {l : List Int} {x : Int} (h : Rw w lo v l) (hlo : lo ≤ w.heap.size) (ho : w'.ownsRow lo 3 1 v' (l.length + 1) (isC l ++ [.int .i64 x])) (hg : w.grownBy w' v.ownBlock) : Rw w' lo v' (l ++ [x]) ∧ Below lo w w' := by
  refine ⟨⟨by rw [isC_one, List.length_append]; exact ho, fun g e => ?_⟩, (Below.refl _ _).grown hg hlo (fun k e => (h.lt k e).1)⟩
  obtain ⟨_, h2⟩ := ho
  rcases h2 with ⟨_, h2⟩ | ⟨g', cap, cur, rfl, hb, hh, _⟩
  · omega
  · simp [Value.ownBlock] at e
    subst e
    refine ⟨hb, ?_⟩
    by_cases hlt : g' < w'.heap.size
    · exact hlt
    · have : w'.heap[g']? = none := by simp; omega
      rw [this] at hh; cases hh
/-- The row as a slice. -/
theorem Rw.form {w : World} {lo : Nat} {v : Value} {l : List Int} (h : Rw w lo v l) : ∃ a cap, v = .slice a l.length cap ∧ DkAt w a l := by
  obtain ⟨h1, h2⟩ := h.row
  rcases h2 with ⟨rfl, h2⟩ | ⟨g, cap, cur, rfl, hb, hh, r⟩
  · have : l = [] := by cases l; rfl; simp at h2
    subst this
    exact ⟨none, 0, rfl, .inl rfl⟩
  · by_cases hl : l.length = 0
    · exact ⟨_, cap, rfl, .inl (List.length_eq_zero_iff.1 hl)⟩
    · exact ⟨_, cap, rfl, .inr ⟨g, 0, rfl, (row_pages (by omega) h.row).1⟩⟩

/-- A list of numbers in new memory: empty, or a row of its own. -/
def NewIs (w : World) (lo : Nat) (v : Value) (l : List Int) : Prop := (l = [] ∧ ∃ a c, v = .slice a 0 c) ∨ ∃ g cap, v = .slice (some ⟨g, 0, none⟩) l.length cap ∧ lo ≤ g ∧ g < w.heap.size ∧ CsAt w g (isC l)
theorem NewIs.form {w : World} {lo : Nat} {v : Value} {l : List Int} (h : NewIs w lo v l) : ∃ a cap, v = .slice a l.length cap ∧ DkAt w a l := by
  rcases h with ⟨rfl, a, c, rfl⟩ | ⟨g, cap, rfl, _, _, h⟩
  · exact ⟨a, c, rfl, .inl rfl⟩
  · exact ⟨_, cap, rfl, .inr ⟨g, 0, rfl, h.cells⟩⟩
theorem NewIs.below {w w' : World} {lo : Nat} {v : Value} {l : List Int} (h : NewIs w lo v l) {B : Nat} (hb : Below B w w') (hB : w.heap.size ≤ B) : NewIs w' lo v l := by
  rcases h with h | ⟨g, cap, rfl, h1, h2, h⟩
  · exact .inl h
  · exact .inr ⟨g, cap, rfl, h1, Nat.lt_of_lt_of_le h2 hb.size, h.below hb (by omega)⟩
theorem Rw.new {w : World} {lo : Nat} {v : Value} {l : List Int} (h : Rw w lo v l) : NewIs w lo v l := by
  by_cases hl : l = []
  · subst hl
    obtain ⟨a, cap, e, _⟩ := h.form
    exact .inl ⟨rfl, a, cap, e⟩
  · have hp : 0 < l.length := List.length_pos_iff.2 hl
    have hr := h.row
    obtain ⟨h1, h2⟩ := h.row
    rcases h2 with ⟨rfl, h2⟩ | ⟨g, cap, cur, rfl, hb, hh, r⟩
    · omega
    · have := row_pages hp hr
      exact .inr ⟨g, cap, rfl, hb, (h.lt g rfl).2, this.1, by rw [len_isC]; simpa using this.2⟩
def IsPost (w : World) (l : List Int) (e : Ending) (w' : World) : Prop := ∃ v, e = .returned v ∧ NewIs w' w.heap.size v l ∧ Below w.heap.size w w'

/-- Of the first k addresses those whose record that is told. -/
def whK (t : Rc → Bool) (f : Int → Option Rc) (k : Nat) : List Int := ((List.range k).map fun i => ((i : Nat) : Int) + 1).filter fun i => t ((f i).getD zRc)
theorem whK_succ (t : Rc → Bool) (f : Int → Option Rc) (k : Nat) : whK t f (k + 1) = whK t f k ++ (if t ((f ((k : Int) + 1)).getD zRc) then [(k : Int) + 1] else []) := by
  unfold whK
  rw [List.range_succ, List.map_append, List.filter_append]
  congr 1
  simp only [List.map_cons, List.map_nil, List.filter_cons, List.filter_nil]
theorem whK_len (t : Rc → Bool) (f : Int → Option Rc) (k : Nat) : (whK t f k).length ≤ k := by
  unfold whK
  exact Nat.le_trans (List.length_filter_le _ _) (by simp)
theorem whK_mem {t : Rc → Bool} {f : Int → Option Rc} {k : Nat} {x : Int} : x ∈ whK t f k ↔ (1 ≤ x ∧ x ≤ k) ∧ t ((f x).getD zRc) = true := by
  unfold whK
  rw [List.mem_filter, List.mem_map]
  constructor
  · rintro ⟨⟨i, hi, rfl⟩, h⟩
    simp at hi
    exact ⟨by omega, h⟩
  · rintro ⟨⟨h1, h2⟩, h⟩
    exact ⟨⟨(x - 1).toNat, by simp; omega, by omega⟩, h⟩
def WhPost (w : World) (l : List Int) (e : Ending) (w' : World) : Prop := ∃ v, e = .returned v ∧ Rw w' w.heap.size v l ∧ Below w.heap.size w w'

/-- Which kind a record is of. -/
def kindD (r : Rc) : Bool := r.k == 1
def kindC (r : Rc) : Bool := r.k == 2

set_option maxRecDepth 100000 in
set_option maxHeartbeats 1000000 in
theorem whoseD_any (ks : List Bk) (hk4 : ks.length = 4) (hkF : Fours ks) (mb n : Nat) (f : Int → Option Rc) (dk : List Int) (h6 : dk.length = 6) (w : World) (hM : MapAt w mb n f) :
    Calls Try.prog 113 #[.agg (skC ks mb dk).toArray, .func (.func 116) #[] #[]] w fun e w' => WhPost w (whK kindD f 6) e w' := by
  have ht : ∀ (r : Rc) (w : World), Calls Try.prog 116 #[.agg (rcC r).toArray] w fun e w' => e = .returned (.bool (kindD r)) ∧ Below w.heap.size w w' := rdirty_any
  generalize kindD = t at *
  have cS := CsAt.new w (skC ks mb dk) 95
  have B0 : Below w.heap.size w (w.alloc (.cells (skC ks mb dk).toArray 95)) := (Below.refl _ _).alloc (Nat.le_refl _) _
  have s0 : w.heap.size + 1 ≤ (w.alloc (.cells (skC ks mb dk).toArray 95)).heap.size := by simp
  have hM2 := hM.below B0 hM.lt
  have hml := hM.lt
  have HT := hide ht
  obtain ⟨iI, hiI, hzI, hsI, hbI⟩ := infoI
  have HI := hide hiI
  clear hM ht hiI
  have HW0 : Hid (whK t f 0 = []) := rfl
  go_enter Try.func113, Try.ntmps113
  go_wp2_with (refine wpList_box_big rfl _ _ rfl (skC ks mb dk).toArray rfl ?_)
  generalize w.alloc (.cells (skC ks mb dk).toArray 95) = w1 at *
  go_loopw [5, 6] (fun v i w' => ∃ k : Nat, k ≤ 6 ∧ i = .int .i64 ((k : Int) + 1) ∧ Rw w' (w.heap.size + 1) v (whK t f k) ∧ CsAt w' w.heap.size (skC ks mb dk) ∧ MapAt w' mb n f ∧ w.heap.size + 1 ≤ w'.heap.size ∧ Below w.heap.size w w') (fun _ i _ => 7 - (intOf i).toNat)
  case atStart => exact ⟨0, by omega, rfl, Rw.nil _ _, cS, hM2, s0, B0⟩
  case round =>
    clear cS hM2 s0 B0
    obtain ⟨k, hk, rfl, hR, hC, hM, hs, hB⟩ := hrel
    by_cases h0 : k = 6
    · subst h0
      go_wp2
      go_ret
      exact ⟨_, rfl, hR.mono (by omega), hB⟩
    · have hlt : (k : Int) + 1 ≤ 6 := by omega
      have hlo : (0 : Int) ≤ (k : Int) := by omega
      have hlk := hM.look (i := (k : Int) + 1) (by omega) (by omega)
      have x0 := hC.cell 84 _ (sk_map hk4 hkF)
      have HWS := hide (whK_succ t f k)
      have HWL := hide (whK_len t f k)
      generalize (f ((k : Int) + 1)).getD zRc = r at *
      go_wp2_with (refine wpList_look rfl _ _ _ false rfl _ _ _ rfl rfl hlk ?_)
      refine (unhide HT r _).mono ?_
      rintro e w2 ⟨rfl, b2⟩
      have hR2 := hR.below b2 (Nat.le_refl _)
      have hC2 := hC.below b2 (by omega)
      have hM2 := hM.below b2 (by omega)
      have hB2 := hB.trans (b2.mono hB.size)
      have hs2 := Nat.le_trans hs b2.size
      clear hR hC hM hB hs b2 hlk x0
      cases hz : t r
      · have HE : Hid (whK t f (k + 1) = whK t f k) := by show _ = _; rw [unhide HWS, hz]; simp
        go_wp2
        go_roundw
        case rel => exact ⟨k + 1, by omega, by first | rfl | go_num, by rw [unhide HE]; exact hR2, hC2, hM2, hs2, hB2⟩
        case measure => simp [intOf]; omega
      · have HE : Hid (whK t f (k + 1) = whK t f k ++ [(k : Int) + 1]) := by show _ = _; rw [unhide HWS, hz]; rfl
        generalize whK t f k = L at *
        have hnw : ∀ j u, [Value.int .i64 ((k : Int) + 1)][j]? = some u → (w2.alloc (.cells #[.int .i64 ((k : Int) + 1)] 3)).cell? ((⟨w2.heap.size, 0, none⟩ : Addr).add j) = some u := src_mid (rangeAt_new w2 [.int .i64 ((k : Int) + 1)] 3)
        have bA : Below w2.heap.size w2 (w2.alloc (.cells #[.int .i64 ((k : Int) + 1)] 3)) := (Below.refl _ _).alloc (Nat.le_refl _) _
        have hR3 := hR2.below bA (Nat.le_refl _)
        have hC3 := hC2.below bA (by omega)
        have hM3 := hM2.below bA (by omega)
        have hB3 := hB2.trans (bA.mono (by omega))
        have hs3 := Nat.le_trans hs2 bA.size
        have hrow := hR3.row
        have hone : ∀ u ∈ [Value.int .i64 ((k : Int) + 1)], u.oneCell' = true := fun u hu => by simp at hu; subst hu; rfl
        clear hR2 hC2 hM2 hB2 hs2 bA
        go_upto_region 4 with (refine wpList_append_own _ rfl _ _ 47 rfl (w.heap.size + 1) 3 iI (.int .i64 0) 1 8 Try.underlying47 (unhide HI) hzI hsI hbI rfl (by omega) _ L.length (isC L) rfl hrow ⟨w2.heap.size, 0, none⟩ 1 1 [.int .i64 ((k : Int) + 1)] rfl rfl hnw hone (by have := unhide HWL; simp [maxLen]; omega) (by have := unhide HWL; omega) (by omega) ?_; intro v' w7 ho7 hg7 _)
        obtain ⟨hR7, b7⟩ := hR3.push (x := (k : Int) + 1) (by omega) ho7 hg7
        have hC7 := hC3.below b7 (by omega)
        have hM7 := hM3.below b7 (by omega)
        have hB7 := hB3.trans (b7.mono (by omega))
        have hs7 := Nat.le_trans hs3 b7.size
        rw [← unhide HE] at hR7
        clear hR3 hC3 hM3 hB3 hs3 ho7 hg7 b7 hrow hnw
        generalize w2.alloc (.cells #[.int .i64 ((k : Int) + 1)] 3) = w3 at *
        go_wp2
        go_roundw
        case rel => exact ⟨k + 1, by omega, by first | rfl | go_num, hR7, hC7, hM7, hs7, hB7⟩
        case measure => simp [intOf]; omega
set_option maxRecDepth 100000 in
set_option maxHeartbeats 1000000 in
theorem whoseC_any (ks : List Bk) (hk4 : ks.length = 4) (hkF : Fours ks) (mb n : Nat) (f : Int → Option Rc) (dk : List Int) (h6 : dk.length = 6) (w : World) (hM : MapAt w mb n f) :
    Calls Try.prog 113 #[.agg (skC ks mb dk).toArray, .func (.func 114) #[] #[]] w fun e w' => WhPost w (whK kindC f 6) e w' := by
  have ht : ∀ (r : Rc) (w : World), Calls Try.prog 114 #[.agg (rcC r).toArray] w fun e w' => e = .returned (.bool (kindC r)) ∧ Below w.heap.size w w' := rclean_any
  generalize kindC = t at *
  have cS := CsAt.new w (skC ks mb dk) 95
  have B0 : Below w.heap.size w (w.alloc (.cells (skC ks mb dk).toArray 95)) := (Below.refl _ _).alloc (Nat.le_refl _) _
  have s0 : w.heap.size + 1 ≤ (w.alloc (.cells (skC ks mb dk).toArray 95)).heap.size := by simp
  have hM2 := hM.below B0 hM.lt
  have hml := hM.lt
  have HT := hide ht
  obtain ⟨iI, hiI, hzI, hsI, hbI⟩ := infoI
  have HI := hide hiI
  clear hM ht hiI
  have HW0 : Hid (whK t f 0 = []) := rfl
  go_enter Try.func113, Try.ntmps113
  go_wp2_with (refine wpList_box_big rfl _ _ rfl (skC ks mb dk).toArray rfl ?_)
  generalize w.alloc (.cells (skC ks mb dk).toArray 95) = w1 at *
  go_loopw [5, 6] (fun v i w' => ∃ k : Nat, k ≤ 6 ∧ i = .int .i64 ((k : Int) + 1) ∧ Rw w' (w.heap.size + 1) v (whK t f k) ∧ CsAt w' w.heap.size (skC ks mb dk) ∧ MapAt w' mb n f ∧ w.heap.size + 1 ≤ w'.heap.size ∧ Below w.heap.size w w') (fun _ i _ => 7 - (intOf i).toNat)
  case atStart => exact ⟨0, by omega, rfl, Rw.nil _ _, cS, hM2, s0, B0⟩
  case round =>
    clear cS hM2 s0 B0
    obtain ⟨k, hk, rfl, hR, hC, hM, hs, hB⟩ := hrel
    by_cases h0 : k = 6
    · subst h0
      go_wp2
      go_ret
      exact ⟨_, rfl, hR.mono (by omega), hB⟩
    · have hlt : (k : Int) + 1 ≤ 6 := by omega
      have hlo : (0 : Int) ≤ (k : Int) := by omega
      have hlk := hM.look (i := (k : Int) + 1) (by omega) (by omega)
      have x0 := hC.cell 84 _ (sk_map hk4 hkF)
      have HWS := hide (whK_succ t f k)
      have HWL := hide (whK_len t f k)
      generalize (f ((k : Int) + 1)).getD zRc = r at *
      go_wp2_with (refine wpList_look rfl _ _ _ false rfl _ _ _ rfl rfl hlk ?_)
      refine (unhide HT r _).mono ?_
      rintro e w2 ⟨rfl, b2⟩
      have hR2 := hR.below b2 (Nat.le_refl _)
      have hC2 := hC.below b2 (by omega)
      have hM2 := hM.below b2 (by omega)
      have hB2 := hB.trans (b2.mono hB.size)
      have hs2 := Nat.le_trans hs b2.size
      clear hR hC hM hB hs b2 hlk x0
      cases hz : t r
      · have HE : Hid (whK t f (k + 1) = whK t f k) := by show _ = _; rw [unhide HWS, hz]; simp
        go_wp2
        go_roundw
        case rel => exact ⟨k + 1, by omega, by first | rfl | go_num, by rw [unhide HE]; exact hR2, hC2, hM2, hs2, hB2⟩
        case measure => simp [intOf]; omega
      · have HE : Hid (whK t f (k + 1) = whK t f k ++ [(k : Int) + 1]) := by show _ = _; rw [unhide HWS, hz]; rfl
        generalize whK t f k = L at *
        have hnw : ∀ j u, [Value.int .i64 ((k : Int) + 1)][j]? = some u → (w2.alloc (.cells #[.int .i64 ((k : Int) + 1)] 3)).cell? ((⟨w2.heap.size, 0, none⟩ : Addr).add j) = some u := src_mid (rangeAt_new w2 [.int .i64 ((k : Int) + 1)] 3)
        have bA : Below w2.heap.size w2 (w2.alloc (.cells #[.int .i64 ((k : Int) + 1)] 3)) := (Below.refl _ _).alloc (Nat.le_refl _) _
        have hR3 := hR2.below bA (Nat.le_refl _)
        have hC3 := hC2.below bA (by omega)
        have hM3 := hM2.below bA (by omega)
        have hB3 := hB2.trans (bA.mono (by omega))
        have hs3 := Nat.le_trans hs2 bA.size
        have hrow := hR3.row
        have hone : ∀ u ∈ [Value.int .i64 ((k : Int) + 1)], u.oneCell' = true := fun u hu => by simp at hu; subst hu; rfl
        clear hR2 hC2 hM2 hB2 hs2 bA
        go_upto_region 4 with (refine wpList_append_own _ rfl _ _ 47 rfl (w.heap.size + 1) 3 iI (.int .i64 0) 1 8 Try.underlying47 (unhide HI) hzI hsI hbI rfl (by omega) _ L.length (isC L) rfl hrow ⟨w2.heap.size, 0, none⟩ 1 1 [.int .i64 ((k : Int) + 1)] rfl rfl hnw hone (by have := unhide HWL; simp [maxLen]; omega) (by have := unhide HWL; omega) (by omega) ?_; intro v' w7 ho7 hg7 _)
        obtain ⟨hR7, b7⟩ := hR3.push (x := (k : Int) + 1) (by omega) ho7 hg7
        have hC7 := hC3.below b7 (by omega)
        have hM7 := hM3.below b7 (by omega)
        have hB7 := hB3.trans (b7.mono (by omega))
        have hs7 := Nat.le_trans hs3 b7.size
        rw [← unhide HE] at hR7
        clear hR3 hC3 hM3 hB3 hs3 ho7 hg7 b7 hrow hnw
        generalize w2.alloc (.cells #[.int .i64 ((k : Int) + 1)] 3) = w3 at *
        go_wp2
        go_roundw
        case rel => exact ⟨k + 1, by omega, by first | rfl | go_num, hR7, hC7, hM7, hs7, hB7⟩
        case measure => simp [intOf]; omega
end Go.Proofs.Ytkikeapfjpnkgaa.StD

/-
  The program's stores as they are kept: whether the slow disk has what is clean; the whole store, if it is ok.
-/
namespace Go.Proofs.Ytkikeapfjpnkgaa.StE
open Go.ChangeShapes Go.WideShapes Go.ChangeAt Go.RowKit Go.Shelf OkA Big Fl ImplB ImplF ImplS _root_.Go.Proofs.Ytkikeapfjpnkgaa.Own ImplT ImplU SpecA SpecB SpecC SpecD SpecW SpecF SpecG SpecH Ok2 Pl FindP ImplO SpecX ImplW ImplL FindN FindL FindV FindQ Kp StA MpA StB StC StD
set_option linter.unusedVariables false
set_option linter.unusedSimpArgs false
attribute [local go_sem ↓] Go.wp_at_zero Go.wp_at_succ

theorem field_rec (r : Rc) (w : World) : (Instr.field 25 (.agg (rcC r).toArray) 3).run Try.prog w = .ok (.int .i64 r.v) w := by
  have hagg : (isAgg 3).run Try.prog w = .ok false w := by
    unfold isAgg
    rw [Sem.run_bind, run_underlying Try.underlying3 w]
    rfl
  have hsz : (Try.prog.info? 3).map (·.size) = some 1 := by kernel_rfl
  cases hq : Try.prog.info? 3 with
  | none => simp [hq] at hsz
  | some j =>
    have hj : j.size = 1 := by simpa [hq] using hsz
    simp [Instr.field, run_underlying Try.underlying25, part, asAgg, hagg, sizeOf, typeInfo, hq, hj, rcC]
/-- The slow disk has what is clean. -/
def hcB (f : Int → Option Rc) (dk : List Int) : Bool := (whK kindC f 6).all fun a => dkV dk a == ((f a).getD zRc).v
set_option maxRecDepth 100000 in
set_option maxHeartbeats 1000000 in
theorem hasClean_any (ks : List Bk) (hk4 : ks.length = 4) (hkF : Fours ks) (mb n : Nat) (f : Int → Option Rc) (dk : List Int) (h6 : dk.length = 6) (w : World) (hM : MapAt w mb n f) :
    Calls Try.prog 96 #[.agg (skC ks mb dk).toArray] w fun e w' => e = .returned (.bool (hcB f dk)) ∧ Below w.heap.size w w' := by
  have cS := CsAt.new w (skC ks mb dk) 95
  have rS := cS.cells
  have B0 : Below w.heap.size w (w.alloc (.cells (skC ks mb dk).toArray 95)) := (Below.refl _ _).alloc (Nat.le_refl _) _
  have s0 : w.heap.size + 1 ≤ (w.alloc (.cells (skC ks mb dk).toArray 95)).heap.size := by simp
  have hM2 := hM.below B0 hM.lt
  have hml := hM.lt
  have HR : Hid (hcB f dk = (whK kindC f 6).all fun a => dkV dk a == ((f a).getD zRc).v) := rfl
  have HS := hide (size_sk (mb := mb) hk4 hkF h6)
  have HSD := hide (size_dk h6)
  have HL6 : Hid ((whK kindC f 6).length ≤ 6) := whK_len _ _ _
  have HMEM : Hid (∀ x ∈ whK kindC f 6, 1 ≤ x ∧ x ≤ 6) := fun x hx => by have := (whK_mem.1 hx).1; omega
  have HWH := hide (fun (w' : World) (h : MapAt w' mb n f) => whoseC_any ks hk4 hkF mb n f dk h6 w' h)
  have HDO := hide (fun (addr : Int) (h1 : 1 ≤ addr) (h2 : addr ≤ 6) (w' : World) => dof_any dk h6 addr h1 h2 w')
  generalize hcB f dk = R at *
  clear hM
  go_enter Try.func96, Try.ntmps96
  go_wp2_with (first | (refine wpList_box_big rfl _ _ rfl (skC ks mb dk).toArray rfl ?_) | (refine wpList_load_mid rfl 95 _ rfl w.heap.size 0 rfl (skC ks mb dk) _ rS Try.underlying95 rfl (unhide HS) ?_))
  generalize w.alloc (.cells (skC ks mb dk).toArray 95) = w1 at *
  refine (unhide HWH _ hM2).mono ?_
  rintro e w2 ⟨v, rfl, hRw, b2⟩
  obtain ⟨a, cap, rfl, hA⟩ := hRw.form
  have cS2 := cS.below b2 (by omega)
  have hM3 := hM2.below b2 (by omega)
  have B2 := B0.trans (b2.mono B0.size)
  have s2 := Nat.le_trans s0 b2.size
  clear cS rS hM2 B0 s0 b2 hRw HWH
  generalize whK kindC f 6 = L at *
  have hL6 := unhide HL6
  have hL6i : (L.length : Int) ≤ 6 := by omega
  go_wp2
  go_loopw [8] (fun i w' => ∃ k : Nat, k ≤ L.length ∧ i = .int .i64 k ∧ Hid (∀ j (hj : j < L.length), j < k → (dkV dk L[j] == ((f L[j]).getD zRc).v) = true) ∧ Hid (DkAt w' a L) ∧ CsAt w' w.heap.size (skC ks mb dk) ∧ MapAt w' mb n f ∧ w.heap.size + 1 ≤ w'.heap.size ∧ Below w.heap.size w w') (fun i _ => L.length - (intOf i).toNat)
  case atStart => exact ⟨0, by omega, rfl, (fun j hj h => by omega), hA, cS2, hM3, s2, B2⟩
  case round =>
    clear hA cS2 hM3 s2 B2
    obtain ⟨k, hk, rfl, HI, HA, hC, hM, hs, hB⟩ := hrel
    by_cases h0 : k = L.length
    · subst h0
      have HT : Hid (R = true) := by
        show _ = _
        rw [unhide HR, List.all_eq_true]
        intro x hx
        obtain ⟨j, hj, rfl⟩ := List.getElem_of_mem hx
        exact unhide HI j hj hj
      go_wp2
      go_ret
      exact ⟨by rw [unhide HT]; rfl, hB⟩
    · have hkb : k < L.length := by omega
      have hlt : (k : Int) < (L.length : Int) := by omega
      have hlo : (0 : Int) ≤ (k : Int) := by omega
      obtain ⟨ab, ao, rfl, hr⟩ : ∃ b o, a = some ⟨b, o, none⟩ ∧ wr.rangeAt b o (isC L) := by
        rcases unhide HA with rfl | h
        · simp at hkb
        · exact h
      have xk := isC_at hr k hkb
      have eG : L.getD k 0 = L[k] := by rw [List.getD_eq_getElem?_getD, List.getElem?_eq_getElem hkb]; rfl
      rw [eG] at xk
      have hx := unhide HMEM L[k] (List.getElem_mem hkb)
      have HIN : Hid (∀ b, (dkV dk L[k] == ((f L[k]).getD zRc).v) = b → (b = true → ∀ j (hj : j < L.length), j < k + 1 → (dkV dk L[j] == ((f L[j]).getD zRc).v) = true) ∧ (b = false → R = false)) := fun b hb => ⟨fun e j hj h => by
          by_cases q : j = k
          · subst q; rw [hb]; exact e
          · exact unhide HI j hj (by omega), fun e => by
          rw [unhide HR]
          cases q : L.all fun a => dkV dk a == ((f a).getD zRc).v
          · rfl
          · rw [List.all_eq_true] at q
            have := q L[k] (List.getElem_mem hkb)
            rw [hb, e] at this; cases this⟩
      clear eG hr
      generalize L[k] = ad at *
      have HLK := hide (fun (w' : World) (h : MapAt w' mb n f) => h.look (i := ad) (by omega) (by omega))
      have HDF := hide (fun (w' : World) => unhide HDO ad hx.1 hx.2 w')
      generalize (f ad).getD zRc = r at *
      generalize dkV dk ad = d at *
      go_wp2
      refine wp_region_noPanic ?_
      refine wp_region_held_drew (S := fun w' => CsAt w' w.heap.size (skC ks mb dk) ∧ MapAt w' mb n f) (by kernel_rfl) (⟨⟨fun j v hv => hC.cells j v hv, fun j hj => hC.free j hj⟩, hM⟩) (fun hHeld => ?_)
      refine takeL 0 (.pointer (some ⟨w.heap.size, 85, none⟩)) rfl (by kernel_rfl) (by kernel_rfl) (by kernel_rfl) (fun _ _ _ h => h) (Or.inl ⟨rfl, fun w9 hSw => by go_simp⟩) hHeld ?_
      try simp only [Act.put, List.setIfInBounds_toArray, List.set_cons_zero, List.set_cons_succ]
      refine takeL 1 (_) rfl (by kernel_rfl) (by kernel_rfl) (by kernel_rfl) (fun _ _ _ h => h) (yieldsIf_load_mid rfl 93 _ rfl w.heap.size 85 rfl (isC dk) _ (fun _ h => sk_diskR hk4 hkF h.1.cells) Try.underlying93 rfl (unhide HSD)) hHeld ?_
      try simp only [Act.put, List.setIfInBounds_toArray, List.set_cons_zero, List.set_cons_succ]
      refine takeL 2 (.int .i64 ad) rfl (by kernel_rfl) (by kernel_rfl) (by kernel_rfl) (fun _ _ _ h => h) (Or.inl ⟨rfl, fun _ _ => rfl⟩) hHeld ?_
      try simp only [Act.put, List.setIfInBounds_toArray, List.set_cons_zero, List.set_cons_succ]
      refine takeL 4 (.pointer (some ⟨w.heap.size, 84, none⟩)) rfl (by kernel_rfl) (by kernel_rfl) (by kernel_rfl) (fun _ _ _ h => h) (Or.inl ⟨rfl, fun w9 hSw => by go_simp⟩) hHeld ?_
      try simp only [Act.put, List.setIfInBounds_toArray, List.set_cons_zero, List.set_cons_succ]
      refine takeL 5 (.map (some mb)) rfl (by kernel_rfl) (by kernel_rfl) (by kernel_rfl) (fun _ _ _ h => h) (Or.inl ⟨rfl, fun w9 hSw => by have hc := hSw.1.cell 84 _ (sk_map hk4 hkF); go_simp⟩) hHeld ?_
      try simp only [Act.put, List.setIfInBounds_toArray, List.set_cons_zero, List.set_cons_succ]
      refine takeL 6 (.int .i64 ad) rfl (by kernel_rfl) (by kernel_rfl) (by kernel_rfl) (fun _ _ _ h => h) (Or.inl ⟨rfl, fun _ _ => rfl⟩) hHeld ?_
      try simp only [Act.put, List.setIfInBounds_toArray, List.set_cons_zero, List.set_cons_succ]
      refine takeL 7 (.agg (rcC r).toArray) rfl (by kernel_rfl) (by kernel_rfl) (by kernel_rfl) (fun _ _ _ h => h) (Or.inl ⟨rfl, fun w9 hSw => by have hl := unhide HLK w9 hSw.2; go_simp⟩) hHeld ?_
      try simp only [Act.put, List.setIfInBounds_toArray, List.set_cons_zero, List.set_cons_succ]
      refine takeL 8 (.int .i64 r.v) rfl (by kernel_rfl) (by kernel_rfl) (by kernel_rfl) (fun _ _ _ h => h) (Or.inl ⟨rfl, fun w9 hSw => by have hf := field_rec r w9; go_simp⟩) hHeld ?_
      try simp only [Act.put, List.setIfInBounds_toArray, List.set_cons_zero, List.set_cons_succ]
      refine oneL 3 rfl (by kernel_rfl) rfl (fun K hK => ?_)
      go_simp
      refine (unhide HDF _).mono ?_
      rintro e wz ⟨rfl, bz⟩
      go_wp2_with fail
      refine hK.out _ _ ⟨hHeld.1.below bz (by show _ < wr.heap.size; omega), hHeld.2.below bz hHeld.2.lt⟩ (fun hHeld => ?_)
      clear hK K
      try simp only [Act.put, List.setIfInBounds_toArray, List.set_cons_zero, List.set_cons_succ]
      refine takeL 9 (.bool (d != r.v)) rfl (by kernel_rfl) (by kernel_rfl) (by kernel_rfl) (fun _ _ _ h => h) (Or.inl ⟨rfl, fun w9 hSw => by go_simp⟩) hHeld ?_
      try simp only [Act.put, List.setIfInBounds_toArray, List.set_cons_zero, List.set_cons_succ]
      refine wpAnyH_done (by kernel_rfl) ?_ _
      refine NoPanic.normal ?_
      have hB2 := hB.drew.trans (bz.mono hB.size)
      have hs2 : w.heap.size + 1 ≤ wz.heap.size := Nat.le_trans hs bz.size
      have HA2 := hide ((unhide HA).below ((Below.refl wr.heap.size wr).drew.trans bz))
      obtain ⟨hC2, hM2⟩ := hHeld
      clear hC hM hB hs HA bz xk
      cases hq : (d == r.v)
      · have hq2 : (d != r.v) = true := by simpa [bne] using hq
        have HT := hide ((unhide HIN false hq).2 rfl)
        go_wp2
        go_ret
        exact ⟨by rw [unhide HT]; rfl, hB2⟩
      · have hq2 : (d != r.v) = false := by simpa [bne] using hq
        have HI2 := hide ((unhide HIN true hq).1 rfl)
        go_wp2
        go_roundw
        case rel => exact ⟨k + 1, by omega, by first | rfl | go_num, HI2, HA2, hC2, hM2, hs2, hB2⟩
        case measure => simp [intOf]; omega
end Go.Proofs.Ytkikeapfjpnkgaa.StE
