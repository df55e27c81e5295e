/-
  Texts that belong together, one behind the other: StC.
-/
import Derived.Test.YtcmklcfedeeahaaQ15
import Derived.Deep.Cut

/-
  The program's stores: the last record of each address, made a map; what is asked of it.
-/
namespace Go.Proofs.Ytcmklcfedeeahaa.StC
open Go.ChangeShapes Go.WideShapes Go.ChangeAt Go.RowKit Go.Shelf OkA Big Fl ImplB ImplF ImplS _root_.Go.Proofs.Ytcmklcfedeeahaa.Own ImplT ImplU SpecA SpecB SpecC SpecD SpecW SpecF SpecG SpecH Ok2 Pl FindP SpecX ImplL FindN FindL FindV FindQ Kp StA MpA StB
set_option linter.unusedVariables false
set_option linter.unusedSimpArgs false
attribute [local go_sem ↓] Go.wp_at_zero Go.wp_at_succ
section
variable {P : Program} {ops : Array Oper} {rest : List Oper} {o : Oper} {a : Act} {w : World} {Q : Exit → Act → World → Prop}
theorem wpList_upd (hgd : o.guard = none) (t : TypeId) (m x v : Operand) (ho : o.op = .mapUpdate t m x v) (vm vx vv : Value) (hm : a.eval m = vm) (hx : a.eval x = vx) (hv : a.eval v = vv) (w' : World) (hr : (Instr.mapUpdate t vm vx vv).run P w = .ok () w')
    (h : wpList P ops Q rest (a.put o.dst undef) w') : wpList P ops Q (o :: rest) a w := by
  refine wpList_plain hgd fun K hK => ?_
  unfold Oper.wp
  simp [execOp, ho, hm, hx, hv, hr, Result.andThen]
  exact hK _ _ h
theorem wpList_look (hgd : o.guard = none) (t : TypeId) (m x : Operand) (c : Bool) (ho : o.op = .lookup t m x c) (vm vx v : Value) (hm : a.eval m = vm) (hx : a.eval x = vx) (hr : (Instr.lookup t vm vx c).run P w = .ok v w)
    (h : wpList P ops Q rest (a.put o.dst v) w) : wpList P ops Q (o :: rest) a w := by
  refine wpList_plain hgd fun K hK => ?_
  unfold Oper.wp
  simp [execOp, ho, hm, hx, hr, Result.andThen]
  exact hK _ _ h
theorem wpList_mkMap (hgd : o.guard = none) (t : TypeId) (x : Operand) (ho : o.op = .makeMap t (some x)) (n : Int) (hx : a.eval x = .int .i64 n) (k e : TypeId) (ht : P.underlying t = some (.map k e))
    (h : wpList P ops Q rest (a.put o.dst (.map (some w.heap.size))) (w.alloc (.map #[] 0))) : wpList P ops Q (o :: rest) a w := by
  refine wpList_plain hgd fun K hK => ?_
  have hr : (Instr.makeMap t (some (.int .i64 n))).run P w = .ok (.map (some w.heap.size)) (w.alloc (.map #[] 0)) := by
    simp [Instr.makeMap, run_underlying ht, asInt, newObj, go_sem]
    rfl
  unfold Oper.wp
  simp [execOp, ho, hx, hr, Result.andThen]
  exact hK _ _ h
end
theorem wpList_rec_neq {ops : Array Oper} {rest : List Oper} {o : Oper} {a : Act} {w : World} {Q : Exit → Act → World → Prop} (hgd : o.guard = none) (x y : Operand) (ho : o.op = .binOp .neq 59 x y 59) (r : Rc) (hx : a.eval x = .agg (rcC r).toArray)
    (hy : a.eval y = .agg #[.int .i64 0, .int .i64 0, .int .i64 0, .int .i64 0]) (h : wpList Try.prog ops Q rest (a.put o.dst (.bool (!noRc r))) w) : wpList Try.prog ops Q (o :: rest) a w := by
  refine wpList_plain hgd fun K hK => ?_
  have hr : (execOp a.eval o).run Try.prog w = .ok (.value (.bool (!noRc r))) w := by
    unfold execOp
    simp only [ho, hx, hy]
    unfold noRc rcC
    go_simp
    by_cases q1 : r.k = 0 <;> by_cases q2 : r.s = 0 <;> by_cases q3 : r.a = 0 <;> by_cases q4 : r.v = 0 <;> simp [q1, q2, q3, q4]
  unfold Oper.wp
  rw [hr]
  exact hK _ _ h

/-- The last record of each address up to k that has any. -/
def mpK (bs : List Bk) (k : Nat) (j : Int) : Option Rc := if 1 ≤ j ∧ j ≤ (k : Int) ∧ noRc (lastR bs j) = false then some (lastR bs j) else none
def mpF (bs : List Bk) : Int → Option Rc := mpK bs 6
def LePost (w : World) (bs : List Bk) (e : Ending) (w' : World) : Prop := ∃ mb, e = .returned (.map (some mb)) ∧ w.heap.size ≤ mb ∧ MapAt w' mb 6 (mpF bs) ∧ Below w.heap.size w w'

set_option maxRecDepth 100000 in
set_option maxHeartbeats 1000000 in
theorem lastOfEach_any (bs : List Bk) (h4 : bs.length = 4) (hF : Fours bs) (w : World) :
    Calls Try.prog 127 #[.agg (fsC bs).toArray] w fun e w' => LePost w bs e w' := by
  have r1 := rangeAt_below (rangeAt_new w (fsC bs) 82) ((Below.refl (w.alloc (.cells (fsC bs).toArray 82)).heap.size _).alloc (Nat.le_refl _) (.map #[] 0)) (by simp)
  have m1 := MapAt.new (w.alloc (.cells (fsC bs).toArray 82))
  rw [World.size_alloc] at m1
  have B1 : Below w.heap.size w ((w.alloc (.cells (fsC bs).toArray 82)).alloc (.map #[] 0)) := ((Below.refl _ _).alloc (Nat.le_refl _) _).alloc (by simp) _
  have s1 : w.heap.size + 2 ≤ ((w.alloc (.cells (fsC bs).toArray 82)).alloc (.map #[] 0)).heap.size := by simp
  have HSF := hide (size_fsl hF h4)
  have HLA := hide (fun (addr : Int) (w' : World) => callsIn_wide.1 (last_in bs addr h4 hF w'))
  have HM0 : Hid (∀ j, mpK bs 0 j = none) := fun j => by unfold mpK; rw [if_neg (by omega)]
  have HM1 : Hid (∀ (k : Nat) (j : Int), noRc (lastR bs ((k : Int) + 1)) = true → mpK bs (k + 1) j = mpK bs k j) := fun (k : Nat) (j : Int) h => by
    unfold mpK
    by_cases e : j = (k : Int) + 1
    · subst e; rw [if_neg (fun q => by rw [h] at q; cases q.2.2), if_neg (fun q => by omega)]
    · by_cases q : 1 ≤ j ∧ j ≤ (k : Int) ∧ noRc (lastR bs j) = false
      · rw [if_pos q, if_pos ⟨q.1, by omega, q.2.2⟩]
      · rw [if_neg q, if_neg (fun q' => q ⟨q'.1, by omega, q'.2.2⟩)]
  have HM2 : Hid (∀ (k : Nat) (j : Int), noRc (lastR bs ((k : Int) + 1)) = false → mpK bs (k + 1) j = if j = (k : Int) + 1 then some (lastR bs ((k : Int) + 1)) else mpK bs k j) := fun (k : Nat) (j : Int) h => by
    unfold mpK
    by_cases e : j = (k : Int) + 1
    · subst e; rw [if_pos rfl, if_pos ⟨by omega, by omega, h⟩]
    · rw [if_neg e]
      by_cases q : 1 ≤ j ∧ j ≤ (k : Int) ∧ noRc (lastR bs j) = false
      · rw [if_pos q, if_pos ⟨q.1, by omega, q.2.2⟩]
      · rw [if_neg q, if_neg (fun q' => q ⟨q'.1, by omega, q'.2.2⟩)]
  go_enter Try.func127, Try.ntmps127
  go_wp2_with (first | (refine wpList_box_big rfl _ _ rfl (fsC bs).toArray rfl ?_) | (refine wpList_mkMap rfl _ _ rfl 6 rfl 3 59 Try.underlying83 ?_))
  generalize (w.alloc (.cells (fsC bs).toArray 82)).alloc (.map #[] 0) = w1 at *
  go_loopw [4] (fun i w' => ∃ k : Nat, k ≤ 6 ∧ i = .int .i64 ((k : Int) + 1) ∧ w'.rangeAt w.heap.size 0 (fsC bs) ∧ MapAt w' (w.heap.size + 1) k (mpK bs k) ∧ w.heap.size + 2 ≤ w'.heap.size ∧ Below w.heap.size w w') (fun i _ => 7 - (intOf i).toNat)
  case atStart => exact ⟨0, by omega, rfl, r1, m1.ext (unhide HM0), s1, B1⟩
  case round =>
    clear r1 m1 B1 s1
    obtain ⟨k, hk, rfl, rF, mK, hs, hB⟩ := hrel
    by_cases h0 : k = 6
    · subst h0
      go_wp2
      go_ret
      exact ⟨w.heap.size + 1, rfl, by omega, mK, hB⟩
    · have hlt : (k : Int) + 1 ≤ 6 := by omega
      have hlo : (0 : Int) ≤ (k : Int) := by omega
      go_wp2_with (refine wpList_load_mid rfl 82 _ rfl w.heap.size 0 rfl (fsC bs) _ rF Try.underlying82 rfl (unhide HSF) ?_)
      refine (unhide HLA _ _).mono ?_
      rintro e w2 ⟨rfl, b2⟩
      have rF2 := rangeAt_below rF b2 (by omega)
      have mK2 := mK.below b2 (by omega)
      have hB2 := hB.trans (b2.mono hB.size)
      have hs2 := Nat.le_trans hs b2.size
      clear rF mK hB hs b2
      have HM1 := hide (fun j => unhide HM1 k j)
      have HM2 := hide (fun j => unhide HM2 k j)
      generalize lastR bs ((k : Int) + 1) = r at *
      have cX := CsAt.new w2 (rcC r) 59
      have rX := cX.cells
      have HS := hide (SpecL.size_rc r)
      have rF3 := rangeAt_below rF2 ((Below.refl w2.heap.size w2).alloc (Nat.le_refl _) (.cells (rcC r).toArray 59)) (by omega)
      have mK3 := mK2.below ((Below.refl w2.heap.size w2).alloc (Nat.le_refl _) (.cells (rcC r).toArray 59)) (by omega)
      have hB3 := hB2.alloc (by omega) (.cells (rcC r).toArray 59)
      have hs3 : w.heap.size + 2 ≤ (w2.alloc (.cells (rcC r).toArray 59)).heap.size := by simp; omega
      clear rF2 mK2 hB2
      have hz4 : (rcC zRc).toArray.size = (rcC r).toArray.size := rfl
      cases hno : noRc r
      · obtain ⟨w4, hput, mK4, hg⟩ := mK3.put (by omega) (i := (k : Int) + 1) (by omega) (by omega) r
        have mK5 := mK4.ext (fun j => unhide HM2 j hno)
        have hB4 := below_grown hB3 hg (by omega) (by omega)
        have rF4 : w4.rangeAt w.heap.size 0 (fsC bs) := (Kept.of (Below.refl _ _)).grown (L := [w.heap.size + 1]) hg (fun q e => by cases e; exact .inl (by simp)) |>.range rF3 (by omega) (by simp)
        have hs4 := Nat.le_trans hs3 hg.size
        clear mK3 mK4 hg rF3 hB3
        go_wp2_with (first | (refine wpList_alloc_big rfl 59 rfl (rcC zRc).toArray (by kernel_rfl) ?_) | (refine wpList_store_new rfl 59 _ _ rfl w2 (rcC zRc).toArray (rcC r).toArray rfl rfl rfl (SpecL.size_rca r) hz4 (SpecL.one_rc r) ?_) | (refine wpList_load_mid rfl 59 _ rfl w2.heap.size 0 rfl (rcC r) _ rX Try.underlying59 rfl (unhide HS) ?_) | (refine wpList_rec_neq rfl _ _ rfl r rfl rfl ?_; rw [hno]) | (refine wpList_upd rfl _ _ _ _ rfl _ _ _ rfl rfl rfl w4 hput ?_))
        go_roundw
        case rel => exact ⟨k + 1, by omega, by first | rfl | go_num, rF4, mK5, hs4, hB4⟩
        case measure => simp [intOf]; omega
      · have mK5 := (mK3.mono (show k ≤ k + 1 by omega)).ext (fun j => unhide HM1 j hno)
        clear mK3
        go_wp2_with (first | (refine wpList_alloc_big rfl 59 rfl (rcC zRc).toArray (by kernel_rfl) ?_) | (refine wpList_store_new rfl 59 _ _ rfl w2 (rcC zRc).toArray (rcC r).toArray rfl rfl rfl (SpecL.size_rca r) hz4 (SpecL.one_rc r) ?_) | (refine wpList_load_mid rfl 59 _ rfl w2.heap.size 0 rfl (rcC r) _ rX Try.underlying59 rfl (unhide HS) ?_) | (refine wpList_rec_neq rfl _ _ rfl r rfl rfl ?_; rw [hno]))
        go_roundw
        case rel => exact ⟨k + 1, by omega, by first | rfl | go_num, rF3, mK5, hs3, hB3⟩
        case measure => simp [intOf]; omega

/-- A store as it is kept. -/
def skC (ks : List Bk) (mb : Nat) (dk : List Int) : List Value := fsC ks ++ .map (some mb) :: isC dk
theorem sk_len {ks : List Bk} {mb : Nat} {dk : List Int} (h4 : ks.length = 4) (hF : Fours ks) (h : dk.length = 6) : (skC ks mb dk).length = 91 := by rw [skC, List.length_append, List.length_cons, len_isC, h, len_fsC ks hF, h4]
theorem size_sk {ks : List Bk} {mb : Nat} {dk : List Int} (h4 : ks.length = 4) (hF : Fours ks) (h : dk.length = 6) : (Try.prog.info? 87).map (·.size) = some (skC ks mb dk).length := by rw [sk_len h4 hF h]; kernel_rfl
theorem size_ska {ks : List Bk} {mb : Nat} {dk : List Int} (h4 : ks.length = 4) (hF : Fours ks) (h : dk.length = 6) : (Try.prog.info? 87).map (·.size) = some (skC ks mb dk).toArray.size := by rw [List.size_toArray]; exact size_sk h4 hF h
theorem one_skv (ks : List Bk) (mb : Nat) (dk : List Int) : ∀ v ∈ skC ks mb dk, v.oneCell' = true := fun v hv => by
  rcases List.mem_append.1 hv with h | h
  · exact one_fsC ks v h
  · rcases List.mem_cons.1 h with rfl | h
    · rfl
    · exact one_isC dk v h
theorem one_sk (ks : List Bk) (mb : Nat) (dk : List Int) : (skC ks mb dk).toArray.all (·.oneCell') = true := all_oneCell_toArray (one_skv ks mb dk)
theorem sk_map {ks : List Bk} {mb : Nat} {dk : List Int} (h4 : ks.length = 4) (hF : Fours ks) : (skC ks mb dk)[84]? = some (.map (some mb)) := by
  have hl : (fsC ks).length = 84 := by rw [len_fsC ks hF, h4]
  rw [skC, List.getElem?_append_right (by omega), hl]; rfl
theorem sk_flash {w : World} {S mb : Nat} {ks : List Bk} {dk : List Int} (h : w.rangeAt S 0 (skC ks mb dk)) : w.rangeAt S 0 (fsC ks) := fun j v hv => by
  obtain ⟨hj, _⟩ := List.getElem?_eq_some_iff.1 hv
  exact h j v (by rw [skC, List.getElem?_append_left hj]; exact hv)
theorem sk_diskR {w : World} {S mb : Nat} {ks : List Bk} {dk : List Int} (h4 : ks.length = 4) (hF : Fours ks) (h : w.rangeAt S 0 (skC ks mb dk)) : w.rangeAt S 85 (isC dk) := fun j v hv => by
  have hl : (fsC ks).length = 84 := by rw [len_fsC ks hF, h4]
  have := h (85 + j) v (by rw [skC, List.getElem?_append_right (by omega), hl, show 85 + j - 84 = j + 1 by omega]; exact hv)
  rwa [Nat.zero_add] at this
/-- The value of an address, of a map and the slow disk. -/
def mpV (f : Int → Option Rc) (dk : List Int) (addr : Int) : Int := if (f addr).isSome then ((f addr).getD zRc).v else dkV dk addr

set_option maxRecDepth 100000 in
set_option maxHeartbeats 1000000 in
theorem value_any (ks : List Bk) (hk4 : ks.length = 4) (hkF : Fours ks) (mb n : Nat) (f : Int → Option Rc) (dk : List Int) (h6 : dk.length = 6) (addr : Int) (ha0 : 1 ≤ addr) (ha6 : addr ≤ 6) (w : World) (hM : MapAt w mb n f) :
    Calls Try.prog 85 #[.agg (skC ks mb dk).toArray, .int .i64 addr] w fun e w' => e = .returned (.int .i64 (mpV f dk addr)) ∧ Below w.heap.size w w' := by
  have cS := CsAt.new w (skC ks mb dk) 87
  have B0 : Below w.heap.size w (w.alloc (.cells (skC ks mb dk).toArray 87)) := (Below.refl _ _).alloc (Nat.le_refl _) _
  have s0 : w.heap.size < (w.alloc (.cells (skC ks mb dk).toArray 87)).heap.size := by simp
  have hM2 := hM.below B0 hM.lt
  have hlk := hM2.look2 (i := addr) (by omega) (by omega)
  have x0 := cS.cell 84 _ (sk_map hk4 hkF)
  have HV : Hid (mpV f dk addr = if (f addr).isSome then ((f addr).getD zRc).v else dkV dk addr) := rfl
  have HD := hide (fun (w' : World) => dof_any dk h6 addr ha0 ha6 w')
  generalize mpV f dk addr = R at *
  generalize (f addr).getD zRc = r at *
  generalize (f addr).isSome = o at *
  generalize dkV dk addr = d at *
  have cS2 := cS.alloc s0 (.cells (rcC r).toArray 59)
  have y3 : ((w.alloc (.cells (skC ks mb dk).toArray 87)).alloc (.cells (rcC r).toArray 59)).cell? ⟨w.heap.size + 1, 3, none⟩ = some (.int .i64 r.v) := by
    have := (CsAt.new (w.alloc (.cells (skC ks mb dk).toArray 87)) (rcC r) 59).cell 3 _ rfl
    rwa [World.size_alloc] at this
  have rD := sk_diskR hk4 hkF cS2.cells
  have B2 := B0.alloc (by omega) (.cells (rcC r).toArray 59)
  have HS := hide (size_dk h6)
  clear hM hM2 cS cS2
  rw [show (rcC r).toArray = #[.int .i64 r.k, .int .i64 r.s, .int .i64 r.a, .int .i64 r.v] from rfl] at *
  go_enter Try.func85, Try.ntmps85
  go_upto_region 2 with (first | (refine wpList_box_big rfl _ _ rfl (skC ks mb dk).toArray rfl ?_) | (refine wpList_look rfl _ _ _ true rfl _ _ _ rfl rfl hlk ?_))
  generalize (w.alloc (.cells (skC ks mb dk).toArray 87)).alloc (.cells #[.int .i64 r.k, .int .i64 r.s, .int .i64 r.a, .int .i64 r.v] 59) = w2 at *
  cases o
  · go_wp2_with (refine wpList_load_mid rfl 85 _ rfl w.heap.size 85 rfl (isC dk) _ rD Try.underlying85 rfl (unhide HS) ?_)
    refine (unhide HD _).mono ?_
    rintro e w3 ⟨rfl, b3⟩
    have B3 := B2.trans (b3.mono B2.size)
    clear rD B2 b3 HD
    go_wp2
    go_ret
    exact ⟨by rw [unhide HV]; rfl, B3⟩
  · go_wp2
    go_ret
    exact ⟨by rw [unhide HV]; rfl, B2⟩
end Go.Proofs.Ytcmklcfedeeahaa.StC
