/-
  Texts that belong together, one behind the other: SpV1, SpV, LawW, MkN.
-/
import Derived.Test.YtbiokmojjneleaaGreatHbH
import Derived.Maps.AppendAt
import Derived.Test.YtbiokmojjneleaaGreatRbB
import Derived.Test.YtbiokmojjneleaaGreatRaH
import Derived.Test.YtbiokmojjneleaaGreatHaZ

/-
  The specification's word on a step.
-/
namespace Go.Proofs.YtbiokmojjneleaaGreat.SpV1
open Go.ChangeShapes Go.WideShapes Go.ChangeAt Go.RowKit Go.Shelf OkA Big Fl ImplB ImplF ImplS _root_.Go.Proofs.YtbiokmojjneleaaGreat.Own ImplT ImplU SpecA SpecB SpecC SpecD SpecW SpecF SpecG SpecH Ok2 Pl FindP SpecX SpecY ImplW ImplX ImplL Kp StA MpA StB StC StD StE StF StG FindL Gd LawU LawS LawV LawI SpS SpT DoA ToA QuA QuB QuC QuD QuE
set_option linter.unusedVariables false
set_option linter.unusedSimpArgs false
attribute [local go_sem ↓] Go.wp_at_zero Go.wp_at_succ

theorem wpList_rec_eqW {ops : Array Oper} {rest : List Oper} {o : Oper} {a : Act} {w : World} {Q : Exit → Act → World → Prop} (x y : Operand) (ho : o.op = .binOp .eql 36 x y 36) (hw : Region.wanted o (yielded ops a.tmps) = true) (r : Rc) (b : Bool) (hb : noRc r = b) (hx : a.eval x = .agg #[.int .i64 r.k, .int .i64 r.s, .int .i64 r.a, .int .i64 r.v])
    (hy : a.eval y = .agg #[.int .i64 0, .int .i64 0, .int .i64 0, .int .i64 0]) (h : wpList Tryz.prog ops Q rest (a.put o.dst (.bool b)) w) : wpList Tryz.prog ops Q (o :: rest) a w := by
  subst hb
  refine wpList_want hw fun K hK => ?_
  have hr : (execOp a.eval o).run Tryz.prog w = .ok (.value (.bool (noRc r))) w := by
    unfold execOp
    simp only [ho, hx, hy]
    unfold noRc
    go_simp
    by_cases q1 : r.k = 0 <;> by_cases q2 : r.s = 0 <;> by_cases q3 : r.a = 0 <;> by_cases q4 : r.v = 0 <;> simp [q1, q2, q3, q4]
  unfold Oper.wp
  rw [hr]
  exact hK _ _ h

theorem stkB_eq (x : Stp) : stkB x = if x.kind = 1 then (x.blk == 0 && noRc x.r) && inB x.addr 1 6 && inB x.val 0 9 else if x.kind = 2 then (x.addr == 0 && x.val == 0 && noRc x.r) && inB x.blk 0 3 else if x.kind = 3 then (x.addr == 0 && x.val == 0) && inB x.blk 0 3 && recB x.r.k x.r.s x.r.a x.r.v else false := rfl

set_option maxRecDepth 100000 in
set_option maxHeartbeats 4000000 in
theorem l12Step_1 (x : Stp) (hk : x.kind = 1) (w : World) :
    Calls Tryz.prog 48 #[.agg (stC x).toArray] w fun e w' => e = .returned (.bool (stkB x)) ∧ Below w.heap.size w w' := by
  have HR := hide (stkB_eq x)
  rw [if_pos hk] at HR
  generalize stkB x = R at *
  have cX := CsAt.new w (stC x) 38
  have B0 : Below w.heap.size w (w.alloc (.cells (stC x).toArray 38)) := (Below.refl _ _).alloc (Nat.le_refl _) _
  have HA := hide (fun (w' : World) => l6In_any x.addr 1 6 w')
  have HV := hide (fun (w' : World) => l6In_any x.val 0 9 w')
  have HB := hide (fun (w' : World) => l6In_any x.blk 0 3 w')
  have HRO := hide (specOk_any x.r.k x.r.s x.r.a x.r.v)
  have x0 := cX.cell 0 _ rfl
  have x1 := cX.cell 1 _ rfl
  have x2 := cX.cell 2 _ rfl
  have x3 := cX.cell 3 _ rfl
  have x4 := cX.cell 4 _ rfl
  have x5 := cX.cell 5 _ rfl
  have x6 := cX.cell 6 _ rfl
  have x7 := cX.cell 7 _ rfl
  go_enter Tryz.func48, Tryz.ntmps48
  go_upto_region 1 with (refine wpList_box_big rfl _ _ rfl (stC x).toArray rfl ?_)
  generalize w.alloc (.cells (stC x).toArray 38) = w1 at *
  rw [hk] at x0
  go_wp2_with fail
  refine (unhide HA _).mono ?_
  rintro e w' ⟨rfl, hw'⟩
  obtain rfl := hw'.symm
  generalize inB x.addr 1 6 = ba at *
  generalize hbv : inB x.val 0 9 = bv at *
  cases ba
  · simp only [Bool.and_false, Bool.false_and] at HR
    go_wp2
    go_ret
    exact ⟨by rw [unhide HR]; rfl, B0⟩
  go_wp2_with fail
  refine (unhide HV _).mono ?_
  rintro e w' ⟨rfl, hw'⟩
  obtain rfl := hw'.symm
  cases bv
  · simp only [Bool.and_false, Bool.false_and] at HR
    go_wp2
    go_ret
    exact ⟨by rw [unhide HR]; rfl, B0⟩
  cases gb : (x.blk == 0)
  · rw [gb] at HR
    try simp only [Bool.and_false, Bool.false_and] at HR
    go_wp2
    go_ret
    exact ⟨by rw [unhide HR]; rfl, B0⟩
  rw [gb] at HR
  cases hrc : noRc x.r
  · rw [hrc] at HR
    try simp only [Bool.and_false, Bool.false_and] at HR
    go_wp2_with (refine wpList_rec_eqW _ _ rfl rfl x.r false hrc rfl rfl ?_)
    go_ret
    exact ⟨by rw [unhide HR]; rfl, B0⟩
  rw [hrc] at HR
  go_wp2_with (refine wpList_rec_eqW _ _ rfl rfl x.r true hrc rfl rfl ?_)
  go_ret
  exact ⟨by rw [unhide HR]; rfl, B0⟩

set_option maxRecDepth 100000 in
set_option maxHeartbeats 4000000 in
theorem l12Step_2 (x : Stp) (hk : x.kind = 2) (w : World) :
    Calls Tryz.prog 48 #[.agg (stC x).toArray] w fun e w' => e = .returned (.bool (stkB x)) ∧ Below w.heap.size w w' := by
  have HR := hide (stkB_eq x)
  rw [if_neg (by omega), if_pos hk] at HR
  generalize stkB x = R at *
  have cX := CsAt.new w (stC x) 38
  have B0 : Below w.heap.size w (w.alloc (.cells (stC x).toArray 38)) := (Below.refl _ _).alloc (Nat.le_refl _) _
  have HA := hide (fun (w' : World) => l6In_any x.addr 1 6 w')
  have HV := hide (fun (w' : World) => l6In_any x.val 0 9 w')
  have HB := hide (fun (w' : World) => l6In_any x.blk 0 3 w')
  have HRO := hide (specOk_any x.r.k x.r.s x.r.a x.r.v)
  have x0 := cX.cell 0 _ rfl
  have x1 := cX.cell 1 _ rfl
  have x2 := cX.cell 2 _ rfl
  have x3 := cX.cell 3 _ rfl
  have x4 := cX.cell 4 _ rfl
  have x5 := cX.cell 5 _ rfl
  have x6 := cX.cell 6 _ rfl
  have x7 := cX.cell 7 _ rfl
  go_enter Tryz.func48, Tryz.ntmps48
  go_upto_region 1 with (refine wpList_box_big rfl _ _ rfl (stC x).toArray rfl ?_)
  generalize w.alloc (.cells (stC x).toArray 38) = w1 at *
  rw [hk] at x0
  cases ga : (x.addr == 0)
  · rw [ga] at HR
    try simp only [Bool.and_false, Bool.false_and] at HR
    go_wp2
    go_ret
    exact ⟨by rw [unhide HR]; rfl, B0⟩
  rw [ga] at HR
  cases gv : (x.val == 0)
  · rw [gv] at HR
    try simp only [Bool.and_false, Bool.false_and] at HR
    go_wp2
    go_ret
    exact ⟨by rw [unhide HR]; rfl, B0⟩
  rw [gv] at HR
  cases hHB : inB x.blk 0 3
  · rw [hHB] at HR HB
    try simp only [Bool.and_false, Bool.false_and] at HR
    go_wp2_with (go_at_call 61; refine (unhide HB _).mono ?_; rintro e w' ⟨rfl, hw'⟩; obtain rfl := hw'.symm)
    go_ret
    exact ⟨by rw [unhide HR]; rfl, B0⟩
  rw [hHB] at HR HB
  cases hrc : noRc x.r
  · rw [hrc] at HR
    try simp only [Bool.and_false, Bool.false_and] at HR
    go_wp2_with (first | (go_at_call 61; refine (unhide HB _).mono ?_; rintro e w' ⟨rfl, hw'⟩; obtain rfl := hw'.symm) | (refine wpList_rec_eqW _ _ rfl rfl x.r false hrc rfl rfl ?_))
    go_ret
    exact ⟨by rw [unhide HR]; rfl, B0⟩
  rw [hrc] at HR
  go_wp2_with (first | (go_at_call 61; refine (unhide HB _).mono ?_; rintro e w' ⟨rfl, hw'⟩; obtain rfl := hw'.symm) | (refine wpList_rec_eqW _ _ rfl rfl x.r true hrc rfl rfl ?_))
  go_ret
  exact ⟨by rw [unhide HR]; rfl, B0⟩

set_option maxRecDepth 100000 in
set_option maxHeartbeats 4000000 in
theorem l12Step_3 (x : Stp) (hk : x.kind = 3) (w : World) :
    Calls Tryz.prog 48 #[.agg (stC x).toArray] w fun e w' => e = .returned (.bool (stkB x)) ∧ Below w.heap.size w w' := by
  have HR := hide (stkB_eq x)
  rw [if_neg (by omega), if_neg (by omega), if_pos hk] at HR
  generalize stkB x = R at *
  have cX := CsAt.new w (stC x) 38
  have B0 : Below w.heap.size w (w.alloc (.cells (stC x).toArray 38)) := (Below.refl _ _).alloc (Nat.le_refl _) _
  have HA := hide (fun (w' : World) => l6In_any x.addr 1 6 w')
  have HV := hide (fun (w' : World) => l6In_any x.val 0 9 w')
  have HB := hide (fun (w' : World) => l6In_any x.blk 0 3 w')
  have HRO := hide (specOk_any x.r.k x.r.s x.r.a x.r.v)
  have x0 := cX.cell 0 _ rfl
  have x1 := cX.cell 1 _ rfl
  have x2 := cX.cell 2 _ rfl
  have x3 := cX.cell 3 _ rfl
  have x4 := cX.cell 4 _ rfl
  have x5 := cX.cell 5 _ rfl
  have x6 := cX.cell 6 _ rfl
  have x7 := cX.cell 7 _ rfl
  go_enter Tryz.func48, Tryz.ntmps48
  go_upto_region 1 with (refine wpList_box_big rfl _ _ rfl (stC x).toArray rfl ?_)
  generalize w.alloc (.cells (stC x).toArray 38) = w1 at *
  rw [hk] at x0
  cases ga : (x.addr == 0)
  · rw [ga] at HR
    try simp only [Bool.and_false, Bool.false_and] at HR
    go_wp2
    go_ret
    exact ⟨by rw [unhide HR]; rfl, B0⟩
  rw [ga] at HR
  cases gv : (x.val == 0)
  · rw [gv] at HR
    try simp only [Bool.and_false, Bool.false_and] at HR
    go_wp2
    go_ret
    exact ⟨by rw [unhide HR]; rfl, B0⟩
  rw [gv] at HR
  cases hHB : inB x.blk 0 3
  · rw [hHB] at HR HB
    try simp only [Bool.and_false, Bool.false_and] at HR
    go_wp2_with (go_at_call 61; refine (unhide HB _).mono ?_; rintro e w' ⟨rfl, hw'⟩; obtain rfl := hw'.symm)
    go_ret
    exact ⟨by rw [unhide HR]; rfl, B0⟩
  rw [hHB] at HR HB
  generalize hro : recB x.r.k x.r.s x.r.a x.r.v = ro at *
  go_wp2_with (go_at_call 61; refine (unhide HB _).mono ?_; rintro e w' ⟨rfl, hw'⟩; obtain rfl := hw'.symm)
  refine (unhide HRO _).mono ?_
  rintro e w9 ⟨rfl, b9⟩
  have B9 := B0.trans (b9.mono B0.size)
  clear x0 x1 x2 x3 x4 x5 x6 x7 cX
  cases ro
  · go_wp2
    go_ret
    exact ⟨by rw [unhide HR]; rfl, B9⟩
  · go_wp2
    go_ret
    exact ⟨by rw [unhide HR]; rfl, B9⟩

set_option maxRecDepth 100000 in
set_option maxHeartbeats 4000000 in
theorem l12Step_0 (x : Stp) (h1 : ¬ x.kind = 1) (h2 : ¬ x.kind = 2) (h3 : ¬ x.kind = 3) (w : World) :
    Calls Tryz.prog 48 #[.agg (stC x).toArray] w fun e w' => e = .returned (.bool (stkB x)) ∧ Below w.heap.size w w' := by
  have HR := hide (stkB_eq x)
  rw [if_neg h1, if_neg h2, if_neg h3] at HR
  generalize stkB x = R at *
  have cX := CsAt.new w (stC x) 38
  have B0 : Below w.heap.size w (w.alloc (.cells (stC x).toArray 38)) := (Below.refl _ _).alloc (Nat.le_refl _) _
  have HA := hide (fun (w' : World) => l6In_any x.addr 1 6 w')
  have HV := hide (fun (w' : World) => l6In_any x.val 0 9 w')
  have HB := hide (fun (w' : World) => l6In_any x.blk 0 3 w')
  have HRO := hide (specOk_any x.r.k x.r.s x.r.a x.r.v)
  have x0 := cX.cell 0 _ rfl
  have x1 := cX.cell 1 _ rfl
  have x2 := cX.cell 2 _ rfl
  have x3 := cX.cell 3 _ rfl
  have x4 := cX.cell 4 _ rfl
  have x5 := cX.cell 5 _ rfl
  have x6 := cX.cell 6 _ rfl
  have x7 := cX.cell 7 _ rfl
  go_enter Tryz.func48, Tryz.ntmps48
  go_upto_region 1 with (refine wpList_box_big rfl _ _ rfl (stC x).toArray rfl ?_)
  generalize w.alloc (.cells (stC x).toArray 38) = w1 at *
  have g1 : (x.kind == 1) = false := by simpa using h1
  have g2 : (x.kind == 2) = false := by simpa using h2
  have g3 : (x.kind == 3) = false := by simpa using h3
  go_wp2
  go_ret
  exact ⟨by rw [unhide HR]; rfl, B0⟩

theorem l12Step_any (x : Stp) (w : World) :
    Calls Tryz.prog 48 #[.agg (stC x).toArray] w fun e w' => e = .returned (.bool (stkB x)) ∧ Below w.heap.size w w' := by
  by_cases h1 : x.kind = 1
  · exact l12Step_1 x h1 w
  by_cases h2 : x.kind = 2
  · exact l12Step_2 x h2 w
  by_cases h3 : x.kind = 3
  · exact l12Step_3 x h3 w
  exact l12Step_0 x h1 h2 h3 w

end Go.Proofs.YtbiokmojjneleaaGreat.SpV1

/-
  The specification's StepsTo: whether a step is one, a store anew, and all.
-/
namespace Go.Proofs.YtbiokmojjneleaaGreat.SpV
open Go.ChangeShapes Go.WideShapes Go.ChangeAt Go.RowKit Go.Shelf OkA Big Fl ImplB ImplF ImplS _root_.Go.Proofs.YtbiokmojjneleaaGreat.Own ImplT ImplU SpecA SpecB SpecC SpecD SpecW SpecF SpecG SpecH Ok2 Pl FindP SpecX SpecY ImplW ImplX ImplL Kp StA MpA StB StC StD StE StF StG FindL Gd LawU LawS LawV LawI SpS SpT DoA ToA QuA QuB QuC QuD QuE SpV1
set_option linter.unusedVariables false
set_option linter.unusedSimpArgs false
attribute [local go_sem ↓] Go.wp_at_zero Go.wp_at_succ


theorem fsome {w : World} {fa : Option Addr} {bs : List Bk} (h : FsAt w fa bs) (h4 : bs.length = 4) : ∃ b o, fa = some ⟨b, o, none⟩ ∧ ∀ i (hi : i < bs.length), BkAt w b (o + i * 2) bs[i] := by
  rcases h with rfl | h
  · simp at h4
  · exact h
theorem dsome {w : World} {da : Option Addr} {dk : List Int} (h : DkAt w da dk) (h6 : dk.length = 6) : ∃ b o, da = some ⟨b, o, none⟩ ∧ w.rangeAt b o (isC dk) := by
  rcases h with rfl | h
  · simp at h6
  · exact h
theorem wp_append_at {P : Program} {w : World} {o : Oper} {a : Act} {K : Act → World → Prop} {Q : Exit → Act → World → Prop} (s x : Operand) (t : TypeId)
    (ho : o.op = .call { callee := .builtin .append, args := #[s, x], argTypes := #[t, t] })
    (base : Nat) (e : TypeId) (i : TypeInfo) (z : Value) (size bytes : Nat) (ht : P.underlying t = some (.slice e)) (hi : P.info? e = some i) (hz : i.zero = some z)
    (hsize : i.size = size) (hby : i.bytes = bytes) (hzs : z.cells.size = size) (hsz : 0 < size)
    (v : Value) (n : Nat) (xs : List Value) (hs : a.eval s = v) (hown : w.ownsRow base e size v n xs)
    (ad : Addr) (m c : Nat) (news : List Value) (hx : a.eval x = .slice (some ad) m c) (hl : news.length = m * size) (hnews : ∀ j u, news[j]? = some u → w.cell? (ad.add j) = some u) (h1 : ∀ u ∈ news, u.oneCell' = true)
    (h63 : n + m ≤ maxLen) (hbytes : (n + m) * bytes ≤ 140737488355328) (hbase : base ≤ w.heap.size)
    (h : ∀ v' w', w'.ownsRow base e size v' (n + m) (xs ++ news) → w.grownBy w' v.ownBlock → (v'.ownBlock = v.ownBlock ∨ v'.ownBlock = some w.heap.size) → K (a.put o.dst v') w') : o.wp P a w K Q := by
  obtain ⟨v', w', hr, h2, h3, _, h5⟩ := run_append_own_at (P := P) w base t o.type e i z size bytes ht hi hz hsize hby hzs hsz v n xs hown ad m c news hl hnews h1 h63 hbytes hbase
  unfold Oper.wp execOp
  simp only [ho, resolve, invoke, builtin, Sem.run_bind, Sem.run_pure, Result.andThen_ok, List.map_toArray, List.map_cons, List.map_nil, hs, hx, hr]
  exact h v' w' h2 h3 h5

def CpPost (w : World) (bs : List Bk) (dk : List Int) (e : Ending) (w' : World) : Prop := ∃ g G d c1 c2, e = .returned (.agg #[.slice (some ⟨g, 0, none⟩) 4 c1, .slice (some ⟨d, 0, none⟩) 6 c2]) ∧ OwnS w' w.heap.size g G d bs dk ∧ Below w.heap.size w w'
set_option maxRecDepth 100000 in
set_option maxHeartbeats 2000000 in
theorem l11Copy_any (fb fo fc db dof dc : Nat) (bs : List Bk) (hF : Fours bs) (h4 : bs.length = 4) (dk : List Int) (h6 : dk.length = 6) (w : World) (hf : ∀ i (hi : i < bs.length), BkAt w fb (fo + i * 2) bs[i]) (hd : w.rangeAt db dof (isC dk)) :
    Calls Tryz.prog 50 #[.agg #[.slice (some ⟨fb, fo, none⟩) 4 fc, .slice (some ⟨db, dof, none⟩) 6 dc]] w fun e w' => CpPost w bs dk e w' := by
  have cA := (store_box w (.slice (some ⟨fb, fo, none⟩) 4 fc) (.slice (some ⟨db, dof, none⟩) 6 dc)).alloc (by simp) (.cells #[.slice none 0 0, .slice none 0 0] 26)
  have cR := store_box (w.alloc (.cells #[.slice (some ⟨fb, fo, none⟩) 4 fc, .slice (some ⟨db, dof, none⟩) 6 dc] 26)) (.slice none 0 0) (.slice none 0 0)
  rw [World.size_alloc] at cR
  have B0 : Below w.heap.size w ((w.alloc (.cells #[.slice (some ⟨fb, fo, none⟩) 4 fc, .slice (some ⟨db, dof, none⟩) 6 dc] 26)).alloc (.cells #[.slice none 0 0, .slice none 0 0] 26)) := ((Below.refl _ _).alloc (Nat.le_refl _) _).alloc (by simp) _
  have s0 : w.heap.size + 2 ≤ ((w.alloc (.cells #[.slice (some ⟨fb, fo, none⟩) 4 fc, .slice (some ⟨db, dof, none⟩) 6 dc] 26)).alloc (.cells #[.slice none 0 0, .slice none 0 0] 26)).heap.size := by simp
  have hdl : db < w.heap.size := cell_lt (isC_at hd 0 (by omega))
  have HCP := hide (fun (w' : World) (hb : Below w.heap.size w w') => copy4 fb fo fc bs w' hF h4 (fun i hi => (hf i hi).below hb))
  have HD := hide (fun (w' : World) (hb : Below w.heap.size w w') => rangeAt_below hd hb hdl)
  have HSS := hide (show (Tryz.prog.info? 26).map (·.size) = some 2 by kernel_rfl)
  have HBU := hide (fun (g d c1 c2 : Nat) => (show Tryz.prog.built 26 [(0, .slice (some ⟨g, 0, none⟩) 4 c1), (1, .slice (some ⟨d, 0, none⟩) 6 c2)] = some #[.slice (some ⟨g, 0, none⟩) 4 c1, .slice (some ⟨d, 0, none⟩) 6 c2] by kernel_rfl))
  obtain ⟨iI, hiI, hzI, hsI, hbI⟩ := infoI
  have hl6 : (isC dk).length = 6 * 1 := by rw [len_isC, h6]
  clear hf hd
  go_enter Tryz.func50, Tryz.ntmps50
  go_upto_region 1 with fail
  generalize (w.alloc (.cells #[.slice (some ⟨fb, fo, none⟩) 4 fc, .slice (some ⟨db, dof, none⟩) 6 dc] 26)).alloc (.cells #[.slice none 0 0, .slice none 0 0] 26) = w1 at *
  refine wp_region_noPanic ?_
  refine wp_region_held_drew (S := fun w' => CsAt w' w.heap.size [.slice (some ⟨fb, fo, none⟩) 4 fc, .slice (some ⟨db, dof, none⟩) 6 dc] ∧ w.heap.size + 2 ≤ w'.heap.size) (by kernel_rfl) (⟨⟨fun j v hv => cA.cells j v hv, fun j hj => cA.free j hj⟩, s0⟩) (fun hHeld => ?_)
  refine takeL 0 (.pointer (some ⟨w.heap.size, 0, none⟩)) rfl (by kernel_rfl) (by kernel_rfl) (by kernel_rfl) (fun _ _ _ h => h) (Or.inl ⟨rfl, fun w9 hSw => by go_simp⟩) hHeld ?_
  try simp only [Act.put, List.setIfInBounds_toArray, List.set_cons_zero, List.set_cons_succ]
  refine takeL 1 (.slice (some ⟨fb, fo, none⟩) 4 fc) rfl (by kernel_rfl) (by kernel_rfl) (by kernel_rfl) (fun _ _ _ h => h) (Or.inl ⟨rfl, fun w9 hSw => by have hc := hSw.1.cell 0 _ rfl; go_simp⟩) hHeld ?_
  try simp only [Act.put, List.setIfInBounds_toArray, List.set_cons_zero, List.set_cons_succ]
  refine takeL 4 (.pointer (some ⟨w.heap.size, 1, none⟩)) rfl (by kernel_rfl) (by kernel_rfl) (by kernel_rfl) (fun _ _ _ h => h) (Or.inl ⟨rfl, fun w9 hSw => by go_simp⟩) hHeld ?_
  try simp only [Act.put, List.setIfInBounds_toArray, List.set_cons_zero, List.set_cons_succ]
  refine takeL 5 (.slice (some ⟨db, dof, none⟩) 6 dc) rfl (by kernel_rfl) (by kernel_rfl) (by kernel_rfl) (fun _ _ _ h => h) (Or.inl ⟨rfl, fun w9 hSw => by have hc := hSw.1.cell 1 _ rfl; go_simp⟩) hHeld ?_
  try simp only [Act.put, List.setIfInBounds_toArray, List.set_cons_zero, List.set_cons_succ]
  have cRd : CsAt w1.drew (w.heap.size + 1) [.slice none 0 0, .slice none 0 0] := ⟨fun j v hv => cR.cells j v hv, fun j hj => cR.free j hj⟩
  have B1 := B0.drew
  have s1 : w.heap.size + 2 ≤ w1.drew.heap.size := s0
  clear cA cR B0 s0
  generalize w1.drew = w2 at *
  refine twoL 2 3 rfl rfl (by kernel_rfl) rfl rfl (fun K hK => ?_) (fun K hK => ?_)
  · go_simp
    refine (unhide HCP _ B1).mono ?_
    rintro e w3 ⟨g, G, c1, rfl, o3, b3⟩
    go_wp2_with fail
    have qb3 := b3.size
    refine hK.out _ _ ⟨hHeld.1.below b3 (by omega), by omega⟩ (fun hHeld3 => ?_)
    clear hK K hHeld
    try simp only [Act.put, List.setIfInBounds_toArray, List.set_cons_zero, List.set_cons_succ]
    refine oneL 3 rfl (by kernel_rfl) rfl (fun K hK => ?_)
    go_simp
    have bA : Below w3.heap.size w3 (w3.alloc (.cells #[] 3)) := (Below.refl _ _).alloc (Nat.le_refl _) _
    have rW := Rw.nil' w3 w3.heap.size (Nat.le_refl _)
    have hHeld3' := hHeld3
    refine hK.out _ _ ⟨hHeld3.1.below bA (by omega), by simp; omega⟩ (fun hHeld => ?_)
    clear hK K hHeld3 hHeld3'
    try simp only [Act.put, List.setIfInBounds_toArray, List.set_cons_zero, List.set_cons_succ]
    have o4 := o3.below bA (Nat.le_refl _)
    have c4 := (cRd.below b3 (by omega)).below bA (by omega)
    have B3 := B1.trans (b3.mono B1.size)
    have B4 := B3.trans (bA.mono B3.size)
    have o3hi := o3.hi
    have s4 : w3.heap.size + 1 ≤ (w3.alloc (.cells #[] 3)).heap.size := by simp
    clear o3 cRd B1 bA B3
    generalize w3.alloc (.cells #[] 3) = w4 at *
    refine oneL 6 rfl (by kernel_rfl) rfl (fun K hK => ?_)
    refine wp_append_at _ _ 24 rfl w3.heap.size 3 iI (.int .i64 0) 1 8 Tryz.underlying24 hiI hzI hsI hbI rfl (by omega) (.slice (some ⟨w3.heap.size, 0, none⟩) 0 0) 0 (isC []) rfl rW.row ⟨db, dof, none⟩ 6 dc (isC dk) rfl hl6 (src_mid (unhide HD _ B4)) (one_isC dk) (by simp [maxLen]) (by omega) (by omega) ?_
    intro v' wZ hoZ hgZ hatZ
    obtain ⟨d, c2, rfl, hdat, cD, hdlt⟩ : ∃ d c2, v' = .slice (some ⟨d, 0, none⟩) 6 c2 ∧ (d = w3.heap.size ∨ d = w4.heap.size) ∧ CsAt wZ d (isC dk) ∧ d < wZ.heap.size := by
      have hrow : wZ.ownsRow w3.heap.size 3 1 v' 6 (isC dk) := by simpa [isC] using hoZ
      obtain ⟨_, h2⟩ := hoZ
      rcases h2 with ⟨_, h2⟩ | ⟨d, c2, cur, rfl, hb, hh, _⟩
      · omega
      · have rp := row_pages (by omega) hrow
        refine ⟨d, c2, rfl, ?_, ⟨rp.1, by rw [len_isC, h6]; simpa using rp.2⟩, ?_⟩
        · simp [Value.ownBlock] at hatZ; exact hatZ
        · by_cases hlt : d < wZ.heap.size
          · exact hlt
          · have : wZ.heap[d]? = none := by simp; omega
            rw [this] at hh; cases hh
    have kZ : Kept [w3.heap.size] w4 wZ := (Kept.refl _ w4).grown hgZ (fun k e => .inl (by simp [Value.ownBlock] at e; simp [e]))
    have bZ : Below (w.heap.size + 2) w4 wZ := kZ.below (fun x hx => by simp at hx; subst hx; omega) (by omega)
    have qZ := kZ.size
    have oZ := own_kept o4 kZ (fun x hx hm => by simp at hm; subst hm; have := o3hi _ hx; omega)
    have cZ := c4.below bZ (by omega)
    have BZ := B4.trans (bZ.mono (by omega))
    have hdn : d ∉ g :: G := fun hm => by rcases hdat with h | h; (· subst h; have := o3hi _ hm; omega); (· subst h; have := o4.hi _ hm; omega)
    have hdl2 : w.heap.size + 2 ≤ d := by rcases hdat with h | h <;> omega
    refine hK.out _ _ ⟨hHeld.1.below bZ (by omega), by omega⟩ (fun hHeldZ => ?_)
    clear hK K hHeld
    try simp only [Act.put, List.setIfInBounds_toArray, List.set_cons_zero, List.set_cons_succ]
    have hlo : ∀ x ∈ g :: G, w.heap.size + 2 ≤ x := fun x hx => by have := o4.lo x hx; omega
    have SZ : OwnS wZ w.heap.size g G d bs dk := ⟨by rw [h4]; exact oZ.mono (by omega), cD, by omega, hdlt, hdn⟩
    refine oneL 7 rfl (by kernel_rfl) rfl (fun K hK => ?_)
    refine wp_build_two 26 _ _ rfl (.slice (some ⟨g, 0, none⟩) 4 c1) (.slice (some ⟨d, 0, none⟩) 6 c2) rfl rfl [.slice (some ⟨g, 0, none⟩) 4 c1, .slice (some ⟨d, 0, none⟩) 6 c2].toArray (unhide HBU g d c1 c2) ?_
    refine hK.out _ _ hHeldZ (fun _ => ?_)
    clear hK K
    try simp only [Act.put, List.setIfInBounds_toArray, List.set_cons_zero, List.set_cons_succ]
    have p1 := cZ.put [.slice (some ⟨g, 0, none⟩) 4 c1, .slice (some ⟨d, 0, none⟩) 6 c2] rfl
    have oz : Only [w.heap.size + 1] wZ (wZ.setCells (w.heap.size + 1) 0 [.slice (some ⟨g, 0, none⟩) 4 c1, .slice (some ⟨d, 0, none⟩) 6 c2]) := (Only.refl _ _).setCells (by simp) 0 _
    have SE := keptS SZ oz (by rw [size_setCells]; exact Nat.le_refl _) (fun x hx => by
      rcases List.mem_cons.1 hx with rfl | hx
      · simp; omega
      · have := hlo x hx; simp; omega)
    have BE := below_setCells (w.heap.size + 1) (show w.heap.size ≤ w.heap.size + 1 by omega) [.slice (some ⟨g, 0, none⟩) 4 c1, .slice (some ⟨d, 0, none⟩) 6 c2] 0 _ BZ
    have cE := hHeldZ.1.other (show w.heap.size ≠ w.heap.size + 1 by omega) 0 [.slice (some ⟨g, 0, none⟩) 4 c1, .slice (some ⟨d, 0, none⟩) 6 c2]
    refine oneL 8 rfl (by kernel_rfl) rfl (fun K hK => ?_)
    refine wp_store_mid 26 _ _ rfl (w.heap.size + 1) 0 [.slice (some ⟨g, 0, none⟩) 4 c1, .slice (some ⟨d, 0, none⟩) 6 c2].toArray rfl rfl cZ.free (unhide HSS) (by kernel_rfl) ?_
    refine hK.out _ _ ⟨cE, by rw [size_setCells]; exact hHeldZ.2⟩ (fun _ => ?_)
    clear hK K
    try simp only [Act.put, List.setIfInBounds_toArray, List.set_cons_zero, List.set_cons_succ]
    refine wpAnyH_done (by kernel_rfl) ?_ _
    refine NoPanic.normal ?_
    go_wp2_with fail
    refine bodyPost_ret (res_cell_mid Tryz.results50 _ _ (w.heap.size + 1) [.slice (some ⟨g, 0, none⟩) 4 c1, .slice (some ⟨d, 0, none⟩) 6 c2] _ rfl p1.cells Tryz.underlying26 rfl (by kernel_rfl)) rfl ?_
    exact ⟨g, G, d, c1, c2, rfl, SE, BE⟩
  · go_simp
    have bA : Below w2.heap.size w2 (w2.alloc (.cells #[] 3)) := (Below.refl _ _).alloc (Nat.le_refl _) _
    have rW0 := Rw.nil' w2 w2.heap.size (Nat.le_refl _)
    have s3 : w2.heap.size + 1 ≤ (w2.alloc (.cells #[] 3)).heap.size := by simp
    refine hK.out _ _ ⟨hHeld.1.below bA (by omega), by omega⟩ (fun hHeld3 => ?_)
    clear hK K hHeld
    try simp only [Act.put, List.setIfInBounds_toArray, List.set_cons_zero, List.set_cons_succ]
    have c3 := cRd.below bA (by omega)
    have B3 := B1.trans (bA.mono B1.size)
    clear cRd B1 bA
    generalize w2.alloc (.cells #[] 3) = w3 at *
    generalize hnb : w2.heap.size = nb at *
    refine oneL 2 rfl (by kernel_rfl) rfl (fun K hK => ?_)
    go_simp
    refine (unhide HCP _ B3).mono ?_
    rintro e w4 ⟨g, G, c1, rfl, o4, b4⟩
    go_wp2_with fail
    have qb4 := b4.size
    refine hK.out _ _ ⟨hHeld3.1.below b4 (by omega), by omega⟩ (fun hHeld => ?_)
    clear hK K hHeld3
    try simp only [Act.put, List.setIfInBounds_toArray, List.set_cons_zero, List.set_cons_succ]
    have rW := rW0.below b4 (Nat.le_refl _)
    have c4 := c3.below b4 (by omega)
    have B4 := B3.trans (b4.mono B3.size)
    have o4lo := o4.lo
    clear rW0 c3 B3
    refine oneL 6 rfl (by kernel_rfl) rfl (fun K hK => ?_)
    refine wp_append_at _ _ 24 rfl nb 3 iI (.int .i64 0) 1 8 Tryz.underlying24 hiI hzI hsI hbI rfl (by omega) (.slice (some ⟨nb, 0, none⟩) 0 0) 0 (isC []) rfl rW.row ⟨db, dof, none⟩ 6 dc (isC dk) rfl hl6 (src_mid (unhide HD _ B4)) (one_isC dk) (by simp [maxLen]) (by omega) (by omega) ?_
    intro v' wZ hoZ hgZ hatZ
    obtain ⟨d, c2, rfl, hdat, cD, hdlt⟩ : ∃ d c2, v' = .slice (some ⟨d, 0, none⟩) 6 c2 ∧ (d = nb ∨ d = w4.heap.size) ∧ CsAt wZ d (isC dk) ∧ d < wZ.heap.size := by
      have hrow : wZ.ownsRow nb 3 1 v' 6 (isC dk) := by simpa [isC] using hoZ
      obtain ⟨_, h2⟩ := hoZ
      rcases h2 with ⟨_, h2⟩ | ⟨d, c2, cur, rfl, hb, hh, _⟩
      · omega
      · have rp := row_pages (by omega) hrow
        refine ⟨d, c2, rfl, ?_, ⟨rp.1, by rw [len_isC, h6]; simpa using rp.2⟩, ?_⟩
        · simp [Value.ownBlock] at hatZ; exact hatZ
        · by_cases hlt : d < wZ.heap.size
          · exact hlt
          · have : wZ.heap[d]? = none := by simp; omega
            rw [this] at hh; cases hh
    have kZ : Kept [nb] w4 wZ := (Kept.refl _ w4).grown hgZ (fun k e => .inl (by simp [Value.ownBlock] at e; simp [e]))
    have bZ : Below (w.heap.size + 2) w4 wZ := kZ.below (fun x hx => by simp at hx; subst hx; omega) (by omega)
    have qZ := kZ.size
    have oZ := own_kept o4 kZ (fun x hx hm => by simp at hm; subst hm; have := o4lo _ hx; omega)
    have cZ := c4.below bZ (by omega)
    have BZ := B4.trans (bZ.mono (by omega))
    have hdn : d ∉ g :: G := fun hm => by rcases hdat with h | h; (· subst h; have := o4lo _ hm; omega); (· subst h; have := o4.hi _ hm; omega)
    have hdl2 : w.heap.size + 2 ≤ d := by rcases hdat with h | h <;> omega
    refine hK.out _ _ ⟨hHeld.1.below bZ (by omega), by omega⟩ (fun hHeldZ => ?_)
    clear hK K hHeld
    try simp only [Act.put, List.setIfInBounds_toArray, List.set_cons_zero, List.set_cons_succ]
    have hlo : ∀ x ∈ g :: G, w.heap.size + 2 ≤ x := fun x hx => by have := o4.lo x hx; omega
    have SZ : OwnS wZ w.heap.size g G d bs dk := ⟨by rw [h4]; exact oZ.mono (by omega), cD, by omega, hdlt, hdn⟩
    refine oneL 7 rfl (by kernel_rfl) rfl (fun K hK => ?_)
    refine wp_build_two 26 _ _ rfl (.slice (some ⟨g, 0, none⟩) 4 c1) (.slice (some ⟨d, 0, none⟩) 6 c2) rfl rfl [.slice (some ⟨g, 0, none⟩) 4 c1, .slice (some ⟨d, 0, none⟩) 6 c2].toArray (unhide HBU g d c1 c2) ?_
    refine hK.out _ _ hHeldZ (fun _ => ?_)
    clear hK K
    try simp only [Act.put, List.setIfInBounds_toArray, List.set_cons_zero, List.set_cons_succ]
    have p1 := cZ.put [.slice (some ⟨g, 0, none⟩) 4 c1, .slice (some ⟨d, 0, none⟩) 6 c2] rfl
    have oz : Only [w.heap.size + 1] wZ (wZ.setCells (w.heap.size + 1) 0 [.slice (some ⟨g, 0, none⟩) 4 c1, .slice (some ⟨d, 0, none⟩) 6 c2]) := (Only.refl _ _).setCells (by simp) 0 _
    have SE := keptS SZ oz (by rw [size_setCells]; exact Nat.le_refl _) (fun x hx => by
      rcases List.mem_cons.1 hx with rfl | hx
      · simp; omega
      · have := hlo x hx; simp; omega)
    have BE := below_setCells (w.heap.size + 1) (show w.heap.size ≤ w.heap.size + 1 by omega) [.slice (some ⟨g, 0, none⟩) 4 c1, .slice (some ⟨d, 0, none⟩) 6 c2] 0 _ BZ
    have cE := hHeldZ.1.other (show w.heap.size ≠ w.heap.size + 1 by omega) 0 [.slice (some ⟨g, 0, none⟩) 4 c1, .slice (some ⟨d, 0, none⟩) 6 c2]
    refine oneL 8 rfl (by kernel_rfl) rfl (fun K hK => ?_)
    refine wp_store_mid 26 _ _ rfl (w.heap.size + 1) 0 [.slice (some ⟨g, 0, none⟩) 4 c1, .slice (some ⟨d, 0, none⟩) 6 c2].toArray rfl rfl cZ.free (unhide HSS) (by kernel_rfl) ?_
    refine hK.out _ _ ⟨cE, by rw [size_setCells]; exact hHeldZ.2⟩ (fun _ => ?_)
    clear hK K
    try simp only [Act.put, List.setIfInBounds_toArray, List.set_cons_zero, List.set_cons_succ]
    refine wpAnyH_done (by kernel_rfl) ?_ _
    refine NoPanic.normal ?_
    go_wp2_with fail
    refine bodyPost_ret (res_cell_mid Tryz.results50 _ _ (w.heap.size + 1) [.slice (some ⟨g, 0, none⟩) 4 c1, .slice (some ⟨d, 0, none⟩) 6 c2] _ rfl p1.cells Tryz.underlying26 rfl (by kernel_rfl)) rfl ?_
    exact ⟨g, G, d, c1, c2, rfl, SE, BE⟩

set_option maxRecDepth 100000 in
set_option maxHeartbeats 4000000 in
theorem specTo_any (fa : Option Addr) (fc : Nat) (bs : List Bk) (da : Option Addr) (dc : Nat) (dk : List Int) (sa : Option Addr) (sc : Nat) (L : List Stp) (cut : Int) (torn : Bool) (w : World) (h : SAt w fa bs da dk) (hL : SsAt w sa L) (hm : bs.length ≤ 1048576) (hp : ∀ b ∈ bs, b.ps.length ≤ 1048576) (hm2 : dk.length ≤ 1048576) (hlen : L.length ≤ 1048576) :
    Calls Tryz.prog 21 #[.agg #[.slice fa bs.length fc, .slice da dk.length dc], .slice sa L.length sc, .int .i64 cut, .bool torn] w fun e w' => TpPost w bs dk L cut torn e w' := by
  have cS := (store_box w (.slice fa bs.length fc) (.slice da dk.length dc)).alloc (by simp) (.cells #[.slice none 0 0, .slice none 0 0] 26)
  have cR := store_box (w.alloc (.cells #[.slice fa bs.length fc, .slice da dk.length dc] 26)) (.slice none 0 0) (.slice none 0 0)
  rw [World.size_alloc] at cR
  have B0 : Below w.heap.size w ((w.alloc (.cells #[.slice fa bs.length fc, .slice da dk.length dc] 26)).alloc (.cells #[.slice none 0 0, .slice none 0 0] 26)) := ((Below.refl _ _).alloc (Nat.le_refl _) _).alloc (by simp) _
  have s0 : w.heap.size + 2 ≤ ((w.alloc (.cells #[.slice fa bs.length fc, .slice da dk.length dc] 26)).alloc (.cells #[.slice none 0 0, .slice none 0 0] 26)).heap.size := by simp
  have HA := hide h
  have HL := hide hL
  have HPP := hide hp
  have HTO : Hid (toOk bs dk L cut = (stB bs dk && L.all stkB && decide (0 ≤ cut))) := rfl
  have hli : (L.length : Int) ≤ 1048576 := by omega
  have HFALSE : Hid (toOk bs dk L cut = false → ∀ w', Below w.heap.size w w' → TpPost w bs dk L cut torn (.returned (.tuple #[.agg #[.slice none 0 0, .slice none 0 0], .bool false])) w') := fun h w' hb => .inl ⟨h, rfl, hb⟩
  clear h hL hp
  go_enter Tryz.func21, Tryz.ntmps21
  go_wp2
  generalize (w.alloc (.cells #[.slice fa bs.length fc, .slice da dk.length dc] 26)).alloc (.cells #[.slice none 0 0, .slice none 0 0] 26) = w0 at *
  go_loopw [10] (fun i w' => ∃ k : Nat, k ≤ L.length ∧ i = .int .i64 k ∧ Hid (∀ j (hj : j < L.length), j < k → stkB L[j] = true) ∧ CsAt w' w.heap.size [.slice fa bs.length fc, .slice da dk.length dc] ∧ CsAt w' (w.heap.size + 1) [.slice none 0 0, .slice none 0 0] ∧ w.heap.size + 2 ≤ w'.heap.size ∧ Below w.heap.size w w') (fun i _ => L.length - (intOf i).toNat)
  case atStart => exact ⟨0, by omega, rfl, (fun j hj h => by omega), cS, cR, s0, B0⟩
  case round =>
    clear cS cR s0 B0
    obtain ⟨k, hk, rfl, HI, hS, hR, hs, hB⟩ := hrel
    have r0 := hR.cell 0 _ rfl
    have r1 := hR.cell 1 _ rfl
    have f0 := hR.frozen 0 (by simp)
    have f1 := hR.frozen 1 (by simp)
    by_cases h0 : k = L.length
    · subst h0
      have HALL : Hid (L.all stkB = true) := by
        show _ = _
        rw [List.all_eq_true]
        intro x hx
        obtain ⟨j, hj, rfl⟩ := List.getElem_of_mem hx
        exact unhide HI j hj hj
      have HA1 := hide ((unhide HA).below hB)
      have HOK := hide (specOk_st fa fc bs da dc dk _ (unhide HA1) hm (unhide HPP) hm2)
      have x0 := hS.cell 0 _ rfl
      have x1 := hS.cell 1 _ rfl
      go_wp2_with fail
      refine (unhide HOK).mono ?_
      rintro e w3 ⟨rfl, b3⟩
      have hS3 := hS.below b3 (by omega)
      have hR3 := hR.below b3 (by omega)
      have hB3 := hB.trans (b3.mono hB.size)
      have s3 := Nat.le_trans hs b3.size
      have HA3 := hide ((unhide HA1).below b3)
      clear r0 r1 f0 f1 x0 x1 hS hR hB b3 HOK HA1
      have r0 := hR3.cell 0 _ rfl
      have r1 := hR3.cell 1 _ rfl
      have f0 := hR3.frozen 0 (by simp)
      have f1 := hR3.frozen 1 (by simp)
      have p1 := hR3.put [.slice none 0 0, .slice none 0 0] rfl
      have BZ := below_setCells (w.heap.size + 1) (show w.heap.size ≤ w.heap.size + 1 by omega) [.slice none 0 0, .slice none 0 0] 0 _ hB3
      cases hA1 : stB bs dk
      · have HP := hide (unhide HFALSE (by rw [unhide HTO, hA1]; rfl) _ BZ)
        go_wp2
        exact bodyPost_ret (res_cell_tmp Tryz.results21 _ _ (w.heap.size + 1) [.slice none 0 0, .slice none 0 0] _ rfl p1.cells Tryz.underlying26 rfl (by kernel_rfl)) rfl (unhide HP)
      by_cases hc : cut < 0
      · have HP := hide (unhide HFALSE (by rw [unhide HTO, hA1, unhide HALL]; simp; omega) _ BZ)
        go_wp2
        exact bodyPost_ret (res_cell_tmp Tryz.results21 _ _ (w.heap.size + 1) [.slice none 0 0, .slice none 0 0] _ rfl p1.cells Tryz.underlying26 rfl (by kernel_rfl)) rfl (unhide HP)
      have HTK : Hid (toOk bs dk L cut = true) := by show _ = _; rw [unhide HTO, hA1, unhide HALL]; simp; omega
      obtain ⟨hok, h6⟩ := st_parts hA1
      have h4 := ok_len hok
      have hF := ok_fours hok
      obtain ⟨fb, fo, rfl, hf1⟩ := fsome (unhide HA3).fs h4
      obtain ⟨db, dof, rfl, hd1⟩ := dsome (unhide HA3).ds h6
      rw [h4, h6] at hS3
      have HCP := hide (l11Copy_any fb fo fc db dof dc bs hF h4 dk h6 _ hf1 hd1)
      have x0 := hS3.cell 0 _ rfl
      have x1 := hS3.cell 1 _ rfl
      have HL3 := hide ((unhide HL).below hB3)
      have HSTP := hide (fun x hx => stk_stp (all_at (unhide HALL) x hx))
      have HOKB := hide (okB_toB bs L cut torn hok (unhide HSTP))
      have HTOA := hide (fun lo g d c1 c2 G w' (hSt : St w' lo g d G bs dk) hsa => to_any lo g d c1 c2 G bs dk sa sc L cut torn w' hSt hok (unhide HSTP) hlen hsa)
      clear BZ p1 hf1 hd1 HFALSE HTO hA1 HI HA3
      go_wp2_with fail
      refine (unhide HCP).mono ?_
      rintro e w4 ⟨g, G, d, c1, c2, rfl, o4, b4⟩
      have q4 := b4.size
      have hR4 := hR3.below b4 (by omega)
      have hB4 := hB3.trans (b4.mono hB3.size)
      have hSt : St w4 w3.heap.size g d G bs dk := ⟨by have := o4.own; rwa [h4] at this, o4.ds, o4.dlo, o4.dhi, o4.dne, h6⟩
      have hlo : ∀ x ∈ d :: g :: G, w3.heap.size ≤ x := fun x hx => by rcases List.mem_cons.1 hx with rfl | hx; exact o4.dlo; exact o4.own.lo x hx
      have hsa : L = [] ∨ ∃ gs so, sa = some ⟨gs, so, none⟩ ∧ gs ∉ d :: g :: G ∧ gs < w4.heap.size ∧ w4.rangeAt gs so (stsC L) := by
        by_cases hz : L = []
        · exact .inl hz
        · rcases unhide HL3 with h | ⟨gs, so, rfl, hr⟩
          · exact absurd h hz
          · have hlt := stsC_lt hr (List.length_pos_iff.2 hz)
            exact .inr ⟨gs, so, rfl, fun hm => by have := hlo _ hm; omega, by omega, rangeAt_below hr b4 hlt⟩
      have HTC := hide (unhide HTOA w3.heap.size g d c1 c2 G w4 hSt hsa)
      clear x0 x1 r0 r1 f0 f1 hR3 hB3 b4 o4 hS3 HCP HTOA hsa HL3
      go_wp2_with fail
      refine (unhide HTC).mono ?_
      rintro e w5 ⟨rfl, hS5, k5⟩
      have q5 := k5.size
      have hR5 := csAt_kept hR4 k5 (by omega) (fun hm => by have := hlo _ hm; omega)
      have hB5 := hB4.trans (k5.below (B := w.heap.size) (fun x hx => by have := hlo x hx; omega) (by omega))
      clear hR4 hB4 k5 HTC hSt
      have r0 := hR5.cell 0 _ rfl
      have r1 := hR5.cell 1 _ rfl
      have f0 := hR5.frozen 0 (by simp)
      have f1 := hR5.frozen 1 (by simp)
      have p1 := hR5.put [.slice (some ⟨g, 0, none⟩) 4 c1, .slice (some ⟨d, 0, none⟩) 6 c2] rfl
      have oz : Only [w.heap.size + 1] w5 (w5.setCells (w.heap.size + 1) 0 [.slice (some ⟨g, 0, none⟩) 4 c1, .slice (some ⟨d, 0, none⟩) 6 c2]) := (Only.refl _ _).setCells (by simp) 0 _
      have S5 : OwnS w5 w.heap.size g G d (toB bs L cut torn) (toK dk L cut torn) := ⟨by rw [ok_len (unhide HOKB)]; exact hS5.own.mono (by omega), hS5.disk, by have := hlo d (by simp); omega, hS5.dhi, hS5.dn⟩
      have SZ := keptS S5 oz (by rw [size_setCells]; exact Nat.le_refl _) (fun x hx => by have := hlo x hx; simp; omega)
      have BZ := below_setCells (w.heap.size + 1) (show w.heap.size ≤ w.heap.size + 1 by omega) [.slice (some ⟨g, 0, none⟩) 4 c1, .slice (some ⟨d, 0, none⟩) 6 c2] 0 _ hB5
      have HP : Hid (TpPost w bs dk L cut torn (.returned (.tuple #[.agg #[.slice (some ⟨g, 0, none⟩) 4 c1, .slice (some ⟨d, 0, none⟩) 6 c2], .bool true])) (w5.setCells (w.heap.size + 1) 0 [.slice (some ⟨g, 0, none⟩) 4 c1, .slice (some ⟨d, 0, none⟩) 6 c2])) := .inr ⟨unhide HTK, g, G, d, c1, c2, rfl, SZ, BZ⟩
      clear hR5 hB5 S5 SZ BZ oz hS5
      go_wp2
      exact bodyPost_ret (res_cell_tmp Tryz.results21 _ _ (w.heap.size + 1) [.slice (some ⟨g, 0, none⟩) 4 c1, .slice (some ⟨d, 0, none⟩) 6 c2] _ rfl p1.cells Tryz.underlying26 rfl (by kernel_rfl)) rfl (unhide HP)
    · have hlt : (k : Int) < (L.length : Int) := by omega
      have hkb : k < L.length := by omega
      have hlo : (0 : Int) ≤ (k : Int) := by omega
      obtain ⟨sb, so, rfl, rX, lX⟩ := ((unhide HL).below hB).at k hkb
      have HIN : Hid (∀ b, stkB L[k] = b → (b = true → ∀ j (hj : j < L.length), j < k + 1 → stkB L[j] = true) ∧ (b = false → L.all stkB = false)) := fun b hb => ⟨fun e j hj h => by
          by_cases q : j = k
          · subst q; rw [hb]; exact e
          · exact unhide HI j hj (by omega), fun e => by
          cases q : L.all stkB
          · rfl
          · rw [List.all_eq_true] at q
            have := q L[k] (List.getElem_mem hkb)
            rw [hb, e] at this; cases this⟩
      generalize L[k] = x at *
      have HS8 := hide (size_s8 x)
      have HST := hide (l12Step_any x)
      go_wp2_with (refine wpList_load_mid rfl 38 _ rfl sb (so + k * 8) rfl (stC x) _ rX Tryz.underlying38 rfl (unhide HS8) ?_)
      refine (unhide HST _).mono ?_
      rintro e w3 ⟨rfl, b3⟩
      have hS3 := hS.below b3 (by omega)
      have hR3 := hR.below b3 (by omega)
      have hB3 := hB.trans (b3.mono hB.size)
      have s3 := Nat.le_trans hs b3.size
      clear r0 r1 f0 f1 rX hS hR hB b3 HST
      cases hx : stkB x
      · have HE := hide ((unhide HIN false hx).2 rfl)
        have r0 := hR3.cell 0 _ rfl
        have r1 := hR3.cell 1 _ rfl
        have f0 := hR3.frozen 0 (by simp)
        have f1 := hR3.frozen 1 (by simp)
        have p1 := hR3.put [.slice none 0 0, .slice none 0 0] rfl
        have BZ := below_setCells (w.heap.size + 1) (show w.heap.size ≤ w.heap.size + 1 by omega) [.slice none 0 0, .slice none 0 0] 0 _ hB3
        have HP := hide (unhide HFALSE (by rw [unhide HTO, unhide HE]; simp) _ BZ)
        clear hS3 hR3 BZ hB3
        go_wp2
        exact bodyPost_ret (res_cell_tmp Tryz.results21 _ _ (w.heap.size + 1) [.slice none 0 0, .slice none 0 0] _ rfl p1.cells Tryz.underlying26 rfl (by kernel_rfl)) rfl (unhide HP)
      · have HI2 := hide ((unhide HIN true hx).1 rfl)
        go_wp2
        go_roundw
        case rel => exact ⟨k + 1, by omega, by first | rfl | go_num, HI2, hS3, hR3, s3, hB3⟩
        case measure => simp [intOf]; omega
end Go.Proofs.YtbiokmojjneleaaGreat.SpV

/-
  The laws' own lists of steps: how much; the same as the program's, in memory of its own; an argument that is such a list.
-/
namespace Go.Proofs.YtbiokmojjneleaaGreat.LawW
open Go.ChangeShapes Go.WideShapes Go.ChangeAt Go.RowKit Go.Joins Go.Deep OkA Big Fl ImplB ImplF ImplS _root_.Go.Proofs.YtbiokmojjneleaaGreat.Own ImplT ImplU SpecA SpecB LawsA OpenF Pl ImplL Kp RmA LawU
set_option linter.unusedVariables false
set_option linter.unusedSimpArgs false

def rcA (x : Stp) : Array Value := #[.int .i64 x.r.k, .int .i64 x.r.s, .int .i64 x.r.a, .int .i64 x.r.v]
theorem one_rcA (x : Stp) : (rcA x).all (·.oneCell') = true := one_rec _ _ _ _
theorem size_rcA (x : Stp) : (Tryz.prog.info? 36).map (·.size) = some (rcA x).size := by show _ = some 4; kernel_rfl
theorem stsC_take (ps : List Stp) (k : Nat) (hk : k < ps.length) : stsC (ps.take (k + 1)) = stsC (ps.take k) ++ stC ps[k] := by
  rw [List.take_succ_eq_append_getElem hk]; simp only [stsC, List.flatMap_append, List.flatMap_cons, List.flatMap_nil, List.append_nil]

/-- A row of steps in new memory. -/
def RowS (w : World) (ps : List Stp) (e : Ending) (w' : World) : Prop := e = .returned (.slice (some ⟨w.heap.size, 0, none⟩) ps.length ps.length) ∧ CsAt w' w.heap.size (stsC ps) ∧ w.heap.size < w'.heap.size ∧ Below w.heap.size w w'

/-! An argument that is a list of steps. -/
theorem list8 {cs : List Value} (h : cs.length = 8) : ∃ a b c d e f g i, cs = [a, b, c, d, e, f, g, i] := by
  match cs, h with
  | [a, b, c, d, e, f, g, i], _ => exact ⟨a, b, c, d, e, f, g, i, rfl⟩
variable {H : Type} {enc : TypeId × Value → H} {w : World}
theorem trod_struct5 {P : Program} {base : Nat} {spare : Nat → Bool} {held : Bool} {t : TypeId} {f0 f1 f2 f3 f4 : Field} {fuel : Nat} {cs : List Value} {x : DataW H × List MemPlace} (ht : P.underlying t = some (.struct #[f0, f1, f2, f3, f4])) (h : DataW.trod enc P w base spare held fuel t cs = some x) :
    ∃ y0 y1 y2 y3 y4 n, cs.length = P.cellsOf t ∧ DataW.trod enc P w base spare held n f0.type ((cs.drop f0.offset).take (P.cellsOf f0.type)) = some y0 ∧ DataW.trod enc P w base spare held n f1.type ((cs.drop f1.offset).take (P.cellsOf f1.type)) = some y1 ∧ DataW.trod enc P w base spare held n f2.type ((cs.drop f2.offset).take (P.cellsOf f2.type)) = some y2 ∧
      DataW.trod enc P w base spare held n f3.type ((cs.drop f3.offset).take (P.cellsOf f3.type)) = some y3 ∧ DataW.trod enc P w base spare held n f4.type ((cs.drop f4.offset).take (P.cellsOf f4.type)) = some y4 := by
  obtain ⟨xs, n, _, rfl, hl, hlen, hf⟩ := DataW.trod_struct ht h
  match xs, hlen with
  | [y0, y1, y2, y3, y4], _ => exact ⟨y0, y1, y2, y3, y4, n, hl, by simpa using hf 0 f0 rfl, by simpa using hf 1 f1 rfl, by simpa using hf 2 f2 rfl, by simpa using hf 3 f3 rfl, by simpa using hf 4 f4 rfl⟩
theorem here : True := trivial
end Go.Proofs.YtbiokmojjneleaaGreat.LawW

/-
  A store that a call has answered: none, or four blocks and six numbers in memory of its own. Whether two are the same; marks.
-/
namespace Go.Proofs.YtbiokmojjneleaaGreat.MkN
open Go.ChangeShapes Go.WideShapes Go.ChangeAt Go.RowKit Go.Shelf OkA Big Fl ImplB ImplF ImplS _root_.Go.Proofs.YtbiokmojjneleaaGreat.Own ImplT ImplU SpecA SpecB SpecC SpecD SpecW SpecF SpecG SpecH Ok2 Pl FindP SpecX SpecY ImplW ImplX ImplL Kp StA MpA StB StC StD StE StF StG FindL Gd LawU LawS LawV LawI LawT LawW MarkB SpS SpT DoA ToA QuA QuB QuC QuD QuE SpV1 SpV
set_option linter.unusedVariables false
set_option linter.unusedSimpArgs false
attribute [local go_sem ↓] Go.wp_at_zero Go.wp_at_succ

def MarkPostO (w : World) (lo g N n : Nat) (G : List Nat) (k : Int) (e : Ending) (w' : World) : Prop := e = .returned (.int .i64 (k + 21 * (n : Nat))) ∧ Own.Own w' lo g G (mkBs n k) N ∧ Below lo w w' ∧ w'.heap.size = w.heap.size ∧ Only (g :: G) w w'
/-- Marks on a store of four blocks and six numbers. -/
def MnPost (w : World) (lo g : Nat) (G : List Nat) (d : Nat) (e : Ending) (w' : World) : Prop := e = .returned (.int .i64 91) ∧ OwnS w' lo g G d (mkBs 4 1) (mkI 6 85) ∧ OnlyG (d :: g :: G) w w' ∧ Below lo w w'
/-! The marks on an argument's store and steps, with a bound. -/
def MbPost (w : World) (lo g : Nat) (G : List Nat) (d : Nat) (e : Ending) (w' : World) : Prop := ∃ m : Int, e = .returned (.int .i64 m) ∧ 0 ≤ m ∧ m ≤ 6900000000000 ∧ OnlyG (d :: g :: G) w w' ∧ Below lo w w'
/-! An answer. -/
variable {w w' : World} {L : List Nat}
def InT (w : World) (lo hi : Nat) (x y : Value) (ok : Bool) (bs : List Bk) (dk : List Int) : Prop :=
  (ok = false ∧ x = .slice none 0 0 ∧ y = .slice none 0 0) ∨ (ok = true ∧ ∃ g G d c1 c2, x = .slice (some ⟨g, 0, none⟩) 4 c1 ∧ y = .slice (some ⟨d, 0, none⟩) 6 c2 ∧ OwnS w lo g G d bs dk ∧ (∀ z ∈ d :: g :: G, lo ≤ z ∧ z < hi) ∧ Fours bs ∧ bs.length = 4 ∧ dk.length = 6)
theorem own_og {lo g n : Nat} {G : List Nat} {bs : List Bk} (h : Own.Own w lo g G bs n) (ho : OnlyG L w w') (hL : ∀ x ∈ g :: G, x ∉ L) : Own.Own w' lo g G bs n := by
  have hlen := h.len
  have hg := hL g (by simp)
  have hgh := h.hi g (by simp)
  have hG : ∀ i (hi : i < bs.length), G[i]'(by omega) < w.heap.size ∧ G[i]'(by omega) ∉ L := fun i hi => ⟨h.hi _ (List.mem_cons_of_mem _ (List.getElem_mem _)), hL _ (List.mem_cons_of_mem _ (List.getElem_mem _))⟩
  refine ⟨h.len, h.nd, h.lo, fun x hx => Nat.lt_of_lt_of_le (h.hi x hx) ho.size, h.fit, fun j hj => ?_, fun i hi => ?_, fun i hi => ?_, fun i hi j v hv => ?_, fun i hi j hj => ?_, fun i hi a m c hc => h.caps i hi a m c (by rw [ho.cell _ _ hgh hg] at hc; exact hc)⟩
  · rw [ho.cell _ _ hgh hg, ho.frozen _ _ hgh hg]; exact h.room j hj
  · obtain ⟨c, hc⟩ := h.out i hi
    exact ⟨c, by rw [ho.cell _ _ hgh hg]; exact hc⟩
  · rw [ho.cell _ _ hgh hg]; exact h.worn i hi
  · rw [ho.cell _ _ (hG i hi).1 (hG i hi).2]; exact h.pgs i hi j v hv
  · rw [ho.cell _ _ (hG i hi).1 (hG i hi).2, ho.frozen _ _ (hG i hi).1 (hG i hi).2]; exact h.free i hi j hj
theorem InT.only {lo hi : Nat} {x y : Value} {ok : Bool} {bs : List Bk} {dk : List Int} (h : InT w lo hi x y ok bs dk) (ho : OnlyG L w w') (hL : ∀ z ∈ L, z < lo ∨ hi ≤ z) : InT w' lo hi x y ok bs dk := by
  rcases h with h | ⟨rfl, g, G, d, c1, c2, rfl, rfl, o, hr, hF, h4, h6⟩
  · exact .inl h
  · have hn : ∀ z ∈ d :: g :: G, z ∉ L := fun z hz hm => by have := hr z hz; have := hL z hm; omega
    have hd := hn d (by simp)
    refine .inr ⟨rfl, g, G, d, c1, c2, rfl, rfl, ⟨own_og o.own ho (fun z hz => hn z (List.mem_cons_of_mem _ hz)), ⟨fun j u hu => by rw [ho.cell d _ o.dhi hd]; exact o.ds.cells j u hu, fun j hj => by rw [ho.cell d _ o.dhi hd, ho.frozen d _ o.dhi hd]; exact o.ds.free j hj⟩, o.dlo, Nat.lt_of_lt_of_le o.dhi ho.size, o.dne⟩, hr, hF, h4, h6⟩
theorem InT.below {lo hi : Nat} {x y : Value} {ok : Bool} {bs : List Bk} {dk : List Int} (h : InT w lo hi x y ok bs dk) (hb : Below w.heap.size w w') : InT w' lo hi x y ok bs dk := h.only (L := []) (OnlyG.of hb) (fun z hz => by simp at hz)
theorem doD_len (dk : List Int) (x : Stp) (t : Bool) : (doD dk x t).length = dk.length := by unfold doD; (repeat' split) <;> simp
theorem toD_len : ∀ (l : List Stp) (dk : List Int), (toD dk l).length = dk.length := by
  intro l
  induction l with
  | nil => intro dk; rfl
  | cons x r ih => intro dk; show (toD (doD dk x false) r).length = _; rw [ih, doD_len]
theorem toK_len (dk : List Int) (l : List Stp) (cut : Int) (torn : Bool) : (toK dk l cut torn).length = dk.length := by
  unfold toK; split
  · rw [doD_len, toD_len]
  · rw [toD_len]
theorem InT.of {bs : List Bk} {dk : List Int} {l : List Stp} {cut : Int} {torn : Bool} {e : Ending} (h : TpPost w bs dk l cut torn e w') :
    ∃ x y, e = .returned (.tuple #[.agg #[x, y], .bool (toOk bs dk l cut)]) ∧ InT w' w.heap.size w'.heap.size x y (toOk bs dk l cut) (toB bs l cut torn) (toK dk l cut torn) ∧ Below w.heap.size w w' := by
  rcases h with ⟨h1, rfl, b⟩ | ⟨h1, g, G, d, c1, c2, rfl, o, b⟩
  · exact ⟨_, _, by rw [h1], .inl ⟨h1, rfl, rfl⟩, b⟩
  · have h2 := h1
    unfold toOk at h2
    simp only [Bool.and_eq_true] at h2
    obtain ⟨hok, h6⟩ := st_parts h2.1.1
    have hT := okB_toB bs l cut torn hok (fun x hx => stk_stp (all_at h2.1.2 x hx))
    refine ⟨_, _, by rw [h1], .inr ⟨h1, g, G, d, c1, c2, rfl, rfl, o, fun z hz => ?_, ok_fours hT, ok_len hT, by rw [toK_len]; exact h6⟩, b⟩
    rcases List.mem_cons.1 hz with rfl | hz
    · exact ⟨o.dlo, o.dhi⟩
    · exact ⟨o.own.lo z hz, o.own.hi z hz⟩
theorem InT.form {lo hi : Nat} {x y : Value} {ok : Bool} {bs : List Bk} {dk : List Int} (h : InT w lo hi x y ok bs dk) : ∃ a1 n1 c1 a2 n2 c2, x = .slice a1 n1 c1 ∧ y = .slice a2 n2 c2 := by
  rcases h with ⟨_, rfl, rfl⟩ | ⟨_, g, G, d, c1, c2, rfl, rfl, _⟩
  · exact ⟨_, _, _, _, _, _, rfl, rfl⟩
  · exact ⟨_, _, _, _, _, _, rfl, rfl⟩
def mT (ok : Bool) : Int := if ok then 91 else 1
def MtPost (w : World) (lo hi : Nat) (x y : Value) (ok : Bool) (e : Ending) (w' : World) : Prop := e = .returned (.int .i64 (mT ok)) ∧ InT w' lo hi x y ok (mkBs 4 1) (mkI 6 85) ∧ ∃ M : List Nat, OnlyG M w w' ∧ Below lo w w' ∧ ∀ z ∈ M, lo ≤ z ∧ z < hi
theorem here : True := trivial
end Go.Proofs.YtbiokmojjneleaaGreat.MkN
