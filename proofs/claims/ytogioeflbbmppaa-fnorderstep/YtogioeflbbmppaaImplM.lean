/-
  The program's spans of all blocks: the written pages, gone by by the iterator.
-/
import Derived.Test.YtogioeflbbmppaaImplN
namespace Go.Proofs.Ytogioeflbbmppaa.ImplM
open Go.ChangeShapes Go.WideShapes Go.ChangeAt Go.RowKit Go.Shelf OkA Big Fl ImplB ImplF ImplS _root_.Go.Proofs.Ytogioeflbbmppaa.Own ImplT ImplU SpecA SpecB SpecC SpecD SpecW SpecF SpecG SpecH Ok2 Pl FindP Rnd Iter ImplL ImplO ImplN
set_option linter.unusedVariables false
set_option linter.unusedSimpArgs false
attribute [local go_sem] Oper.semAt_some
attribute [local go_sem ↓] Go.wp_at_zero Go.wp_at_succ

theorem csAt_drew {w : World} {b : Nat} {cs : List Value} (h : CsAt w b cs) : CsAt w.drew b cs := ⟨fun j v hv => h.cells j v hv, fun j hj => h.free j hj⟩
theorem keeps_below {w w' : World} (h : Below w.heap.size w w') : KeepsOthers w w' := ⟨h.size, fun k o hk ho => (h.block k (Array.getElem?_eq_some_iff.1 hk).1).trans hk⟩
theorem keeps_drew (w : World) : KeepsOthers w w.drew := ⟨Nat.le_refl _, fun k o hk ho => hk⟩
theorem part_sps (l : List Sp) (i : Nat) (hi : i < l.length) : ((spsC l).drop (i * 2)).take 2 = spC l[i] := part_of spC 2 l (fun _ _ => rfl) i hi
theorem ext_sps (l : List Sp) (k : Nat) (hk : k < l.length) : (spsC l).toArray.extract ((k : Int).toNat * 2) ((k : Int).toNat * 2 + 2) = #[.int .i64 l[k].1, .int .i64 l[k].2] := by
  rw [Int.toNat_natCast]; exact extract_of _ _ _ _ (part_sps l k hk)
theorem csSpan {w : World} {b : Nat} {l : List Sp} (h : CsAt w b (spsC l)) (i : Nat) (hi : i < l.length) : w.rangeAt b (i * 2) (spC l[i]) := by
  have := rangeAt_sub h.cells (i * 2) 2
  rw [part_sps l i hi, Nat.zero_add] at this
  exact this
theorem csSpot {w : World} {b : Nat} {l : List Sp} (h : CsAt w b (spsC l)) (i : Nat) (hi : i < l.length) : w.there b (i * 2) 2 := by
  have := there_sub h.free (i * 2) 2 (by rw [len_spsC]; omega)
  rwa [Nat.zero_add] at this
theorem csLay {w : World} {b : Nat} {l : List Sp} (h : CsAt w b (spsC l)) (i : Nat) (hi : i < l.length) (y : Sp) : CsAt (w.setCells b (i * 2) (spC y)) b (spsC (l.set i y)) := by
  have := range_set spC 2 (fun _ _ => rfl) i hi y rfl h.cells (by rw [Nat.zero_add]; exact csSpot h i hi)
  rw [Nat.zero_add] at this
  refine ⟨this, ?_⟩
  rw [len_spsC, List.length_set, ← len_spsC]
  exact World.there_setCells h.free _ _ _
theorem size_sps {l : List Sp} (h : l.length = 4) : (Try.prog.info? 108).map (·.size) = some (spsC l).length := by rw [len_spsC, h]; kernel_rfl
theorem one_sps (l : List Sp) : (spsC l).toArray.all (·.oneCell') = true := all_oneCell_toArray (by
  intro v hv
  simp only [spsC, List.mem_flatMap, spC, List.mem_cons, List.not_mem_nil, or_false] at hv
  obtain ⟨y, _, rfl | rfl⟩ := hv <;> rfl)
def SsPost (w : World) (l : List Sp) (e : Ending) (w' : World) : Prop := e = .returned (.agg (spsC l).toArray) ∧ Below w.heap.size w w'

set_option maxRecDepth 100000 in
set_option maxHeartbeats 2000000 in
theorem spans_in (bs : List Bk) (h4 : bs.length = 4) (hF : Fours bs) (w : World) :
    CallsIn Fence.wide 9 Try.prog 101 #[.agg (fsC bs).toArray] w fun e w' => SsPost w (bs.map spB) e w' := by
  have HLR : Hid (spW zSp (wrA (blks bs)) = bs.map spB) := spW_all bs h4
  have HLL : Hid ((bs.map spB).length = 4) := by show _ = _; rw [List.length_map, h4]
  generalize bs.map spB = R at *
  refine callsIn_of_wp_marks Try.func101 rfl trivial ?_ rfl
  simp only [Try.ntmps101, List.size_toArray, List.length_cons, List.length_nil, Nat.reduceAdd, Nat.reduceSub, Array.replicate_succ, Array.replicate_zero, List.push_toArray, List.append_toArray, List.nil_append, List.cons_append]
  have HS := hide (size_fsl hF h4)
  have r0 := rangeAt_new w (fsC bs) 73
  have B1 : Below w.heap.size w (((w.alloc (.cells (fsC bs).toArray 73)).alloc (.cells (spsC zSp).toArray 108)).alloc (.cells (spsC zSp).toArray 108)) := (((Below.refl _ _).alloc (Nat.le_refl _) _).alloc (by simp) _).alloc (by simp; omega) _
  have r1 : (((w.alloc (.cells (fsC bs).toArray 73)).alloc (.cells (spsC zSp).toArray 108)).alloc (.cells (spsC zSp).toArray 108)).rangeAt w.heap.size 0 (fsC bs) := by
    refine rangeAt_below r0 (B := w.heap.size + 1) ?_ (by omega)
    exact ((Below.refl _ _).alloc (by simp) _).alloc (by simp) _
  have cR : CsAt (((w.alloc (.cells (fsC bs).toArray 73)).alloc (.cells (spsC zSp).toArray 108)).alloc (.cells (spsC zSp).toArray 108)) (w.heap.size + 1) (spsC zSp) := by
    have := (CsAt.new (w.alloc (.cells (fsC bs).toArray 73)) (spsC zSp) 108).alloc (by simp) (.cells (spsC zSp).toArray 108)
    rwa [World.size_alloc] at this
  have cL : CsAt (((w.alloc (.cells (fsC bs).toArray 73)).alloc (.cells (spsC zSp).toArray 108)).alloc (.cells (spsC zSp).toArray 108)) (w.heap.size + 1 + 1) (spsC zSp) := by
    have := CsAt.new ((w.alloc (.cells (fsC bs).toArray 73)).alloc (.cells (spsC zSp).toArray 108)) (spsC zSp) 108
    rwa [World.size_alloc, World.size_alloc] at this
  have s1 : (((w.alloc (.cells (fsC bs).toArray 73)).alloc (.cells (spsC zSp).toArray 108)).alloc (.cells (spsC zSp).toArray 108)).heap.size = w.heap.size + 1 + 1 + 1 := by simp
  rw [show (spsC zSp).toArray = #[Value.int .i64 0, .int .i64 0, .int .i64 0, .int .i64 0, .int .i64 0, .int .i64 0, .int .i64 0, .int .i64 0] from rfl] at B1 r1 cR cL s1
  gi_wp2_with (first | (refine one_in wide_in rfl (by intro c h; cases h) (fun Q' hq => wpList_box_big rfl _ _ rfl (fsC bs).toArray rfl hq) ?_) | (refine one_in wide_in rfl (by intro c h; cases h) (fun Q' hq => wpList_load_mid rfl 73 _ rfl w.heap.size 0 rfl (fsC bs) _ r1 Try.underlying73 rfl (unhide HS) hq) ?_))
  clear r0
  generalize ((w.alloc (.cells (fsC bs).toArray 73)).alloc (.cells #[Value.int .i64 0, .int .i64 0, .int .i64 0, .int .i64 0, .int .i64 0, .int .i64 0, .int .i64 0, .int .i64 0] 108)).alloc (.cells #[Value.int .i64 0, .int .i64 0, .int .i64 0, .int .i64 0, .int .i64 0, .int .i64 0, .int .i64 0, .int .i64 0] 108) = w1 at *
  refine ⟨trivial, (callsIn_wide.2 (written_any bs _)).mono ?_⟩
  rintro e w' ⟨rfl, rfl⟩
  gi_wp2
  have rK := rangeAt_new w1 (fsC bs) 73
  have B2 := B1.alloc B1.size (.cells (fsC bs).toArray 73)
  have cR2 := cR.alloc (by omega) (.cells (fsC bs).toArray 73)
  have cL2 := cL.alloc (by omega) (.cells (fsC bs).toArray 73)
  have s2 : (w1.alloc (.cells (fsC bs).toArray 73)).heap.size = w.heap.size + 4 := by rw [World.size_alloc, s1]
  have hk : w1.heap.size < (w1.alloc (.cells (fsC bs).toArray 73)).heap.size := by rw [World.size_alloc]; omega
  rw [s1] at rK hk
  clear B1 cR cL r1
  generalize w1.alloc (.cells (fsC bs).toArray 73) = w2 at *
  generalize hsz : w.heap.size = sz at *
  refine wpIn_rangeFunc_ownH (α := Wr) rfl (by omega) (gf := 111) (lb := #[.pointer (some ⟨sz + 1 + 1 + 1, 0, none⟩)]) rfl trivial (enters_of Try.func111 (by kernel_rfl) rfl)
    (written_stops 8 (sz + 1 + 1 + 1) bs h4 hF w2 hk rK) (fun _ _ => trivial) (fun _ _ _ _ _ _ _ _ => trivial) (Below.refl _ _) (fun _ => rfl)
    (fun pre W => CsAt W (sz + 1 + 1) (spsC (spW zSp pre)) ∧ CsAt W (sz + 1) (spsC zSp) ∧ Below sz w W ∧ sz + 4 ≤ W.heap.size)
    (fun _ _ _ => False)
    (OwnFrom.and (Own.from (own_cs (sz + 1 + 1) (fun pre => spsC (spW zSp pre))) _) (OwnFrom.and (Own.from (own_cs (sz + 1) (fun _ => spsC zSp)) _) (OwnFrom.and (ownFrom_below (by omega) (by omega)) (ownFrom_size (sz + 4)))))
    (fun _ _ _ _ _ hs _ _ => hs)
    ⟨cL2, cR2, B2, by omega⟩
    (fun x a' W => ∃ Bx, sz + 4 ≤ Bx ∧ CsAt W Bx (rcC x.2) ∧ a' = { tmps := #[.agg (fsC bs).toArray, .pointer (some ⟨sz, 0, none⟩), .pointer (some ⟨sz + 1, 0, none⟩), .pointer (some ⟨sz + 1 + 1, 0, none⟩), .int .i64 (x.1 : Nat), .pointer (some ⟨Bx, 0, none⟩), .agg (fsC bs).toArray, .func (.func 111) #[] #[.pointer (some ⟨sz + 1 + 1 + 1, 0, none⟩)], .int .i64 (x.1 : Nat), .agg (rcC x.2).toArray, undef, undef, undef, undef, undef, undef, undef, undef, undef], defers := [] })
    (fun x a' => Own.from (fun _ A B row hs hg hr => by obtain ⟨Bx, h1, h2, h3⟩ := hs; exact ⟨Bx, h1, h2.kept hg hr, h3⟩) _) ?assign ?body ?done ?stop
  case assign =>
    rintro l pre x W K ⟨hL, hR, hB, hs⟩ hK
    rw [show encW x = #[.int .i64 (x.1 : Nat), .agg #[.int .i64 x.2.k, .int .i64 x.2.s, .int .i64 x.2.a, .int .i64 x.2.v]] from rfl]
    gi_wp2
    exact hK _ _ ((KeepsOthers.alloc _ _).from _) trivial ⟨hL.alloc (by omega) _, hR.alloc (by omega) _, hB.alloc (by omega) _, by rw [World.size_alloc]; omega⟩ ⟨W.heap.size, hs, CsAt.new W (rcC x.2) 25, rfl⟩
  case body =>
    rintro l pre x a' W hl _ ⟨hL, hR, hB, hs⟩ ⟨Bx, hBx, hX, rfl⟩ hlt
    have HN := hide (spW_one zSp pre x)
    have hl4 : (spW zSp pre).length = 4 := by rw [spW_len]; rfl
    generalize spW zSp pre = L at *
    have hxl : (x.1 : Nat) < L.length := by omega
    have hx0 : (0 : Int) ≤ ((x.1 : Nat) : Int) := by omega
    have hx4 : ((x.1 : Nat) : Int) < 4 := by omega
    have HD : Hid (L.getD x.1 (0, 0) = L[(x.1 : Nat)]) := by show _ = _; rw [List.getD_eq_getElem?_getD, List.getElem?_eq_getElem hxl]; rfl
    have HC := hide (fun (w' : World) => with_any L[(x.1 : Nat)] x.2.s w')
    have hXl := hX.lt (by simp [rcC])
    have HSP := hide (show (Try.prog.info? 107).map (·.size) = some (spC L[(x.1 : Nat)]).length by show _ = some 2; kernel_rfl)
    gi_wp2_with fail
    refine region_held_in (S := fun w' => CsAt w' Bx (rcC x.2)) (by kernel_rfl) (by kernel_rfl) (by rintro ⟨_, _, h⟩; exact h) (csAt_drew hX) (fun hHeld => ?_)
    refine takeL 0 (.int .i64 (x.1 : Nat)) rfl (by kernel_rfl) (by kernel_rfl) (by kernel_rfl) (fun _ _ _ h => h) (Or.inl ⟨rfl, fun _ _ => rfl⟩) hHeld ?_
    try simp only [Act.put, List.setIfInBounds_toArray, List.set_cons_zero, List.set_cons_succ]
    refine takeL 1 (.int .i64 (x.1 : Nat)) rfl (by kernel_rfl) (by kernel_rfl) (by kernel_rfl) (fun _ _ _ h => h) (Or.inl ⟨rfl, fun _ _ => rfl⟩) hHeld ?_
    try simp only [Act.put, List.setIfInBounds_toArray, List.set_cons_zero, List.set_cons_succ]
    refine takeL 2 (.pointer (some ⟨sz + 1 + 1, (x.1 : Nat) * 2, none⟩)) rfl (by kernel_rfl) (by kernel_rfl) (by kernel_rfl) (fun _ _ _ h => h) (Or.inl ⟨rfl, fun w9 hSw => by go_simp⟩) hHeld ?_
    try simp only [Act.put, List.setIfInBounds_toArray, List.set_cons_zero, List.set_cons_succ]
    refine takeL 4 (.pointer (some ⟨Bx, 1, none⟩)) rfl (by kernel_rfl) (by kernel_rfl) (by kernel_rfl) (fun _ _ _ h => h) (Or.inl ⟨rfl, fun w9 hSw => by go_simp⟩) hHeld ?_
    try simp only [Act.put, List.setIfInBounds_toArray, List.set_cons_zero, List.set_cons_succ]
    refine takeL 5 (.int .i64 x.2.s) rfl (by kernel_rfl) (by kernel_rfl) (by kernel_rfl) (fun _ _ _ h => h) (Or.inl ⟨rfl, fun w9 hSw => by have hc := hSw.cell 1 _ rfl; go_simp⟩) hHeld ?_
    try simp only [Act.put, List.setIfInBounds_toArray, List.set_cons_zero, List.set_cons_succ]
    refine oneL 3 rfl (by kernel_rfl) rfl (fun K hK => ?_)
    refine wp_load_mid 107 _ rfl (sz + 1 + 1) ((x.1 : Nat) * 2) rfl (spC L[(x.1 : Nat)]) _ (csSpan (csAt_drew hL) x.1 hxl) Try.underlying107 rfl (unhide HSP) ?_
    refine hK.out _ _ hHeld (fun hHeld => ?_)
    clear hK K
    try simp only [Act.put, List.setIfInBounds_toArray, List.set_cons_zero, List.set_cons_succ]
    refine oneL 6 rfl (by kernel_rfl) rfl (fun K hK => ?_)
    go_simp
    refine (unhide HC _).mono ?_
    rintro e w4 ⟨rfl, b4⟩
    go_wp2_with fail
    refine hK.out _ _ (hHeld.below b4 (by simpa using hXl)) (fun hHeld => ?_)
    clear hK K
    try simp only [Act.put, List.setIfInBounds_toArray, List.set_cons_zero, List.set_cons_succ]
    refine takeL 7 (.pointer (some ⟨sz + 1 + 1, (x.1 : Nat) * 2, none⟩)) rfl (by kernel_rfl) (by kernel_rfl) (by kernel_rfl) (fun _ _ _ h => h) (Or.inl ⟨rfl, fun w9 hSw => by go_simp⟩) hHeld ?_
    try simp only [Act.put, List.setIfInBounds_toArray, List.set_cons_zero, List.set_cons_succ]
    refine oneL 8 rfl (by kernel_rfl) rfl (fun K hK => ?_)
    have hL4 := (csAt_drew hL).below b4 (show sz + 1 + 1 < W.heap.size by omega)
    have hR4 := (csAt_drew hR).below b4 (show sz + 1 < W.heap.size by omega)
    refine wp_store_mid 107 _ _ rfl (sz + 1 + 1) ((x.1 : Nat) * 2) (spC (withS L[(x.1 : Nat)] x.2.s)).toArray rfl rfl (csSpot hL4 x.1 hxl) (by show _ = some 2; kernel_rfl) (by kernel_rfl) ?_
    refine hK.out _ _ (hHeld.other (by omega) _ _) (fun hHeld => ?_)
    clear hK K
    try simp only [Act.put, List.setIfInBounds_toArray, List.set_cons_zero, List.set_cons_succ]
    refine wpAnyH_done (by kernel_rfl) ?_ _
    refine ⟨(((keeps_drew W).trans (keeps_below b4)).trans (keeps_setCells _ _ _ _)).from _, trivial, ?_, hR4.other (by omega) _ _, ?_, ?_⟩
    · rw [unhide HN, spS, unhide HD]; exact csLay hL4 x.1 hxl _
    · exact below_setCells (sz + 1 + 1) (by omega) _ _ _ (hB.drew.trans (b4.mono (show sz ≤ W.heap.size by omega)))
    · rw [size_setCells]; have := b4.size; simp at this; omega
  case done =>
    rintro D ys W hD rfl ⟨hL, hR, hB, hs⟩ hK
    rw [unhide HLR] at hL
    have HS1 := hide (size_sps (unhide HLL))
    have HS2 : Hid ((Try.prog.info? 108).map (·.size) = some (spsC R).toArray.size) := by show _ = _; rw [List.size_toArray]; exact unhide HS1
    have HO := hide (show (spsC R).toArray.all (·.oneCell') = true from all_oneCell_toArray (by
      intro v hv
      simp only [spsC, List.mem_flatMap, spC, List.mem_cons, List.not_mem_nil, or_false] at hv
      obtain ⟨y, _, rfl | rfl⟩ := hv <;> rfl))
    have hlen : (spsC R).length = (spsC zSp).length := by rw [len_spsC, unhide HLL]; rfl
    have pR := hR.put (spsC R) hlen
    have pB := below_setCells (sz + 1) (show sz ≤ sz + 1 by omega) (spsC R) 0 W hB
    have hK2 := (keeps_setCells (sz + 1) (spsC R) 0 W).same D _ hK rfl
    have tR : W.there (sz + 1) 0 (spsC R).toArray.size := by rw [List.size_toArray, hlen]; exact hR.free
    gi_wp2_with (first | (refine one_in wide_in rfl (by intro c h; cases h) (fun Q' hq => wpList_load_mid rfl 108 _ rfl (sz + 1 + 1) 0 rfl (spsC R) _ hL.cells Try.underlying108 rfl (unhide HS1) hq) ?_) | (refine one_in wide_in rfl (by intro c h; cases h) (fun Q' hq => wpList_plain rfl fun K hK => wp_store_mid 108 _ _ rfl (sz + 1) 0 (spsC R).toArray rfl rfl tR (unhide HS2) (unhide HO) (hK _ _ hq)) ?_))
    refine ⟨by simp, .inl ⟨_, _, rfl, run_takeDeferred hK2, ?_⟩⟩
    have pR2 := pR.kept (grownBy_putObj' _ D (.deferred none)) (fun r e => by cases e; exact ⟨_, hK2, rfl⟩)
    refine ⟨.agg (spsC R).toArray, ?_, rfl, ?_⟩
    · exact res_cell_mid Try.results101 _ _ (sz + 1) (spsC R) _ rfl pR2.cells Try.underlying108 rfl (unhide HS1)
    · rw [hsz]
      exact pB.trans (belowK_b (w := w) (by omega) _ D _ _ (by omega) hK2 rfl rfl)
  case stop =>
    rintro D c pre W _ _ h _
    exact h.elim
end Go.Proofs.Ytogioeflbbmppaa.ImplM
