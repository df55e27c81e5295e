/-
  Texts that belong together, one behind the other: ImplL, ImplN, ImplM.
-/
import Derived.Test.YtkikeapfjpnkgaaBaO
import Derived.Test.YtkikeapfjpnkgaaSpecL
import Derived.Test.YtkikeapfjpnkgaaBaN

/-
  The program's last record of an address: the pages that are written, gone by by the iterator.
-/
namespace Go.Proofs.Ytkikeapfjpnkgaa.ImplL
open Go.ChangeShapes Go.WideShapes Go.ChangeAt Go.RowKit Go.Shelf OkA Big Fl ImplB ImplF ImplS _root_.Go.Proofs.Ytkikeapfjpnkgaa.Own ImplT ImplU SpecA SpecB SpecC SpecD SpecW SpecF SpecG SpecH Ok2 Pl FindP Rnd Iter
set_option linter.unusedVariables false
set_option linter.unusedSimpArgs false
attribute [local go_sem] Oper.semAt_some
attribute [local go_sem ↓] Go.wp_at_zero Go.wp_at_succ

/-- Cells that fill a block from its beginning, and may be written. -/
structure CsAt (w : World) (b : Nat) (cs : List Value) : Prop where
  cells : w.rangeAt b 0 cs
  free : w.there b 0 cs.length
theorem CsAt.below {w w' : World} {b B : Nat} {cs : List Value} (h : CsAt w b cs) (hb : Below B w w') (hl : b < B) : CsAt w' b cs := ⟨rangeAt_below h.cells hb hl, there_below h.free hb hl⟩
theorem CsAt.new (w : World) (cs : List Value) (T : TypeId) : CsAt (w.alloc (.cells cs.toArray T)) w.heap.size cs :=
  ⟨rangeAt_new w _ _, fun j hj => by
    have e := rangeAt_new w cs T j _ (List.getElem?_eq_getElem hj)
    refine ⟨by rw [e]; rfl, ?_⟩
    have e2 := World.alloc_heap_new w (.cells cs.toArray T)
    simp only [World.frozen?, e2]
    simp⟩
theorem CsAt.cell {w : World} {b : Nat} {cs : List Value} (h : CsAt w b cs) (j : Nat) (v : Value) (hv : cs[j]? = some v) : w.cell? ⟨b, j, none⟩ = some v := by have := h.cells j v hv; rwa [Nat.zero_add] at this
theorem CsAt.frozen {w : World} {b : Nat} {cs : List Value} (h : CsAt w b cs) (j : Nat) (hj : j < cs.length) : w.frozen? ⟨b, j, none⟩ = false := by have := (h.free j hj).2; rwa [Nat.zero_add] at this
theorem CsAt.lt {w : World} {b : Nat} {cs : List Value} (h : CsAt w b cs) (hc : 0 < cs.length) : b < w.heap.size := cell_lt (h.cell 0 _ (List.getElem?_eq_getElem hc))
theorem CsAt.put {w : World} {b : Nat} {cs : List Value} (h : CsAt w b cs) (ds : List Value) (hl : ds.length = cs.length) : CsAt (w.setCells b 0 ds) b ds :=
  ⟨fun j v hv => by
    obtain ⟨hj, rfl⟩ := List.getElem?_eq_some_iff.1 hv
    exact cell_setCells_eq (vs := ds) (hl ▸ h.free) j hj, hl ▸ World.there_setCells h.free _ _ _⟩
theorem CsAt.other {w : World} {b : Nat} {cs : List Value} (h : CsAt w b cs) {d : Nat} (hn : b ≠ d) (o : Nat) (ds : List Value) : CsAt (w.setCells d o ds) b cs :=
  ⟨World.rangeAt_setCells_apart h.cells _ _ _ (.inl hn), World.there_setCells h.free _ _ _⟩
theorem CsAt.alloc {w : World} {b : Nat} {cs : List Value} (h : CsAt w b cs) (hl : b < w.heap.size) (o : Obj) : CsAt (w.alloc o) b cs := h.below ((Below.refl w.heap.size w).alloc (Nat.le_refl _) o) hl
theorem CsAt.kept {w w' : World} {row : Option Nat} {b : Nat} {cs : List Value} (h : CsAt w b cs) (hg : w.grownBy w' row) (hr : ∀ r, row = some r → ∃ o : Obj, w.heap[r]? = some o ∧ o.isCells = false) : CsAt w' b cs :=
  ⟨fun j v hv => cell_kept (h.cells j v hv) hg hr, fun j hj => by
    have e := h.cells j _ (List.getElem?_eq_getElem hj)
    exact ⟨by rw [cell_kept e hg hr]; rfl, (frozen_kept e hg hr).trans (h.free j hj).2⟩⟩
theorem own_cs {β : Type} (b : Nat) (f : β → List Value) : Go.Own (fun s W => CsAt W b (f s)) := fun s A B row hs hg hr => hs.kept hg hr
theorem ownFrom_size {β : Type} {B : Nat} (k : Nat) : OwnFrom B (fun (_ : β) W => k ≤ W.heap.size) := fun _ _ _ _ hs hg _ => Nat.le_trans hs hg.size

theorem keeps_setCells (b : Nat) : ∀ (ds : List Value) (o : Nat) (w : World), KeepsOthers w (w.setCells b o ds)
  | [], _, w => KeepsOthers.refl w
  | v :: r, o, w => (KeepsOthers.setCell w ⟨b, o, none⟩ v).trans (keeps_setCells b r (o + 1) _)
def LsPost (w : World) (r : Rc) (e : Ending) (w' : World) : Prop := e = .returned (.agg (rcC r).toArray) ∧ Below w.heap.size w w'

set_option maxRecDepth 100000 in
set_option maxHeartbeats 2000000 in
theorem last_in (bs : List Bk) (addr : Int) (h4 : bs.length = 4) (hF : Fours bs) (w : World) :
    CallsIn Fence.wide 9 Try.prog 60 #[.agg (fsC bs).toArray, .int .i64 addr] w fun e w' => LsPost w (lastR bs addr) e w' := by
  have HLR : Hid (lstW addr zRc (wrA (blks bs)) = lastR bs addr) := lstW_all addr bs h4
  generalize lastR bs addr = R at *
  refine callsIn_of_wp_marks Try.func60 rfl trivial ?_ rfl
  simp only [Try.ntmps60, List.size_toArray, List.length_cons, List.length_nil, Nat.reduceAdd, Nat.reduceSub, Array.replicate_succ, Array.replicate_zero, List.push_toArray, List.append_toArray, List.nil_append, List.cons_append]
  have HS := hide (size_fsl hF h4)
  have r0 := rangeAt_new w (fsC bs) 75
  have B1 : Below w.heap.size w ((((w.alloc (.cells (fsC bs).toArray 75)).alloc (.cells #[.int .i64 addr] 3)).alloc (.cells (rcC zRc).toArray 25)).alloc (.cells (rcC zRc).toArray 25)) := ((((Below.refl _ _).alloc (Nat.le_refl _) _).alloc (by simp) _).alloc (by simp; omega) _).alloc (by simp; omega) _
  have r1 : ((((w.alloc (.cells (fsC bs).toArray 75)).alloc (.cells #[.int .i64 addr] 3)).alloc (.cells (rcC zRc).toArray 25)).alloc (.cells (rcC zRc).toArray 25)).rangeAt w.heap.size 0 (fsC bs) := by
    refine rangeAt_below r0 (B := w.heap.size + 1) ?_ (by omega)
    exact (((Below.refl _ _).alloc (by simp) _).alloc (by simp) _).alloc (by simp) _
  have cA : CsAt ((((w.alloc (.cells (fsC bs).toArray 75)).alloc (.cells #[.int .i64 addr] 3)).alloc (.cells (rcC zRc).toArray 25)).alloc (.cells (rcC zRc).toArray 25)) (w.heap.size + 1) [.int .i64 addr] := by
    have := ((CsAt.new (w.alloc (.cells (fsC bs).toArray 75)) [.int .i64 addr] 3).alloc (by simp) (.cells (rcC zRc).toArray 25)).alloc (by simp) (.cells (rcC zRc).toArray 25)
    rwa [World.size_alloc] at this
  have cR : CsAt ((((w.alloc (.cells (fsC bs).toArray 75)).alloc (.cells #[.int .i64 addr] 3)).alloc (.cells (rcC zRc).toArray 25)).alloc (.cells (rcC zRc).toArray 25)) (w.heap.size + 1 + 1) (rcC zRc) := by
    have := (CsAt.new ((w.alloc (.cells (fsC bs).toArray 75)).alloc (.cells #[.int .i64 addr] 3)) (rcC zRc) 25).alloc (by simp) (.cells (rcC zRc).toArray 25)
    rwa [World.size_alloc, World.size_alloc] at this
  have cL : CsAt ((((w.alloc (.cells (fsC bs).toArray 75)).alloc (.cells #[.int .i64 addr] 3)).alloc (.cells (rcC zRc).toArray 25)).alloc (.cells (rcC zRc).toArray 25)) (w.heap.size + 1 + 1 + 1) (rcC zRc) := by
    have := CsAt.new (((w.alloc (.cells (fsC bs).toArray 75)).alloc (.cells #[.int .i64 addr] 3)).alloc (.cells (rcC zRc).toArray 25)) (rcC zRc) 25
    rwa [World.size_alloc, World.size_alloc, World.size_alloc] at this
  have s1 : ((((w.alloc (.cells (fsC bs).toArray 75)).alloc (.cells #[.int .i64 addr] 3)).alloc (.cells (rcC zRc).toArray 25)).alloc (.cells (rcC zRc).toArray 25)).heap.size = w.heap.size + 1 + 1 + 1 + 1 := by simp
  rw [show (rcC zRc).toArray = #[Value.int .i64 0, .int .i64 0, .int .i64 0, .int .i64 0] from rfl] at B1 r1 cA cR cL s1
  gi_wp2_with (first | (refine one_in wide_in rfl (by intro c h; cases h) (fun Q' hq => wpList_box_big rfl _ _ rfl (fsC bs).toArray rfl hq) ?_) | (refine one_in wide_in rfl (by intro c h; cases h) (fun Q' hq => wpList_load_mid rfl 75 _ rfl w.heap.size 0 rfl (fsC bs) _ r1 Try.underlying75 rfl (unhide HS) hq) ?_) | (gi_at_call 85; refine (callsIn_wide.2 (written_any bs _)).mono ?_; rintro e w' ⟨rfl, rfl⟩))
  clear r0
  generalize (((w.alloc (.cells (fsC bs).toArray 75)).alloc (.cells #[.int .i64 addr] 3)).alloc (.cells #[Value.int .i64 0, .int .i64 0, .int .i64 0, .int .i64 0] 25)).alloc (.cells #[Value.int .i64 0, .int .i64 0, .int .i64 0, .int .i64 0] 25) = w1 at *
  refine ⟨trivial, (callsIn_wide.2 (written_any bs _)).mono ?_⟩
  rintro e w' ⟨rfl, rfl⟩
  gi_wp2
  have rK := rangeAt_new w1 (fsC bs) 75
  have B2 := B1.alloc B1.size (.cells (fsC bs).toArray 75)
  have cA2 := cA.alloc (by omega) (.cells (fsC bs).toArray 75)
  have cR2 := cR.alloc (by omega) (.cells (fsC bs).toArray 75)
  have cL2 := cL.alloc (by omega) (.cells (fsC bs).toArray 75)
  have s2 : (w1.alloc (.cells (fsC bs).toArray 75)).heap.size = w.heap.size + 5 := by rw [World.size_alloc, s1]
  have hk : w1.heap.size < (w1.alloc (.cells (fsC bs).toArray 75)).heap.size := by rw [World.size_alloc]; omega
  rw [s1] at rK hk
  clear B1 cA cR cL r1
  generalize w1.alloc (.cells (fsC bs).toArray 75) = w2 at *
  generalize hsz : w.heap.size = sz at *
  refine wpIn_rangeFunc_ownH (α := Wr) rfl (by omega) (gf := 106) (lb := #[.pointer (some ⟨sz + 1 + 1 + 1 + 1, 0, none⟩)]) rfl trivial (enters_of Try.func106 (by kernel_rfl) rfl)
    (written_stops 8 (sz + 1 + 1 + 1 + 1) bs h4 hF w2 hk rK) (fun _ _ => trivial) (fun _ _ _ _ _ _ _ _ => trivial) (Below.refl _ _) (fun _ => rfl)
    (fun pre W => CsAt W (sz + 1 + 1 + 1) (rcC (lstW addr zRc pre)) ∧ CsAt W (sz + 1) [.int .i64 addr] ∧ CsAt W (sz + 1 + 1) (rcC zRc) ∧ Below sz w W ∧ sz + 5 ≤ W.heap.size)
    (fun _ _ _ => False)
    (OwnFrom.and (Own.from (own_cs (sz + 1 + 1 + 1) (fun pre => rcC (lstW addr zRc pre))) _) (OwnFrom.and (Own.from (own_cs (sz + 1) (fun _ => [.int .i64 addr])) _) (OwnFrom.and (Own.from (own_cs (sz + 1 + 1) (fun _ => rcC zRc)) _) (OwnFrom.and (ownFrom_below (by omega) (by omega)) (ownFrom_size (sz + 5))))))
    (fun _ _ _ _ _ hs _ _ => hs)
    ⟨cL2, cA2, cR2, B2, by omega⟩
    (fun x a' W => ∃ Bx, sz + 5 ≤ Bx ∧ CsAt W Bx (rcC x.2) ∧ a' = { tmps := #[.agg (fsC bs).toArray, .int .i64 addr, .pointer (some ⟨sz, 0, none⟩), .pointer (some ⟨sz + 1, 0, none⟩), .pointer (some ⟨sz + 1 + 1, 0, none⟩), .pointer (some ⟨sz + 1 + 1 + 1, 0, none⟩), undef, .pointer (some ⟨Bx, 0, none⟩), .agg (fsC bs).toArray, .func (.func 106) #[] #[.pointer (some ⟨sz + 1 + 1 + 1 + 1, 0, none⟩)], .int .i64 (x.1 : Nat), .agg (rcC x.2).toArray, undef, undef, undef, undef, undef, undef, undef, undef, undef, undef, undef, undef, undef], defers := [] })
    (fun x a' => Own.from (fun _ A B row hs hg hr => by obtain ⟨Bx, h1, h2, h3⟩ := hs; exact ⟨Bx, h1, h2.kept hg hr, h3⟩) _) ?assign ?body ?done ?stop
  case assign =>
    rintro l pre x W K ⟨hL, hA, hR, hB, hs⟩ hK
    rw [show encW x = #[.int .i64 (x.1 : Nat), .agg #[.int .i64 x.2.k, .int .i64 x.2.s, .int .i64 x.2.a, .int .i64 x.2.v]] from rfl]
    gi_wp2
    exact hK _ _ ((KeepsOthers.alloc _ _).from _) trivial ⟨hL.alloc (by omega) _, hA.alloc (by omega) _, hR.alloc (by omega) _, hB.alloc (by omega) _, by rw [World.size_alloc]; omega⟩ ⟨W.heap.size, hs, CsAt.new W (rcC x.2) 25, rfl⟩
  case body =>
    rintro l pre x a' W hl _ ⟨hL, hA, hR, hB, hs⟩ ⟨Bx, hBx, hX, rfl⟩ hlt
    have HN := hide (lstW_one addr zRc pre x)
    generalize lstW addr zRc pre = o at *
    have ca := hA.cell 0 _ rfl
    have x0 := hX.cell 0 _ rfl
    have x1 := hX.cell 1 _ rfl
    have x2 := hX.cell 2 _ rfl
    have x3 := hX.cell 3 _ rfl
    have o1 := hL.cell 1 _ rfl
    by_cases t1 : x.2.a = addr
    · have g1 : (x.2.a == addr) = true := by simpa using t1
      by_cases t2 : o.s < x.2.s
      · have HE : Hid (lstW addr zRc (pre ++ [x]) = x.2) := by show _ = _; rw [unhide HN, lstS, if_pos ⟨t1, t2⟩]
        clear t1 HN
        have o0 := hL.cell 0 _ rfl
        have o2 := hL.cell 2 _ rfl
        have o3 := hL.cell 3 _ rfl
        have f0 := hL.frozen 0 (by simp [rcC])
        have f1 := hL.frozen 1 (by simp [rcC])
        have f2 := hL.frozen 2 (by simp [rcC])
        have f3 := hL.frozen 3 (by simp [rcC])
        have kp : KeepsFrom w2.heap.size W (W.setCells (sz + 1 + 1 + 1) 0 (rcC x.2)) := (keeps_setCells _ _ _ _).from _
        have pL := hL.put (rcC x.2) rfl
        have pA := hA.other (show sz + 1 ≠ sz + 1 + 1 + 1 by omega) 0 (rcC x.2)
        have pR := hR.other (show sz + 1 + 1 ≠ sz + 1 + 1 + 1 by omega) 0 (rcC x.2)
        have pB := below_setCells (sz + 1 + 1 + 1) (show sz ≤ sz + 1 + 1 + 1 by omega) (rcC x.2) 0 W hB
        have pS : sz + 5 ≤ (W.setCells (sz + 1 + 1 + 1) 0 (rcC x.2)).heap.size := by rw [size_setCells]; exact hs
        gi_wp2
        exact ⟨kp, trivial, by rw [unhide HE]; exact pL, pA, pR, pB, pS⟩
      · have HE : Hid (lstW addr zRc (pre ++ [x]) = o) := by show _ = _; rw [unhide HN, lstS, if_neg (fun h => t2 h.2)]
        clear t1 HN
        gi_wp2
        exact ⟨KeepsFrom.refl _ _, trivial, by rw [unhide HE]; exact hL, hA, hR, hB, hs⟩
    · have g1 : (x.2.a == addr) = false := by simpa using t1
      have HE : Hid (lstW addr zRc (pre ++ [x]) = o) := by show _ = _; rw [unhide HN, lstS, if_neg (fun h => t1 h.1)]
      clear t1 HN
      gi_wp2
      exact ⟨KeepsFrom.refl _ _, trivial, by rw [unhide HE]; exact hL, hA, hR, hB, hs⟩
  case done =>
    rintro D ys W hD rfl ⟨hL, hA, hR, hB, hs⟩ hK
    rw [unhide HLR] at hL
    have c0 := hL.cell 0 _ rfl
    have c1 := hL.cell 1 _ rfl
    have c2 := hL.cell 2 _ rfl
    have c3 := hL.cell 3 _ rfl
    have d0 := hR.cell 0 _ rfl
    have d1 := hR.cell 1 _ rfl
    have d2 := hR.cell 2 _ rfl
    have d3 := hR.cell 3 _ rfl
    have f0 := hR.frozen 0 (by simp [rcC])
    have f1 := hR.frozen 1 (by simp [rcC])
    have f2 := hR.frozen 2 (by simp [rcC])
    have f3 := hR.frozen 3 (by simp [rcC])
    have pR := hR.put (rcC R) rfl
    have pB := below_setCells (sz + 1 + 1) (show sz ≤ sz + 1 + 1 by omega) (rcC R) 0 W hB
    have hK2 := (keeps_setCells (sz + 1 + 1) (rcC R) 0 W).same D _ hK rfl
    gi_wp2
    refine ⟨by simp, .inl ⟨_, _, rfl, run_takeDeferred hK2, ?_⟩⟩
    have pR2 := pR.kept (grownBy_putObj' _ D (.deferred none)) (fun r e => by cases e; exact ⟨_, hK2, rfl⟩)
    refine ⟨.agg (rcC R).toArray, ?_, rfl, ?_⟩
    · exact res_cell_mid Try.results60 _ _ (sz + 1 + 1) (rcC R) _ rfl pR2.cells Try.underlying25 rfl (SpecL.size_rc R)
    · rw [hsz]
      exact pB.trans (belowK_b (w := w) (by omega) _ D _ _ (by omega) hK2 rfl rfl)
  case stop =>
    rintro D c pre W _ _ h _
    exact h.elim
end Go.Proofs.Ytkikeapfjpnkgaa.ImplL

/-
  The program's spans: the least and the greatest number of each block's records.
-/
namespace Go.Proofs.Ytkikeapfjpnkgaa.ImplN
open Go.ChangeShapes Go.WideShapes Go.ChangeAt Go.RowKit Go.Shelf OkA Big Fl ImplB ImplF ImplS _root_.Go.Proofs.Ytkikeapfjpnkgaa.Own ImplT ImplU SpecA SpecB SpecC SpecD SpecW SpecF SpecG SpecH Ok2 Pl FindP Rnd Iter ImplL ImplO
set_option linter.unusedVariables false
set_option linter.unusedSimpArgs false
attribute [local go_sem] Oper.semAt_some
attribute [local go_sem ↓] Go.wp_at_zero Go.wp_at_succ

set_option maxHeartbeats 400000 in
theorem none_any (x : Sp) (w : World) :
    Calls Try.prog 109 #[.agg #[.int .i64 x.1, .int .i64 x.2]] w fun e w' => e = .returned (.bool (x.2 == 0)) ∧ Below w.heap.size w w' := by
  go_enter Try.func109, Try.ntmps109
  go_wp2
  go_ret
  exact ⟨rfl, (Below.refl _ _).alloc (Nat.le_refl _) _⟩

def SpPost (w : World) (x : Sp) (e : Ending) (w' : World) : Prop := e = .returned (.agg #[.int .i64 x.1, .int .i64 x.2]) ∧ Below w.heap.size w w'
set_option maxHeartbeats 400000 in
theorem with_any (x : Sp) (s : Int) (w : World) :
    Calls Try.prog 107 #[.agg #[.int .i64 x.1, .int .i64 x.2], .int .i64 s] w fun e w' => SpPost w (withS x s) e w' := by
  have HW : Hid (withS x s = if x.2 = 0 then (s, s) else (if s < x.1 then s else x.1, if x.2 < s then s else x.2)) := rfl
  generalize withS x s = R at *
  obtain ⟨a, b⟩ := x
  simp only at HW
  have HN := hide (fun (w' : World) => none_any (a, b) w')
  have z0 := CsAt.new w [.int .i64 a, .int .i64 b] 118
  have z1 := CsAt.new (w.alloc (.cells #[.int .i64 a, .int .i64 b] 118)) [.int .i64 0, .int .i64 0] 118
  rw [World.size_alloc] at z1
  have y0 := z0.alloc (by simp) (.cells #[.int .i64 0, .int .i64 0] 118)
  have B0 : Below w.heap.size w ((w.alloc (.cells #[.int .i64 a, .int .i64 b] 118)).alloc (.cells #[.int .i64 0, .int .i64 0] 118)) := ((Below.refl _ _).alloc (Nat.le_refl _) _).alloc (by simp) _
  have s0 : ((w.alloc (.cells #[.int .i64 a, .int .i64 b] 118)).alloc (.cells #[.int .i64 0, .int .i64 0] 118)).heap.size = w.heap.size + 2 := by simp
  clear z0
  go_enter Try.func107, Try.ntmps107
  have hb : (b == 0) = true ∨ (b == 0) = false := by cases (b == 0) <;> simp
  rcases hb with hb | hb
  · have hb0 : b = 0 := by simpa using hb
    rw [if_pos hb0] at HW
    simp only [hb] at HN
    clear hb0 hb
    go_wp2_with fail
    refine (unhide HN _).mono ?_
    rintro e w1 ⟨rfl, b1⟩
    have x1 := CsAt.below (w' := w1) (b := w.heap.size + 1) z1 b1 (by omega)
    have B1 := B0.trans (b1.mono B0.size)
    clear b1 z1 y0 B0
    have d0 := x1.cell 0 _ rfl
    have d1 := x1.cell 1 _ rfl
    have f0 := x1.frozen 0 (by simp)
    have f1 := x1.frozen 1 (by simp)
    have p1 := x1.put [.int .i64 s, .int .i64 s] rfl
    have pB := below_setCells (w.heap.size + 1) (show w.heap.size ≤ w.heap.size + 1 by omega) [.int .i64 s, .int .i64 s] 0 w1 B1
    go_wp2
    refine bodyPost_ret (res_cell_mid Try.results107 _ _ (w.heap.size + 1) [.int .i64 s, .int .i64 s] _ rfl p1.cells Try.underlying118 rfl (by kernel_rfl)) rfl ?_
    exact ⟨by rw [unhide HW], pB⟩
  · have hb0 : ¬ b = 0 := by simpa using hb
    rw [if_neg hb0] at HW
    simp only [hb] at HN
    clear hb0 hb
    go_wp2_with fail
    refine (unhide HN _).mono ?_
    rintro e w1 ⟨rfl, b1⟩
    have x1 := CsAt.below (w' := w1) (b := w.heap.size + 1) z1 b1 (by omega)
    have x0 := CsAt.below (w' := w1) (b := w.heap.size) y0 b1 (by omega)
    have B1 := B0.trans (b1.mono B0.size)
    clear b1 z1 y0 B0
    have e0 := x0.cell 0 _ rfl
    have e1 := x0.cell 1 _ rfl
    have d0 := x1.cell 0 _ rfl
    have d1 := x1.cell 1 _ rfl
    have f0 := x1.frozen 0 (by simp)
    have f1 := x1.frozen 1 (by simp)
    by_cases h1 : s < a
    · rw [if_pos h1] at HW
      by_cases h2 : b < s
      · rw [if_pos h2] at HW
        have p1 := x1.put [.int .i64 s, .int .i64 s] rfl
        have pB := below_setCells (w.heap.size + 1) (show w.heap.size ≤ w.heap.size + 1 by omega) [.int .i64 s, .int .i64 s] 0 w1 B1
        go_wp2
        refine bodyPost_ret (res_cell_mid Try.results107 _ _ (w.heap.size + 1) [.int .i64 s, .int .i64 s] _ rfl p1.cells Try.underlying118 rfl (by kernel_rfl)) rfl ?_
        exact ⟨by rw [unhide HW], pB⟩
      · rw [if_neg h2] at HW
        have p1 := x1.put [.int .i64 s, .int .i64 b] rfl
        have pB := below_setCells (w.heap.size + 1) (show w.heap.size ≤ w.heap.size + 1 by omega) [.int .i64 s, .int .i64 b] 0 w1 B1
        go_wp2
        refine bodyPost_ret (res_cell_mid Try.results107 _ _ (w.heap.size + 1) [.int .i64 s, .int .i64 b] _ rfl p1.cells Try.underlying118 rfl (by kernel_rfl)) rfl ?_
        exact ⟨by rw [unhide HW], pB⟩
    · rw [if_neg h1] at HW
      by_cases h2 : b < s
      · rw [if_pos h2] at HW
        have p1 := x1.put [.int .i64 a, .int .i64 s] rfl
        have pB := below_setCells (w.heap.size + 1) (show w.heap.size ≤ w.heap.size + 1 by omega) [.int .i64 a, .int .i64 s] 0 w1 B1
        go_wp2
        refine bodyPost_ret (res_cell_mid Try.results107 _ _ (w.heap.size + 1) [.int .i64 a, .int .i64 s] _ rfl p1.cells Try.underlying118 rfl (by kernel_rfl)) rfl ?_
        exact ⟨by rw [unhide HW], pB⟩
      · rw [if_neg h2] at HW
        have p1 := x1.put [.int .i64 a, .int .i64 b] rfl
        have pB := below_setCells (w.heap.size + 1) (show w.heap.size ≤ w.heap.size + 1 by omega) [.int .i64 a, .int .i64 b] 0 w1 B1
        go_wp2
        refine bodyPost_ret (res_cell_mid Try.results107 _ _ (w.heap.size + 1) [.int .i64 a, .int .i64 b] _ rfl p1.cells Try.underlying118 rfl (by kernel_rfl)) rfl ?_
        exact ⟨by rw [unhide HW], pB⟩
end Go.Proofs.Ytkikeapfjpnkgaa.ImplN

/-
  The program's spans of all blocks: the written pages, gone by by the iterator.
-/
namespace Go.Proofs.Ytkikeapfjpnkgaa.ImplM
open Go.ChangeShapes Go.WideShapes Go.ChangeAt Go.RowKit Go.Shelf OkA Big Fl ImplB ImplF ImplS _root_.Go.Proofs.Ytkikeapfjpnkgaa.Own ImplT ImplU SpecA SpecB SpecC SpecD SpecW SpecF SpecG SpecH Ok2 Pl FindP Rnd Iter ImplL ImplO ImplN
set_option linter.unusedVariables false
set_option linter.unusedSimpArgs false
attribute [local go_sem] Oper.semAt_some
attribute [local go_sem ↓] Go.wp_at_zero Go.wp_at_succ

theorem csAt_drew {w : World} {b : Nat} {cs : List Value} (h : CsAt w b cs) : CsAt w.drew b cs := ⟨fun j v hv => h.cells j v hv, fun j hj => h.free j hj⟩
theorem keeps_below {w w' : World} (h : Below w.heap.size w w') : KeepsOthers w w' := ⟨h.size, fun k o hk ho => (h.block k (Array.getElem?_eq_some_iff.1 hk).1).trans hk⟩
theorem keeps_drew (w : World) : KeepsOthers w w.drew := ⟨Nat.le_refl _, fun k o hk ho => hk⟩
theorem part_sps (l : List Sp) (i : Nat) (hi : i < l.length) : ((spsC l).drop (i * 2)).take 2 = spC l[i] := part_of spC 2 l (fun _ _ => rfl) i hi
theorem ext_sps (l : List Sp) (k : Nat) (hk : k < l.length) : (spsC l).toArray.extract ((k : Int).toNat * 2) ((k : Int).toNat * 2 + 2) = #[.int .i64 l[k].1, .int .i64 l[k].2] := by
  rw [Int.toNat_natCast]; exact extract_of _ _ _ _ (part_sps l k hk)
theorem csSpan {w : World} {b : Nat} {l : List Sp} (h : CsAt w b (spsC l)) (i : Nat) (hi : i < l.length) : w.rangeAt b (i * 2) (spC l[i]) := by
  have := rangeAt_sub h.cells (i * 2) 2
  rw [part_sps l i hi, Nat.zero_add] at this
  exact this
theorem csSpot {w : World} {b : Nat} {l : List Sp} (h : CsAt w b (spsC l)) (i : Nat) (hi : i < l.length) : w.there b (i * 2) 2 := by
  have := there_sub h.free (i * 2) 2 (by rw [len_spsC]; omega)
  rwa [Nat.zero_add] at this
theorem csLay {w : World} {b : Nat} {l : List Sp} (h : CsAt w b (spsC l)) (i : Nat) (hi : i < l.length) (y : Sp) : CsAt (w.setCells b (i * 2) (spC y)) b (spsC (l.set i y)) := by
  have := range_set spC 2 (fun _ _ => rfl) i hi y rfl h.cells (by rw [Nat.zero_add]; exact csSpot h i hi)
  rw [Nat.zero_add] at this
  refine ⟨this, ?_⟩
  rw [len_spsC, List.length_set, ← len_spsC]
  exact World.there_setCells h.free _ _ _
theorem size_sps {l : List Sp} (h : l.length = 4) : (Try.prog.info? 119).map (·.size) = some (spsC l).length := by rw [len_spsC, h]; kernel_rfl
theorem one_sps (l : List Sp) : (spsC l).toArray.all (·.oneCell') = true := all_oneCell_toArray (by
  intro v hv
  simp only [spsC, List.mem_flatMap, spC, List.mem_cons, List.not_mem_nil, or_false] at hv
  obtain ⟨y, _, rfl | rfl⟩ := hv <;> rfl)
def SsPost (w : World) (l : List Sp) (e : Ending) (w' : World) : Prop := e = .returned (.agg (spsC l).toArray) ∧ Below w.heap.size w w'

set_option maxRecDepth 100000 in
set_option maxHeartbeats 2000000 in
theorem spans_in (bs : List Bk) (h4 : bs.length = 4) (hF : Fours bs) (w : World) :
    CallsIn Fence.wide 9 Try.prog 86 #[.agg (fsC bs).toArray] w fun e w' => SsPost w (bs.map spB) e w' := by
  have HLR : Hid (spW zSp (wrA (blks bs)) = bs.map spB) := spW_all bs h4
  have HLL : Hid ((bs.map spB).length = 4) := by show _ = _; rw [List.length_map, h4]
  generalize bs.map spB = R at *
  refine callsIn_of_wp_marks Try.func86 rfl trivial ?_ rfl
  simp only [Try.ntmps86, List.size_toArray, List.length_cons, List.length_nil, Nat.reduceAdd, Nat.reduceSub, Array.replicate_succ, Array.replicate_zero, List.push_toArray, List.append_toArray, List.nil_append, List.cons_append]
  have HS := hide (size_fsl hF h4)
  have r0 := rangeAt_new w (fsC bs) 75
  have B1 : Below w.heap.size w (((w.alloc (.cells (fsC bs).toArray 75)).alloc (.cells (spsC zSp).toArray 119)).alloc (.cells (spsC zSp).toArray 119)) := (((Below.refl _ _).alloc (Nat.le_refl _) _).alloc (by simp) _).alloc (by simp; omega) _
  have r1 : (((w.alloc (.cells (fsC bs).toArray 75)).alloc (.cells (spsC zSp).toArray 119)).alloc (.cells (spsC zSp).toArray 119)).rangeAt w.heap.size 0 (fsC bs) := by
    refine rangeAt_below r0 (B := w.heap.size + 1) ?_ (by omega)
    exact ((Below.refl _ _).alloc (by simp) _).alloc (by simp) _
  have cR : CsAt (((w.alloc (.cells (fsC bs).toArray 75)).alloc (.cells (spsC zSp).toArray 119)).alloc (.cells (spsC zSp).toArray 119)) (w.heap.size + 1) (spsC zSp) := by
    have := (CsAt.new (w.alloc (.cells (fsC bs).toArray 75)) (spsC zSp) 119).alloc (by simp) (.cells (spsC zSp).toArray 119)
    rwa [World.size_alloc] at this
  have cL : CsAt (((w.alloc (.cells (fsC bs).toArray 75)).alloc (.cells (spsC zSp).toArray 119)).alloc (.cells (spsC zSp).toArray 119)) (w.heap.size + 1 + 1) (spsC zSp) := by
    have := CsAt.new ((w.alloc (.cells (fsC bs).toArray 75)).alloc (.cells (spsC zSp).toArray 119)) (spsC zSp) 119
    rwa [World.size_alloc, World.size_alloc] at this
  have s1 : (((w.alloc (.cells (fsC bs).toArray 75)).alloc (.cells (spsC zSp).toArray 119)).alloc (.cells (spsC zSp).toArray 119)).heap.size = w.heap.size + 1 + 1 + 1 := by simp
  rw [show (spsC zSp).toArray = #[Value.int .i64 0, .int .i64 0, .int .i64 0, .int .i64 0, .int .i64 0, .int .i64 0, .int .i64 0, .int .i64 0] from rfl] at B1 r1 cR cL s1
  gi_wp2_with (first | (refine one_in wide_in rfl (by intro c h; cases h) (fun Q' hq => wpList_box_big rfl _ _ rfl (fsC bs).toArray rfl hq) ?_) | (refine one_in wide_in rfl (by intro c h; cases h) (fun Q' hq => wpList_load_mid rfl 75 _ rfl w.heap.size 0 rfl (fsC bs) _ r1 Try.underlying75 rfl (unhide HS) hq) ?_))
  clear r0
  generalize ((w.alloc (.cells (fsC bs).toArray 75)).alloc (.cells #[Value.int .i64 0, .int .i64 0, .int .i64 0, .int .i64 0, .int .i64 0, .int .i64 0, .int .i64 0, .int .i64 0] 119)).alloc (.cells #[Value.int .i64 0, .int .i64 0, .int .i64 0, .int .i64 0, .int .i64 0, .int .i64 0, .int .i64 0, .int .i64 0] 119) = w1 at *
  refine ⟨trivial, (callsIn_wide.2 (written_any bs _)).mono ?_⟩
  rintro e w' ⟨rfl, rfl⟩
  gi_wp2
  have rK := rangeAt_new w1 (fsC bs) 75
  have B2 := B1.alloc B1.size (.cells (fsC bs).toArray 75)
  have cR2 := cR.alloc (by omega) (.cells (fsC bs).toArray 75)
  have cL2 := cL.alloc (by omega) (.cells (fsC bs).toArray 75)
  have s2 : (w1.alloc (.cells (fsC bs).toArray 75)).heap.size = w.heap.size + 4 := by rw [World.size_alloc, s1]
  have hk : w1.heap.size < (w1.alloc (.cells (fsC bs).toArray 75)).heap.size := by rw [World.size_alloc]; omega
  rw [s1] at rK hk
  clear B1 cR cL r1
  generalize w1.alloc (.cells (fsC bs).toArray 75) = w2 at *
  generalize hsz : w.heap.size = sz at *
  refine wpIn_rangeFunc_ownH (α := Wr) rfl (by omega) (gf := 106) (lb := #[.pointer (some ⟨sz + 1 + 1 + 1, 0, none⟩)]) rfl trivial (enters_of Try.func106 (by kernel_rfl) rfl)
    (written_stops 8 (sz + 1 + 1 + 1) bs h4 hF w2 hk rK) (fun _ _ => trivial) (fun _ _ _ _ _ _ _ _ => trivial) (Below.refl _ _) (fun _ => rfl)
    (fun pre W => CsAt W (sz + 1 + 1) (spsC (spW zSp pre)) ∧ CsAt W (sz + 1) (spsC zSp) ∧ Below sz w W ∧ sz + 4 ≤ W.heap.size)
    (fun _ _ _ => False)
    (OwnFrom.and (Own.from (own_cs (sz + 1 + 1) (fun pre => spsC (spW zSp pre))) _) (OwnFrom.and (Own.from (own_cs (sz + 1) (fun _ => spsC zSp)) _) (OwnFrom.and (ownFrom_below (by omega) (by omega)) (ownFrom_size (sz + 4)))))
    (fun _ _ _ _ _ hs _ _ => hs)
    ⟨cL2, cR2, B2, by omega⟩
    (fun x a' W => ∃ Bx, sz + 4 ≤ Bx ∧ CsAt W Bx (rcC x.2) ∧ a' = { tmps := #[.agg (fsC bs).toArray, .pointer (some ⟨sz, 0, none⟩), .pointer (some ⟨sz + 1, 0, none⟩), .pointer (some ⟨sz + 1 + 1, 0, none⟩), .int .i64 (x.1 : Nat), .pointer (some ⟨Bx, 0, none⟩), .agg (fsC bs).toArray, .func (.func 106) #[] #[.pointer (some ⟨sz + 1 + 1 + 1, 0, none⟩)], .int .i64 (x.1 : Nat), .agg (rcC x.2).toArray, undef, undef, undef, undef, undef, undef, undef, undef, undef], defers := [] })
    (fun x a' => Own.from (fun _ A B row hs hg hr => by obtain ⟨Bx, h1, h2, h3⟩ := hs; exact ⟨Bx, h1, h2.kept hg hr, h3⟩) _) ?assign ?body ?done ?stop
  case assign =>
    rintro l pre x W K ⟨hL, hR, hB, hs⟩ hK
    rw [show encW x = #[.int .i64 (x.1 : Nat), .agg #[.int .i64 x.2.k, .int .i64 x.2.s, .int .i64 x.2.a, .int .i64 x.2.v]] from rfl]
    gi_wp2
    exact hK _ _ ((KeepsOthers.alloc _ _).from _) trivial ⟨hL.alloc (by omega) _, hR.alloc (by omega) _, hB.alloc (by omega) _, by rw [World.size_alloc]; omega⟩ ⟨W.heap.size, hs, CsAt.new W (rcC x.2) 25, rfl⟩
  case body =>
    rintro l pre x a' W hl _ ⟨hL, hR, hB, hs⟩ ⟨Bx, hBx, hX, rfl⟩ hlt
    have HN := hide (spW_one zSp pre x)
    have hl4 : (spW zSp pre).length = 4 := by rw [spW_len]; rfl
    generalize spW zSp pre = L at *
    have hxl : (x.1 : Nat) < L.length := by omega
    have hx0 : (0 : Int) ≤ ((x.1 : Nat) : Int) := by omega
    have hx4 : ((x.1 : Nat) : Int) < 4 := by omega
    have HD : Hid (L.getD x.1 (0, 0) = L[(x.1 : Nat)]) := by show _ = _; rw [List.getD_eq_getElem?_getD, List.getElem?_eq_getElem hxl]; rfl
    have HC := hide (fun (w' : World) => with_any L[(x.1 : Nat)] x.2.s w')
    have hXl := hX.lt (by simp [rcC])
    have HSP := hide (show (Try.prog.info? 118).map (·.size) = some (spC L[(x.1 : Nat)]).length by show _ = some 2; kernel_rfl)
    gi_wp2_with fail
    refine region_held_in (S := fun w' => CsAt w' Bx (rcC x.2)) (by kernel_rfl) (by kernel_rfl) (by rintro ⟨_, _, h⟩; exact h) (csAt_drew hX) (fun hHeld => ?_)
    refine takeL 0 (.int .i64 (x.1 : Nat)) rfl (by kernel_rfl) (by kernel_rfl) (by kernel_rfl) (fun _ _ _ h => h) (Or.inl ⟨rfl, fun _ _ => rfl⟩) hHeld ?_
    try simp only [Act.put, List.setIfInBounds_toArray, List.set_cons_zero, List.set_cons_succ]
    refine takeL 1 (.int .i64 (x.1 : Nat)) rfl (by kernel_rfl) (by kernel_rfl) (by kernel_rfl) (fun _ _ _ h => h) (Or.inl ⟨rfl, fun _ _ => rfl⟩) hHeld ?_
    try simp only [Act.put, List.setIfInBounds_toArray, List.set_cons_zero, List.set_cons_succ]
    refine takeL 2 (.pointer (some ⟨sz + 1 + 1, (x.1 : Nat) * 2, none⟩)) rfl (by kernel_rfl) (by kernel_rfl) (by kernel_rfl) (fun _ _ _ h => h) (Or.inl ⟨rfl, fun w9 hSw => by go_simp⟩) hHeld ?_
    try simp only [Act.put, List.setIfInBounds_toArray, List.set_cons_zero, List.set_cons_succ]
    refine takeL 4 (.pointer (some ⟨Bx, 1, none⟩)) rfl (by kernel_rfl) (by kernel_rfl) (by kernel_rfl) (fun _ _ _ h => h) (Or.inl ⟨rfl, fun w9 hSw => by go_simp⟩) hHeld ?_
    try simp only [Act.put, List.setIfInBounds_toArray, List.set_cons_zero, List.set_cons_succ]
    refine takeL 5 (.int .i64 x.2.s) rfl (by kernel_rfl) (by kernel_rfl) (by kernel_rfl) (fun _ _ _ h => h) (Or.inl ⟨rfl, fun w9 hSw => by have hc := hSw.cell 1 _ rfl; go_simp⟩) hHeld ?_
    try simp only [Act.put, List.setIfInBounds_toArray, List.set_cons_zero, List.set_cons_succ]
    refine oneL 3 rfl (by kernel_rfl) rfl (fun K hK => ?_)
    refine wp_load_mid 118 _ rfl (sz + 1 + 1) ((x.1 : Nat) * 2) rfl (spC L[(x.1 : Nat)]) _ (csSpan (csAt_drew hL) x.1 hxl) Try.underlying118 rfl (unhide HSP) ?_
    refine hK.out _ _ hHeld (fun hHeld => ?_)
    clear hK K
    try simp only [Act.put, List.setIfInBounds_toArray, List.set_cons_zero, List.set_cons_succ]
    refine oneL 6 rfl (by kernel_rfl) rfl (fun K hK => ?_)
    go_simp
    refine (unhide HC _).mono ?_
    rintro e w4 ⟨rfl, b4⟩
    go_wp2_with fail
    refine hK.out _ _ (hHeld.below b4 (by simpa using hXl)) (fun hHeld => ?_)
    clear hK K
    try simp only [Act.put, List.setIfInBounds_toArray, List.set_cons_zero, List.set_cons_succ]
    refine takeL 7 (.pointer (some ⟨sz + 1 + 1, (x.1 : Nat) * 2, none⟩)) rfl (by kernel_rfl) (by kernel_rfl) (by kernel_rfl) (fun _ _ _ h => h) (Or.inl ⟨rfl, fun w9 hSw => by go_simp⟩) hHeld ?_
    try simp only [Act.put, List.setIfInBounds_toArray, List.set_cons_zero, List.set_cons_succ]
    refine oneL 8 rfl (by kernel_rfl) rfl (fun K hK => ?_)
    have hL4 := (csAt_drew hL).below b4 (show sz + 1 + 1 < W.heap.size by omega)
    have hR4 := (csAt_drew hR).below b4 (show sz + 1 < W.heap.size by omega)
    refine wp_store_mid 118 _ _ rfl (sz + 1 + 1) ((x.1 : Nat) * 2) (spC (withS L[(x.1 : Nat)] x.2.s)).toArray rfl rfl (csSpot hL4 x.1 hxl) (by show _ = some 2; kernel_rfl) (by kernel_rfl) ?_
    refine hK.out _ _ (hHeld.other (by omega) _ _) (fun hHeld => ?_)
    clear hK K
    try simp only [Act.put, List.setIfInBounds_toArray, List.set_cons_zero, List.set_cons_succ]
    refine wpAnyH_done (by kernel_rfl) ?_ _
    refine ⟨(((keeps_drew W).trans (keeps_below b4)).trans (keeps_setCells _ _ _ _)).from _, trivial, ?_, hR4.other (by omega) _ _, ?_, ?_⟩
    · rw [unhide HN, spS, unhide HD]; exact csLay hL4 x.1 hxl _
    · exact below_setCells (sz + 1 + 1) (by omega) _ _ _ (hB.drew.trans (b4.mono (show sz ≤ W.heap.size by omega)))
    · rw [size_setCells]; have := b4.size; simp at this; omega
  case done =>
    rintro D ys W hD rfl ⟨hL, hR, hB, hs⟩ hK
    rw [unhide HLR] at hL
    have HS1 := hide (size_sps (unhide HLL))
    have HS2 : Hid ((Try.prog.info? 119).map (·.size) = some (spsC R).toArray.size) := by show _ = _; rw [List.size_toArray]; exact unhide HS1
    have HO := hide (show (spsC R).toArray.all (·.oneCell') = true from all_oneCell_toArray (by
      intro v hv
      simp only [spsC, List.mem_flatMap, spC, List.mem_cons, List.not_mem_nil, or_false] at hv
      obtain ⟨y, _, rfl | rfl⟩ := hv <;> rfl))
    have hlen : (spsC R).length = (spsC zSp).length := by rw [len_spsC, unhide HLL]; rfl
    have pR := hR.put (spsC R) hlen
    have pB := below_setCells (sz + 1) (show sz ≤ sz + 1 by omega) (spsC R) 0 W hB
    have hK2 := (keeps_setCells (sz + 1) (spsC R) 0 W).same D _ hK rfl
    have tR : W.there (sz + 1) 0 (spsC R).toArray.size := by rw [List.size_toArray, hlen]; exact hR.free
    gi_wp2_with (first | (refine one_in wide_in rfl (by intro c h; cases h) (fun Q' hq => wpList_load_mid rfl 119 _ rfl (sz + 1 + 1) 0 rfl (spsC R) _ hL.cells Try.underlying119 rfl (unhide HS1) hq) ?_) | (refine one_in wide_in rfl (by intro c h; cases h) (fun Q' hq => wpList_plain rfl fun K hK => wp_store_mid 119 _ _ rfl (sz + 1) 0 (spsC R).toArray rfl rfl tR (unhide HS2) (unhide HO) (hK _ _ hq)) ?_))
    refine ⟨by simp, .inl ⟨_, _, rfl, run_takeDeferred hK2, ?_⟩⟩
    have pR2 := pR.kept (grownBy_putObj' _ D (.deferred none)) (fun r e => by cases e; exact ⟨_, hK2, rfl⟩)
    refine ⟨.agg (spsC R).toArray, ?_, rfl, ?_⟩
    · exact res_cell_mid Try.results86 _ _ (sz + 1) (spsC R) _ rfl pR2.cells Try.underlying119 rfl (unhide HS1)
    · rw [hsz]
      exact pB.trans (belowK_b (w := w) (by omega) _ D _ _ (by omega) hK2 rfl rfl)
  case stop =>
    rintro D c pre W _ _ h _
    exact h.elim
end Go.Proofs.Ytkikeapfjpnkgaa.ImplM
