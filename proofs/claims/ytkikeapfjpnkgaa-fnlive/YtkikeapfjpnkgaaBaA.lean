/-
  Texts that belong together, one behind the other: OkA, Big, Kp.
-/
import Derived.Test.YtkikeapfjpnkgaaRows
import Derived.WalkKit
import Derived.ProofKit
import Derived.OpenShut
import Derived.Below
import Derived.Handy
import Derived.Deep.MidRow
import Derived.Deep.WholeRow
import Derived.Laws.MakeOwn
import Derived.Deep.RegionHeld3
import Derived.Laws.CopyOwn

/-
  The contracts of the functions that tell whether a record is ok, the program's and the specification's, for every record of four ints.
-/
namespace Go.Proofs.Ytkikeapfjpnkgaa.OkA
open Go.ChangeShapes Go.WideShapes Go.ChangeAt Go.RowKit
set_option linter.unusedVariables false

def inB (n lo hi : Int) : Bool := decide (lo ≤ n ∧ n ≤ hi)
def numB (s a v : Int) : Bool := inB s 1 600 && inB a 1 6 && inB v 0 9
def recB (k s a v : Int) : Bool := inB k 1 2 && numB s a v

theorem inB_t {n lo hi : Int} (h : lo ≤ n) (g : n ≤ hi) : inB n lo hi = true := by simp [inB, h, g]
theorem inB_f1 {n lo hi : Int} (h : ¬ lo ≤ n) : inB n lo hi = false := by simp [inB, h]
theorem inB_f2 {n lo hi : Int} (h : ¬ n ≤ hi) : inB n lo hi = false := by simp [inB, h]

theorem l6In_any (n lo hi : Int) (w : World) :
    Calls Try.prog 45 #[.int .i64 n, .int .i64 lo, .int .i64 hi] w fun e w' => e = .returned (.bool (inB n lo hi)) ∧ w' = w := by
  by_cases h1 : lo ≤ n
  · by_cases h2 : n ≤ hi
    · have e := inB_t h1 h2
      go_enter Try.func45, Try.ntmps45
      go_wp2
      go_ret
      exact ⟨by first | rfl | (rw [e]; rfl), rfl⟩
    · have e := inB_f2 (lo := lo) h2
      go_enter Try.func45, Try.ntmps45
      go_wp2
      go_ret
      exact ⟨by first | rfl | (rw [e]; rfl), rfl⟩
  · have e := inB_f1 (hi := hi) h1
    go_enter Try.func45, Try.ntmps45
    go_wp2
    go_ret
    exact ⟨by first | rfl | (rw [e]; rfl), rfl⟩

theorem within_any (n lo hi : Int) (w : World) :
    Calls Try.prog 57 #[.int .i64 n, .int .i64 lo, .int .i64 hi] w fun e w' => e = .returned (.bool (inB n lo hi)) ∧ w' = w := by
  by_cases h1 : lo ≤ n
  · by_cases h2 : n ≤ hi
    · have e := inB_t h1 h2
      go_enter Try.func57, Try.ntmps57
      go_wp2
      go_ret
      exact ⟨by first | rfl | (rw [e]; rfl), rfl⟩
    · have e := inB_f2 (lo := lo) h2
      go_enter Try.func57, Try.ntmps57
      go_wp2
      go_ret
      exact ⟨by first | rfl | (rw [e]; rfl), rfl⟩
  · have e := inB_f1 (hi := hi) h1
    go_enter Try.func57, Try.ntmps57
    go_wp2
    go_ret
    exact ⟨by first | rfl | (rw [e]; rfl), rfl⟩

def recV (k s a v : Int) : Value := .agg #[.int .i64 k, .int .i64 s, .int .i64 a, .int .i64 v]

set_option maxHeartbeats 400000 in
theorem specOk_any (k s a v : Int) (w : World) :
    Calls Try.prog 46 #[.agg #[.int .i64 k, .int .i64 s, .int .i64 a, .int .i64 v]] w fun e w' => e = .returned (.bool (recB k s a v)) ∧ Below w.heap.size w w' := by
  have e : recB k s a v = (inB k 1 2 && (inB s 1 600 && inB a 1 6 && inB v 0 9)) := rfl
  cases h1 : inB k 1 2
  rotate_left
  cases h2 : inB s 1 600
  rotate_left
  cases h3 : inB a 1 6
  rotate_left
  cases h4 : inB v 0 9
  all_goals
    simp only [*, Bool.and_true, Bool.and_false, Bool.false_and] at e
    go_enter Try.func46, Try.ntmps46
    go_wp2_with (go_at_call 45; refine (l6In_any _ _ _ _).mono ?_; rintro e w' ⟨rfl, rfl⟩)
    go_ret
    exact ⟨by first | rfl | (rw [e]; rfl), (Below.refl _ _).alloc (Nat.le_refl _) _⟩

theorem keptOf_1 (s a v : Int) (w : World) :
    Calls Try.prog 78 #[.agg #[.int .i64 1, .int .i64 s, .int .i64 a, .int .i64 v]] w fun e w' => e = .returned (.iface 140 (.agg #[.int .i64 s, .int .i64 a, .int .i64 v])) ∧ Below w.heap.size w w' := by
  go_enter Try.func78, Try.ntmps78
  go_wp2
  go_ret
  exact ⟨rfl, ((Below.refl _ _).alloc (Nat.le_refl _) _).alloc (by simp) _⟩

theorem keptOf_2 (s a v : Int) (w : World) :
    Calls Try.prog 78 #[.agg #[.int .i64 2, .int .i64 s, .int .i64 a, .int .i64 v]] w fun e w' => e = .returned (.iface 141 (.agg #[.int .i64 s, .int .i64 a, .int .i64 v])) ∧ Below w.heap.size w w' := by
  go_enter Try.func78, Try.ntmps78
  go_wp2
  go_ret
  exact ⟨rfl, ((Below.refl _ _).alloc (Nat.le_refl _) _).alloc (by simp) _⟩

theorem keptOf_0 (k s a v : Int) (w : World) (h1 : (k == 1) = false) (h2 : (k == 2) = false) :
    Calls Try.prog 78 #[.agg #[.int .i64 k, .int .i64 s, .int .i64 a, .int .i64 v]] w fun e w' => e = .returned .nilIface ∧ Below w.heap.size w w' := by
  go_enter Try.func78, Try.ntmps78
  go_wp2
  go_ret
  exact ⟨rfl, ((Below.refl _ _).alloc (Nat.le_refl _) _).alloc (by simp) _⟩

theorem keptOk_0 (w : World) :
    Calls Try.prog 77 #[.nilIface] w fun e w' => e = .returned (.bool false) ∧ Below w.heap.size w w' := by
  go_enter Try.func77, Try.ntmps77
  go_wp2
  go_ret
  exact ⟨rfl, Below.refl _ _⟩

set_option maxHeartbeats 400000 in
theorem keptOk_1 (s a v : Int) (w : World) :
    Calls Try.prog 77 #[.iface 140 (.agg #[.int .i64 s, .int .i64 a, .int .i64 v])] w fun e w' => e = .returned (.bool (numB s a v)) ∧ Below w.heap.size w w' := by
  have e : numB s a v = (inB s 1 600 && inB a 1 6 && inB v 0 9) := rfl
  cases h2 : inB s 1 600
  rotate_left
  cases h3 : inB a 1 6
  rotate_left
  cases h4 : inB v 0 9
  all_goals
    simp only [*, Bool.and_true, Bool.and_false, Bool.false_and] at e
    go_enter Try.func77, Try.ntmps77
    go_wp2_with (first | (go_at_call 57; refine (within_any _ _ _ _).mono ?_; rintro e w' ⟨rfl, rfl⟩) | go_in)
    go_ret
    exact ⟨by first | rfl | (rw [e]; rfl), by go_grown⟩

set_option maxHeartbeats 400000 in
theorem keptOk_2 (s a v : Int) (w : World) :
    Calls Try.prog 77 #[.iface 141 (.agg #[.int .i64 s, .int .i64 a, .int .i64 v])] w fun e w' => e = .returned (.bool (numB s a v)) ∧ Below w.heap.size w w' := by
  have e : numB s a v = (inB s 1 600 && inB a 1 6 && inB v 0 9) := rfl
  cases h2 : inB s 1 600
  rotate_left
  cases h3 : inB a 1 6
  rotate_left
  cases h4 : inB v 0 9
  all_goals
    simp only [*, Bool.and_true, Bool.and_false, Bool.false_and] at e
    go_enter Try.func77, Try.ntmps77
    go_wp2_with (first | (go_at_call 57; refine (within_any _ _ _ _).mono ?_; rintro e w' ⟨rfl, rfl⟩) | go_in)
    go_ret
    exact ⟨by first | rfl | (rw [e]; rfl), by go_grown⟩

theorem recB_1 (s a v : Int) : recB 1 s a v = numB s a v := by simp [recB, inB]
theorem recB_2 (s a v : Int) : recB 2 s a v = numB s a v := by simp [recB, inB]
theorem recB_0 (k s a v : Int) (h1 : ¬ k = 1) (h2 : ¬ k = 2) : recB k s a v = false := by
  have : inB k 1 2 = false := by simp only [inB, decide_eq_false_iff_not]; omega
  simp [recB, this]

set_option maxHeartbeats 400000 in
theorem recOk_any (k s a v : Int) (w : World) :
    Calls Try.prog 50 #[.agg #[.int .i64 k, .int .i64 s, .int .i64 a, .int .i64 v]] w fun e w' => e = .returned (.bool (recB k s a v)) ∧ Below w.heap.size w w' := by
  by_cases h1 : k = 1
  · subst h1
    rw [recB_1]
    go_enter Try.func50, Try.ntmps50
    go_wp2_with fail
    refine (keptOf_1 _ _ _ _).mono ?_
    rintro e w1 ⟨rfl, b1⟩
    go_wp2_with fail
    refine (keptOk_1 _ _ _ _).mono ?_
    rintro e w2 ⟨rfl, b2⟩
    go_wp2
    go_ret
    exact ⟨rfl, ((Below.refl _ _).alloc (Nat.le_refl _) _).trans ((b1.mono (by simp)).trans (b2.mono (by have := b1.size; simp at this; omega)))⟩
  · by_cases h2 : k = 2
    · subst h2
      rw [recB_2]
      go_enter Try.func50, Try.ntmps50
      go_wp2_with fail
      refine (keptOf_2 _ _ _ _).mono ?_
      rintro e w1 ⟨rfl, b1⟩
      go_wp2_with fail
      refine (keptOk_2 _ _ _ _).mono ?_
      rintro e w2 ⟨rfl, b2⟩
      go_wp2
      go_ret
      exact ⟨rfl, ((Below.refl _ _).alloc (Nat.le_refl _) _).trans ((b1.mono (by simp)).trans (b2.mono (by have := b1.size; simp at this; omega)))⟩
    · rw [recB_0 k s a v h1 h2]
      go_enter Try.func50, Try.ntmps50
      go_wp2_with fail
      refine (keptOf_0 _ _ _ _ _ (by simpa using h1) (by simpa using h2)).mono ?_
      rintro e w1 ⟨rfl, b1⟩
      go_wp2_with fail
      refine (keptOk_0 _).mono ?_
      rintro e w2 ⟨rfl, b2⟩
      go_wp2
      go_ret
      exact ⟨rfl, ((Below.refl _ _).alloc (Nat.le_refl _) _).trans ((b1.mono (by simp)).trans (b2.mono (by have := b1.size; simp at this; omega)))⟩
theorem here : True := trivial
end Go.Proofs.Ytkikeapfjpnkgaa.OkA

/-
  Laws on whole arrays and structs of which the cells are a list, whatever their number: a new variable, a box, an element taken out, a copy of wide elements, a result that lies in a cell. Nothing here speaks of the program.
-/
namespace Go.Proofs.Ytkikeapfjpnkgaa.Big
open Go.ChangeShapes Go.WideShapes Go.ChangeAt Go.RowKit
set_option linter.unusedVariables false
set_option linter.unusedSimpArgs false
variable {P : Program} {ops : Array Oper} {rest : List Oper} {o : Oper} {a : Act} {w : World} {Q : Exit → Act → World → Prop}

theorem one_two {x y : Value} (hx : x.oneCell' = true) (hy : y.oneCell' = true) : #[x, y].all (·.oneCell') = true := all_oneCell_toArray (cs := [x, y]) (by intro v hv; simp at hv; rcases hv with rfl | rfl <;> assumption)
theorem wpList_want (hw : Region.wanted o (yielded ops a.tmps) = true) (h : ∀ K : Act → World → Prop, (∀ a w, wpList P ops Q rest a w → K a w) → o.wp P a w K Q) : wpList P ops Q (o :: rest) a w :=
  wpList_step fun K hK => by rw [if_pos hw]; exact h K hK
theorem wpList_load_want (ty : TypeId) (x : Operand) (ho : o.op = .load ty x) (hw : Region.wanted o (yielded ops a.tmps) = true)
    (b e : Nat) (hx : a.eval x = .pointer (some ⟨b, e, none⟩)) (cs : List Value) (d : TypeDesc) (hc : w.rangeAt b e cs)
    (hu : P.underlying ty = some d) (hd : d.isRow = true) (hi : (P.info? ty).map (·.size) = some cs.length)
    (h : wpList P ops Q rest (a.put o.dst (.agg cs.toArray)) w) : wpList P ops Q (o :: rest) a w :=
  wpList_want hw fun _ hK => wp_load_mid ty x ho b e hx cs d hc hu hd hi (hK _ _ h)
theorem hide {p : Prop} (h : p) : Hid p := h
theorem unhide {p : Prop} (h : Hid p) : p := h

theorem if_then {c : Prop} [Decidable c] {A B : Prop} (h : c) (ha : A) : if c then A else B := by rw [if_pos h]; exact ha

/-! Regions that draw their order, walked move by move. -/
def nth : List Oper → Nat → Option Oper
  | [], _ => none
  | o :: _, 0 => some o
  | _ :: l, n + 1 => nth l n
theorem nth_spec : ∀ (l : List Oper) (i : Nat) (o : Oper), nth l i = some o → l.toArray[i]? = some o
  | [], _, _, h => by cases h
  | x :: l, 0, o, h => by simp only [nth] at h; simpa using h
  | x :: l, n + 1, o, h => by
    have := nth_spec l n o h
    simpa using this
theorem takeL {l : List Oper} {md : Region.Mode} {S : World → Prop} (i : Nat) {oi : Oper} (v : Value) {fuel : Nat} {listed : Array Bool} (hi : nth l i = some oi)
    (hs : Region.noSelect l.toArray = true) (hf : Region.free md l.toArray listed i = true) (hr : (Region.ready md l.toArray listed).contains i = true)
    (hQ : ∀ c a w, Q (.panic c) (a.put oi.dst v) w → Q (.panic c) a w) (hy : YieldsIf P l.toArray S oi v a) (hS : S w)
    (h : wpAnyH P md l.toArray Q S fuel (listed.setIfInBounds i true) (a.put oi.dst v) w) : wpAnyH P md l.toArray Q S (fuel + 1) listed a w :=
  wpAnyH_take (nth_spec l i oi hi) hs hf hr hQ hy hS h
theorem oneL {l : List Oper} {md : Region.Mode} {S : World → Prop} (i : Nat) {o : Oper} {fuel : Nat} {listed : Array Bool} (hi : nth l i = some o) (hr : Region.ready md l.toArray listed = [i])
    (hw : Region.wanted o (yielded l.toArray a.tmps) = true)
    (h : ∀ K' : Act → World → Prop, Shut (∀ a w, S w → (S w → wpAnyH P md l.toArray Q S fuel (listed.setIfInBounds i true) a w) → K' a w) → Oper.wp P o a w K' Q) : wpAnyH P md l.toArray Q S (fuel + 1) listed a w :=
  wpAnyH_ready hr (by simp) (AllReadyH.cons (nth_spec l i o hi) (fun K hK => by rw [if_pos hw]; exact h K hK) AllReadyH.nil)

theorem wpList_alloc_big (hgd : o.guard = none) (T : TypeId) (ho : o.op = .alloc T) (cs : Array Value) (hz : (P.info? T).bind (·.zero) = some (.agg cs))
    (h : wpList P ops Q rest (a.put o.dst (.pointer (some ⟨w.heap.size, 0, none⟩))) (w.alloc (.cells cs T))) : wpList P ops Q (o :: rest) a w :=
  wpList_plain hgd fun K hK => by
    cases hi : P.info? T with
    | none => simp [hi] at hz
    | some i =>
      have hz' : i.zero = some (.agg cs) := by simpa [hi] using hz
      unfold Oper.wp execOp
      simp only [ho]
      have hr : (Instr.alloc T true (.tuple #[])).run P w = .ok (.pointer (some ⟨w.heap.size, 0, none⟩)) (w.alloc (.cells cs T)) := by
        simp [Instr.alloc, zeroValue, typeInfo, hi, hz', newVar, newRow, Value.cells, go_sem]
      simp only [Sem.run_bind, hr, Result.andThen_ok]
      exact hK _ _ h

theorem wpList_box_big (hgd : o.guard = none) (T : TypeId) (x : Operand) (ho : o.op = .box T x) (cs : Array Value) (hx : a.eval x = .agg cs)
    (h : wpList P ops Q rest (a.put o.dst (.pointer (some ⟨w.heap.size, 0, none⟩))) (w.alloc (.cells cs T))) : wpList P ops Q (o :: rest) a w :=
  wpList_plain hgd fun K hK => by
    unfold Oper.wp execOp
    simp only [ho, hx]
    have hr : (Instr.box T (.agg cs)).run P w = .ok (.pointer (some ⟨w.heap.size, 0, none⟩)) (w.alloc (.cells cs T)) := by
      simp [Instr.box, newVar, newRow, Value.cells, go_sem]
    simp only [Sem.run_bind, hr, Result.andThen_ok]
    exact hK _ _ h

theorem run_index_big (T e : TypeId) (n s : Nat) (cs cs' : Array Value) (i : Int) (d : TypeDesc) (hu : P.underlying T = some (.array n e)) (hd : P.underlying e = some d) (hrow : d.isRow = true)
    (hs : (P.info? e).map (·.size) = some s) (h0 : 0 ≤ i) (h1 : i < n) (hc : cs.extract (i.toNat * s) (i.toNat * s + s) = cs') : (Instr.index T (.agg cs) (.int .i64 i)).run P w = .ok (.agg cs') w := by
  cases hq : P.info? e with
  | none => simp [hq] at hs
  | some j =>
    have hj : j.size = s := by simpa [hq] using hs
    have hagg : (isAgg e).run P w = .ok true w := by
      unfold isAgg
      rw [Sem.run_bind, run_underlying hd w]
      cases d <;> simp_all
    simp [Instr.index, asIntOf, run_underlying hu, h0, h1, sizeOf, typeInfo, hq, hj, part, hagg, hc]

theorem wpList_index_big (hgd : o.guard = none) (T : TypeId) (x y : Operand) (ho : o.op = .index T x y) (cs cs' : Array Value) (i : Int) (hx : a.eval x = .agg cs) (hy : a.eval y = .int .i64 i) (e : TypeId) (n s : Nat) (d : TypeDesc) (hu : P.underlying T = some (.array n e)) (hd : P.underlying e = some d) (hrow : d.isRow = true)
    (hs : (P.info? e).map (·.size) = some s) (h0 : 0 ≤ i) (h1 : i < n) (hc : cs.extract (i.toNat * s) (i.toNat * s + s) = cs')
    (h : wpList P ops Q rest (a.put o.dst (.agg cs')) w) : wpList P ops Q (o :: rest) a w :=
  wpList_plain hgd fun K hK => by
    unfold Oper.wp execOp
    simp only [ho, hx, hy, Sem.run_bind, run_index_big T e n s cs cs' i d hu hd hrow hs h0 h1 hc, Result.andThen_ok]
    exact hK _ _ h

/-- A store of a whole variable into the block that was made last. -/
theorem wpList_store_new (hgd : o.guard = none) (T : TypeId) (x y : Operand) (ho : o.op = .store T x y) (w0 : World) (c c' : Array Value) (hw : w = w0.alloc (.cells c T)) (hx : a.eval x = .pointer (some ⟨w0.heap.size, 0, none⟩)) (hy : a.eval y = .agg c')
    (hi : (P.info? T).map (·.size) = some c'.size) (hs : c.size = c'.size) (h1 : c'.all (·.oneCell') = true) (h : wpList P ops Q rest (a.put o.dst undef) (w0.alloc (.cells c' T))) : wpList P ops Q (o :: rest) a w := by
  subst hw
  exact wpList_plain hgd fun K hK => by
    unfold Oper.wp execOp
    simp only [ho, hx, hy, Sem.run_bind, run_storeAt_new w0 T c c' hi hs h1, Result.andThen_ok]
    exact hK _ _ h

theorem wpList_build_big (hgd : o.guard = none) (T : TypeId) (parts : Array (Nat × Operand)) (ho : o.op = .build T parts) (ps : List (Nat × Value)) (hp : (parts.map fun (i, x) => (i, a.eval x)).toList = ps) (cs : Array Value) (hb : P.built T ps = some cs)
    (h : wpList P ops Q rest (a.put o.dst (.agg cs)) w) : wpList P ops Q (o :: rest) a w :=
  wpList_plain hgd fun K hK => wp_build T parts ho (by rw [hp, hb]; rfl) (by rw [hp, hb]; exact hK _ _ h)

theorem wpList_build_two (hgd : o.guard = none) (T : TypeId) (x y : Operand) (ho : o.op = .build T #[(0, x), (1, y)]) (vx vy : Value) (hx : a.eval x = vx) (hy : a.eval y = vy) (cs : Array Value) (hb : P.built T [(0, vx), (1, vy)] = some cs)
    (h : wpList P ops Q rest (a.put o.dst (.agg cs)) w) : wpList P ops Q (o :: rest) a w :=
  wpList_build_big hgd T _ ho [(0, vx), (1, vy)] (by simp [hx, hy]) cs hb h

theorem foldl_fill (c : List Value) : ∀ (n : Nat) (off : Nat) (cs : Array Value), off + n + c.length ≤ cs.size →
    ((c.toArray.zipIdx n).foldl (fun cs (c, j) => cs.setIfInBounds (off + j) c) cs).toList = cs.toList.take (off + n) ++ c ++ cs.toList.drop (off + n + c.length) := by
  intro n off cs h
  rw [← Array.foldl_toList]
  simp only [Array.toList_zipIdx]
  induction c generalizing n cs with
  | nil => simp
  | cons v r ih =>
    simp only [List.zipIdx_cons, List.foldl_cons]
    have hs : off + (n + 1) + r.length ≤ (cs.setIfInBounds (off + n) v).size := by simp at h ⊢; omega
    rw [ih (n + 1) (cs.setIfInBounds (off + n) v) hs]
    apply List.ext_getElem?
    intro i
    simp only [Array.toList_setIfInBounds, List.length_cons]
    simp only [List.length_cons] at h
    have hl : off + n < cs.toList.length := by simp; omega
    by_cases h1 : i < off + n
    · simp [List.getElem?_append, show i < min (off + n) cs.size by simp at hl; omega, show i < min (off + (n + 1)) cs.size by simp at hl; omega]
      rw [List.getElem_set_ne (by omega)]
      simp
    · by_cases h2 : i = off + n
      · subst h2
        simp at hl
        simp [List.getElem?_append, show min (off + n) cs.size = off + n by omega, show off + n < min (off + (n + 1)) cs.size by omega]
      · simp at hl
        have e1 : min (off + (n + 1)) cs.size = off + (n + 1) := by omega
        have e2 : min (off + n) cs.size = off + n := by omega
        simp [List.getElem?_append, e1, e2, show ¬ i < off + (n + 1) by omega, h1, show i - (off + n) = (i - (off + (n + 1))) + 1 by omega]
        split
        · rfl
        · rw [List.getElem?_set_ne (by omega)]
          simp
          congr 1
          omega

/-- A struct of two parts, the first a row. -/
theorem fill_two (r : List Value) (q : Int) (n : Nat) (hn : r.length = n) (z : Array Value) (hz : z.size = n + 1) (place : Nat → Option (Nat × Nat)) (p0 : place 0 = some (0, n)) (p1 : place 1 = some (n, 1)) :
    Instr.fill place z [(0, .agg r.toArray), (1, .int .i64 q)] = some (r ++ [Value.int .i64 q]).toArray := by
  have e1 := foldl_fill r 0 0 z (by omega)
  have e2 : ((r.toArray.zipIdx).foldl (fun cs (c, j) => cs.setIfInBounds (0 + j) c) z).toList = r ++ z.toList.drop n := by
    rw [e1]; simp [hn]
  have hl : (z.toList.drop n).length = 1 := by simp; omega
  obtain ⟨y, hy⟩ : ∃ y, z.toList.drop n = [y] := by
    match hd : z.toList.drop n, hl with
    | [y], _ => exact ⟨y, rfl⟩
  rw [hy] at e2
  have e3 : (r.toArray.zipIdx).foldl (fun cs (c, j) => cs.setIfInBounds (0 + j) c) z = (r ++ [y]).toArray := by
    rw [← e2]
  simp only [Instr.fill, p0, p1, Value.cells]
  rw [if_neg (by simp; omega)]
  simp only [Nat.zero_add] at e3 ⊢
  rw [e3, if_neg (by simp; omega)]
  simp
  rw [show n = r.length from hn.symm]
  simp [List.set_append]

/-- The copy of n elements of s cells each. -/
theorem run_copy_wide (w : World) (dT sT ty elem : TypeId) (b d n dCap : Nat) (x : Addr) (sCap s : Nat) (cs : List Value)
    (hu : P.underlying dT = some (.slice elem)) (hs : (P.info? elem).map (·.size) = some s) (hn : cs.length = n * s)
    (hsrc : ∀ j v, cs[j]? = some v → w.cell? (x.add j) = some v) (hc : w.there b d (n * s)) (h1 : ∀ v ∈ cs, v.oneCell' = true) :
    (Builtin.copy_ #[dT, sT] ty #[.slice (some ⟨b, d, none⟩) n dCap, .slice (some x) n sCap]).run P w = .ok (goInt n) (w.setCells b d cs) := by
  have hl := run_loadCells_list (P := P) w x cs hsrc
  have hst := run_storeCells_cells (P := P) b d cs 0 w (fun j hj => by simpa using (hc j (by omega)).1) (fun j hj => by simpa using (hc j (by omega)).2) h1
  cases hq : P.info? elem with
  | none => simp [hq] at hs
  | some i =>
    have hi : i.size = s := by simpa [hq] using hs
    simp [Builtin.copy_, run_underlying hu, Builtin.lenOf, Builtin.firstCells, sizeOf, typeInfo, hq, hi, ← hn, hl, hst]

theorem wpList_copy_big (hgd : o.guard = none) (d s : Operand) (dT sT : TypeId) (ho : o.op = .call { callee := .builtin .copy, args := #[d, s], argTypes := #[dT, sT] })
    (elem : TypeId) (b e n dCap : Nat) (x : Addr) (sCap sz : Nat) (cs : List Value) (hu : P.underlying dT = some (.slice elem)) (hs : (P.info? elem).map (·.size) = some sz)
    (hd : a.eval d = .slice (some ⟨b, e, none⟩) n dCap) (hx : a.eval s = .slice (some x) n sCap) (hn : cs.length = n * sz)
    (hsrc : ∀ j v, cs[j]? = some v → w.cell? (x.add j) = some v) (hc : w.there b e (n * sz)) (h1 : ∀ v ∈ cs, v.oneCell' = true)
    (h : wpList P ops Q rest (a.put o.dst (goInt n)) (w.setCells b e cs)) : wpList P ops Q (o :: rest) a w := by
  refine wpList_plain hgd fun K hK => ?_
  have hrun := run_copy_wide (P := P) w dT sT o.type elem b e n dCap x sCap sz cs hu hs hn hsrc hc h1
  unfold Oper.wp
  simp [execOp, ho, resolve, invoke, builtin, hd, hx, hrun, Result.andThen]
  exact hK _ _ h

theorem wpList_make_big (hgd : o.guard = none) (t : TypeId) (x y : Operand) (ho : o.op = .makeSlice t x y) (n : Nat) (hx : a.eval x = .int .i64 n) (hy : a.eval y = .int .i64 n)
    (e sz bytes : Nat) (z : Value) (ht : P.underlying t = some (.slice e)) (hi : (P.info? e).map (fun i => (i.zero, i.size, i.bytes)) = some (some z, sz, bytes)) (hb : bytes * n ≤ 281474976710656) (hn : n ≤ 281474976710656)
    (h : wpList P ops Q rest (a.put o.dst (.slice (some ⟨w.heap.size, 0, none⟩) n n)) (w.alloc (.cells (madeCells z.cells (n * sz)) e))) : wpList P ops Q (o :: rest) a w := by
  refine wpList_plain hgd fun K hK => ?_
  cases hq : P.info? e with
  | none => simp [hq] at hi
  | some i =>
    simp [hq] at hi
    obtain ⟨h1, h2, h3⟩ := hi
    have hb' : (i.bytes : Int) * (n : Int) ≤ 281474976710656 := by
      rw [h3, ← Int.natCast_mul]; exact Int.ofNat_le.2 hb
    have hrun := run_make (P := P) w t e i z ht hq h1 .i64 .i64 n n (by omega) (by omega) hb' (by omega)
    simp only [Int.toNat_natCast, h2] at hrun
    unfold Oper.wp execOp
    simp only [ho, hx, hy, Sem.run_bind, hrun, Result.andThen_ok]
    exact hK _ _ h

theorem src_mid {w : World} {b e : Nat} {cs : List Value} (h : w.rangeAt b e cs) : ∀ j v, cs[j]? = some v → w.cell? ((⟨b, e, none⟩ : Addr).add j) = some v := fun j v hv => by
  rw [Addr.add_mid]; exact h j v hv

theorem res_cell_tmp {fn : Func} {p q : Tmp} {ty : TypeId} (h : fn.results = #[.cell p ty, .tmp q]) (tmps : Array Value) (w : World) (g : Nat) (cs : List Value) (d : TypeDesc)
    (hp : tmps.getD p undef = .pointer (some ⟨g, 0, none⟩)) (hg : w.rangeAt g 0 cs) (hu : P.underlying ty = some d) (hd : d.isRow = true) (hi : (P.info? ty).map (·.size) = some cs.length) :
    (results fn tmps).run P w = .ok (.tuple #[.agg cs.toArray, tmps.getD q undef]) w := by
  have hp' : tmps[p]?.getD undef = .pointer (some ⟨g, 0, none⟩) := by simpa using hp
  simp [results, h, hp', asAddr, run_loadVar_mid w g 0 ty cs d hg hu hd hi]
theorem res_cell_mid {fn : Func} {p : Tmp} {ty : TypeId} (h : fn.results = #[.cell p ty]) (tmps : Array Value) (w : World) (g : Nat) (cs : List Value) (d : TypeDesc)
    (hp : tmps.getD p undef = .pointer (some ⟨g, 0, none⟩)) (hg : w.rangeAt g 0 cs) (hu : P.underlying ty = some d) (hd : d.isRow = true) (hi : (P.info? ty).map (·.size) = some cs.length) :
    (results fn tmps).run P w = .ok (.agg cs.toArray) w := by
  have hp' : tmps[p]?.getD undef = .pointer (some ⟨g, 0, none⟩) := by simpa using hp
  simp [results, h, hp', asAddr, run_loadVar_mid w g 0 ty cs d hg hu hd hi]

theorem below_setCells {B : Nat} {w0 : World} (b : Nat) (hb : B ≤ b) : ∀ (vs : List Value) (d : Nat) (w : World), Below B w0 w → Below B w0 (w.setCells b d vs)
  | [], _, _, h => h
  | v :: r, d, w, h => by
    rw [World.setCells]
    exact below_setCells b hb r (d + 1) _ (h.setCell (p := ⟨b, d, none⟩) hb v)
theorem size_setCells (b : Nat) : ∀ (vs : List Value) (d : Nat) (w : World), (w.setCells b d vs).heap.size = w.heap.size
  | [], _, _ => rfl
  | v :: r, d, w => by
    rw [World.setCells, size_setCells b r (d + 1), World.size_setCell]
theorem rangeAt_new (w : World) (cs : List Value) (T : TypeId) : (w.alloc (.cells cs.toArray T)).rangeAt w.heap.size 0 cs := fun j v hv => by
  rw [World.cell?_alloc_at _ _ _ _ rfl]; simpa using hv
theorem there_new (w : World) (cs : List Value) (T : TypeId) : (w.alloc (.cells cs.toArray T)).there w.heap.size 0 cs.length := fun j hj => by
  rw [World.cell?_alloc_at _ _ _ _ rfl]
  exact ⟨by simpa using hj, by simp⟩
theorem rangeAt_below {w w' : World} {B b d : Nat} {cs : List Value} (h : w.rangeAt b d cs) (hb : Below B w w') (hlt : b < B) : w'.rangeAt b d cs := fun j v hv => by
  rw [hb.cell (p := ⟨b, d + j, none⟩) hlt]; exact h j v hv
theorem there_below {w w' : World} {B b d n : Nat} (h : w.there b d n) (hb : Below B w w') (hlt : b < B) : w'.there b d n := fun j hj => by
  rw [hb.cell (p := ⟨b, d + j, none⟩) hlt, hb.frozen (p := ⟨b, d + j, none⟩) hlt]; exact h j hj
theorem rangeAt_sub {w : World} {b d : Nat} {cs : List Value} (h : w.rangeAt b d cs) (k n : Nat) : w.rangeAt b (d + k) ((cs.drop k).take n) := fun j v hv => by
  rw [Nat.add_assoc]
  refine h (k + j) v ?_
  rw [List.getElem?_take] at hv
  split at hv
  · rwa [List.getElem?_drop] at hv
  · cases hv
theorem there_sub {w : World} {b d n : Nat} (h : w.there b d n) (k m : Nat) (hk : k + m ≤ n) : w.there b (d + k) m := fun j hj => by
  rw [Nat.add_assoc]; exact h (k + j) (by omega)
end Go.Proofs.Ytkikeapfjpnkgaa.Big

/-
  All blocks of memory but some stand as they stood. Nothing here speaks of the program.
-/
namespace Go.Proofs.Ytkikeapfjpnkgaa.Kp
open Go.ChangeShapes Go.WideShapes Go.ChangeAt Go.RowKit
set_option linter.unusedVariables false
set_option linter.unusedSimpArgs false

/-- But for the blocks of L the world w' has what w had; the streams are as they were; no block has gone. -/
structure Kept (L : List Nat) (w w' : World) : Prop where
  os : w'.os = w.os
  tape : w'.tape = w.tape
  output : w'.output = w.output
  size : w.heap.size ≤ w'.heap.size
  block : ∀ k, k < w.heap.size → k ∉ L → w'.heap[k]? = w.heap[k]?
variable {L M : List Nat} {u v w w' : World}
theorem Kept.refl (L : List Nat) (w : World) : Kept L w w := ⟨rfl, rfl, rfl, Nat.le_refl _, fun _ _ _ => rfl⟩
theorem Kept.of (h : Below w.heap.size w w') : Kept L w w' := ⟨h.os, h.tape, h.output, h.size, fun k hk _ => h.block k hk⟩
theorem Kept.trans (h : Kept L u v) (g : Kept L v w) : Kept L u w :=
  ⟨g.os.trans h.os, g.tape.trans h.tape, g.output.trans h.output, Nat.le_trans h.size g.size, fun k hk hn => (g.block k (Nat.lt_of_lt_of_le hk h.size) hn).trans (h.block k hk hn)⟩
/-- New blocks need not be named. -/
theorem Kept.less (h : Kept L w w') (hs : ∀ x ∈ L, x ∈ M ∨ w.heap.size ≤ x) : Kept M w w' :=
  ⟨h.os, h.tape, h.output, h.size, fun k hk hn => h.block k hk (fun hm => (hs k hm).elim hn (fun hg => by omega))⟩
theorem Kept.sub (h : Kept L w w') (hs : ∀ x ∈ L, x ∈ M) : Kept M w w' := h.less fun x hx => .inl (hs x hx)
/-- A step behind others that turned new blocks besides. -/
theorem Kept.then (h : Kept L u v) (g : Kept M v w) (hs : ∀ x ∈ M, x ∈ L ∨ u.heap.size ≤ x) : Kept L u w :=
  ⟨g.os.trans h.os, g.tape.trans h.tape, g.output.trans h.output, Nat.le_trans h.size g.size, fun k hk hn => (g.block k (Nat.lt_of_lt_of_le hk h.size) (fun hm => (hs k hm).elim hn (fun hg => by omega))).trans (h.block k hk hn)⟩
theorem Kept.below (h : Kept L w w') {B : Nat} (hL : ∀ x ∈ L, B ≤ x) (hB : B ≤ w.heap.size) : Below B w w' :=
  ⟨h.os, h.tape, h.output, h.size, fun k hk => h.block k (by omega) (fun hm => by have := hL k hm; omega)⟩
theorem Kept.all (h : Kept L w w') (hL : ∀ x ∈ L, w.heap.size ≤ x) : Below w.heap.size w w' := h.below hL (Nat.le_refl _)
theorem Kept.drew (h : Kept L u w) : Kept L u w.drew := ⟨h.os, h.tape, h.output, h.size, h.block⟩
theorem Kept.alloc (h : Kept L u w) (o : Obj) : Kept L u (w.alloc o) := h.trans (.of ((Below.refl _ _).alloc (Nat.le_refl _) o))
theorem Kept.setCell (h : Kept L u w) {p : Addr} (hp : p.block ∈ L ∨ u.heap.size ≤ p.block) (x : Value) : Kept L u (w.setCell p x) :=
  h.then (M := [p.block]) ⟨rfl, rfl, rfl, by simp [World.setCell], fun k hk hn => Below.heap_setCell _ _ _ _ (by simpa using hn)⟩ (fun y hy => by simp at hy; subst hy; exact hp)
theorem Kept.setCells (h : Kept L u w) {b : Nat} (hp : b ∈ L ∨ u.heap.size ≤ b) (o : Nat) (vs : List Value) : Kept L u (w.setCells b o vs) := by
  induction vs generalizing w o with
  | nil => exact h
  | cons x r ih => exact ih (h.setCell (p := ⟨b, o, none⟩) hp x) (o + 1)
theorem Kept.grown {row : Option Nat} (h : Kept L u w) (hg : w.grownBy w' row) (hr : ∀ k, row = some k → k ∈ L ∨ u.heap.size ≤ k) : Kept L u w' :=
  h.then (M := row.toList) ⟨hg.os, hg.tape, hg.output, hg.size, fun k hk hn => hg.block k hk (fun e => hn (by rw [← e]; simp))⟩ (fun y hy => hr y (by cases row <;> simp_all))
theorem Kept.cell (h : Kept L w w') {b : Nat} (o : Nat) (hb : b < w.heap.size) (hn : b ∉ L) : w'.cell? ⟨b, o, none⟩ = w.cell? ⟨b, o, none⟩ := World.cell?_of_block (w := w) (h.block b hb hn)
theorem Kept.frozen (h : Kept L w w') {b : Nat} (o : Nat) (hb : b < w.heap.size) (hn : b ∉ L) : w'.frozen? ⟨b, o, none⟩ = w.frozen? ⟨b, o, none⟩ := World.frozen?_of_block (w := w) (h.block b hb hn)
theorem Kept.range (h : Kept L w w') {b o : Nat} {cs : List Value} (hr : w.rangeAt b o cs) (hb : b < w.heap.size) (hn : b ∉ L) : w'.rangeAt b o cs := fun j x hx => by rw [h.cell _ hb hn]; exact hr j x hx
theorem Kept.there (h : Kept L w w') {b o n : Nat} (hr : w.there b o n) (hb : b < w.heap.size) (hn : b ∉ L) : w'.there b o n := fun j hj => by rw [h.cell _ hb hn, h.frozen _ hb hn]; exact hr j hj
theorem Kept.row (h : Kept L w w') {base : Nat} {e : TypeId} {size n : Nat} {x : Value} {xs : List Value} (hr : w.ownsRow base e size x n xs) (hn : ∀ b, x.ownBlock = some b → b ∉ L) : w'.ownsRow base e size x n xs := by
  obtain ⟨h1, h2⟩ := hr
  refine ⟨h1, ?_⟩
  rcases h2 with h2 | ⟨g, cap, cur, rfl, hg, hh, r⟩
  · exact .inl h2
  · have hlt : g < w.heap.size := by
      by_cases hb : g < w.heap.size
      · exact hb
      · have : w.heap[g]? = none := by simp; omega
        rw [this] at hh; cases hh
    exact .inr ⟨g, cap, cur, rfl, hg, by rw [h.block g hlt (hn g rfl)]; exact hh, r⟩
end Go.Proofs.Ytkikeapfjpnkgaa.Kp
