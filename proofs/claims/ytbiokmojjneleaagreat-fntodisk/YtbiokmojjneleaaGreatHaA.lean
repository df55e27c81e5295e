/-
  Texts that belong together, one behind the other: OkA, Big, Kp, Fl, ImplB.
-/
import Derived.Test.YtbiokmojjneleaaGreatRows
import Derived.WalkKit
import Derived.ProofKit
import Derived.OpenShut
import Derived.Below
import Derived.Handy
import Derived.Deep.MidRow
import Derived.Deep.WholeRow
import Derived.Laws.MakeOwn
import Derived.Deep.RegionHeld3
import Derived.Laws.CopyOwn

/-
  The contracts of the functions that tell whether a record is ok, the program's and the specification's, for every record of four ints.
-/
namespace Go.Proofs.YtbiokmojjneleaaGreat.OkA
open Go.ChangeShapes Go.WideShapes Go.ChangeAt Go.RowKit
set_option linter.unusedVariables false

def inB (n lo hi : Int) : Bool := decide (lo ≤ n ∧ n ≤ hi)
def numB (s a v : Int) : Bool := inB s 1 600 && inB a 1 6 && inB v 0 9
def recB (k s a v : Int) : Bool := inB k 1 2 && numB s a v

theorem inB_t {n lo hi : Int} (h : lo ≤ n) (g : n ≤ hi) : inB n lo hi = true := by simp [inB, h, g]
theorem inB_f1 {n lo hi : Int} (h : ¬ lo ≤ n) : inB n lo hi = false := by simp [inB, h]
theorem inB_f2 {n lo hi : Int} (h : ¬ n ≤ hi) : inB n lo hi = false := by simp [inB, h]

theorem l6In_any (n lo hi : Int) (w : World) :
    Calls Tryz.prog 61 #[.int .i64 n, .int .i64 lo, .int .i64 hi] w fun e w' => e = .returned (.bool (inB n lo hi)) ∧ w' = w := by
  by_cases h1 : lo ≤ n
  · by_cases h2 : n ≤ hi
    · have e := inB_t h1 h2
      go_enter Tryz.func61, Tryz.ntmps61
      go_wp2
      go_ret
      exact ⟨by first | rfl | (rw [e]; rfl), rfl⟩
    · have e := inB_f2 (lo := lo) h2
      go_enter Tryz.func61, Tryz.ntmps61
      go_wp2
      go_ret
      exact ⟨by first | rfl | (rw [e]; rfl), rfl⟩
  · have e := inB_f1 (hi := hi) h1
    go_enter Tryz.func61, Tryz.ntmps61
    go_wp2
    go_ret
    exact ⟨by first | rfl | (rw [e]; rfl), rfl⟩

theorem within_any (n lo hi : Int) (w : World) :
    Calls Tryz.prog 67 #[.int .i64 n, .int .i64 lo, .int .i64 hi] w fun e w' => e = .returned (.bool (inB n lo hi)) ∧ w' = w := by
  by_cases h1 : lo ≤ n
  · by_cases h2 : n ≤ hi
    · have e := inB_t h1 h2
      go_enter Tryz.func67, Tryz.ntmps67
      go_wp2
      go_ret
      exact ⟨by first | rfl | (rw [e]; rfl), rfl⟩
    · have e := inB_f2 (lo := lo) h2
      go_enter Tryz.func67, Tryz.ntmps67
      go_wp2
      go_ret
      exact ⟨by first | rfl | (rw [e]; rfl), rfl⟩
  · have e := inB_f1 (hi := hi) h1
    go_enter Tryz.func67, Tryz.ntmps67
    go_wp2
    go_ret
    exact ⟨by first | rfl | (rw [e]; rfl), rfl⟩

def recV (k s a v : Int) : Value := .agg #[.int .i64 k, .int .i64 s, .int .i64 a, .int .i64 v]

set_option maxHeartbeats 400000 in
theorem specOk_any (k s a v : Int) (w : World) :
    Calls Tryz.prog 76 #[.agg #[.int .i64 k, .int .i64 s, .int .i64 a, .int .i64 v]] w fun e w' => e = .returned (.bool (recB k s a v)) ∧ Below w.heap.size w w' := by
  have e : recB k s a v = (inB k 1 2 && (inB s 1 600 && inB a 1 6 && inB v 0 9)) := rfl
  cases h1 : inB k 1 2
  rotate_left
  cases h2 : inB s 1 600
  rotate_left
  cases h3 : inB a 1 6
  rotate_left
  cases h4 : inB v 0 9
  all_goals
    simp only [*, Bool.and_true, Bool.and_false, Bool.false_and] at e
    go_enter Tryz.func76, Tryz.ntmps76
    go_wp2_with (go_at_call 61; refine (l6In_any _ _ _ _).mono ?_; rintro e w' ⟨rfl, rfl⟩)
    go_ret
    exact ⟨by first | rfl | (rw [e]; rfl), (Below.refl _ _).alloc (Nat.le_refl _) _⟩

theorem keptOf_1 (s a v : Int) (w : World) :
    Calls Tryz.prog 139 #[.agg #[.int .i64 1, .int .i64 s, .int .i64 a, .int .i64 v]] w fun e w' => e = .returned (.iface 179 (.agg #[.int .i64 s, .int .i64 a, .int .i64 v])) ∧ Below w.heap.size w w' := by
  go_enter Tryz.func139, Tryz.ntmps139
  go_wp2
  go_ret
  exact ⟨rfl, ((Below.refl _ _).alloc (Nat.le_refl _) _).alloc (by simp) _⟩

theorem keptOf_2 (s a v : Int) (w : World) :
    Calls Tryz.prog 139 #[.agg #[.int .i64 2, .int .i64 s, .int .i64 a, .int .i64 v]] w fun e w' => e = .returned (.iface 180 (.agg #[.int .i64 s, .int .i64 a, .int .i64 v])) ∧ Below w.heap.size w w' := by
  go_enter Tryz.func139, Tryz.ntmps139
  go_wp2
  go_ret
  exact ⟨rfl, ((Below.refl _ _).alloc (Nat.le_refl _) _).alloc (by simp) _⟩

theorem keptOf_0 (k s a v : Int) (w : World) (h1 : (k == 1) = false) (h2 : (k == 2) = false) :
    Calls Tryz.prog 139 #[.agg #[.int .i64 k, .int .i64 s, .int .i64 a, .int .i64 v]] w fun e w' => e = .returned .nilIface ∧ Below w.heap.size w w' := by
  go_enter Tryz.func139, Tryz.ntmps139
  go_wp2
  go_ret
  exact ⟨rfl, ((Below.refl _ _).alloc (Nat.le_refl _) _).alloc (by simp) _⟩

theorem keptOk_0 (w : World) :
    Calls Tryz.prog 138 #[.nilIface] w fun e w' => e = .returned (.bool false) ∧ Below w.heap.size w w' := by
  go_enter Tryz.func138, Tryz.ntmps138
  go_wp2
  go_ret
  exact ⟨rfl, Below.refl _ _⟩

set_option maxHeartbeats 400000 in
theorem keptOk_1 (s a v : Int) (w : World) :
    Calls Tryz.prog 138 #[.iface 179 (.agg #[.int .i64 s, .int .i64 a, .int .i64 v])] w fun e w' => e = .returned (.bool (numB s a v)) ∧ Below w.heap.size w w' := by
  have e : numB s a v = (inB s 1 600 && inB a 1 6 && inB v 0 9) := rfl
  cases h2 : inB s 1 600
  rotate_left
  cases h3 : inB a 1 6
  rotate_left
  cases h4 : inB v 0 9
  all_goals
    simp only [*, Bool.and_true, Bool.and_false, Bool.false_and] at e
    go_enter Tryz.func138, Tryz.ntmps138
    go_wp2_with (first | (go_at_call 67; refine (within_any _ _ _ _).mono ?_; rintro e w' ⟨rfl, rfl⟩) | go_in)
    go_ret
    exact ⟨by first | rfl | (rw [e]; rfl), by go_grown⟩

set_option maxHeartbeats 400000 in
theorem keptOk_2 (s a v : Int) (w : World) :
    Calls Tryz.prog 138 #[.iface 180 (.agg #[.int .i64 s, .int .i64 a, .int .i64 v])] w fun e w' => e = .returned (.bool (numB s a v)) ∧ Below w.heap.size w w' := by
  have e : numB s a v = (inB s 1 600 && inB a 1 6 && inB v 0 9) := rfl
  cases h2 : inB s 1 600
  rotate_left
  cases h3 : inB a 1 6
  rotate_left
  cases h4 : inB v 0 9
  all_goals
    simp only [*, Bool.and_true, Bool.and_false, Bool.false_and] at e
    go_enter Tryz.func138, Tryz.ntmps138
    go_wp2_with (first | (go_at_call 67; refine (within_any _ _ _ _).mono ?_; rintro e w' ⟨rfl, rfl⟩) | go_in)
    go_ret
    exact ⟨by first | rfl | (rw [e]; rfl), by go_grown⟩

theorem recB_1 (s a v : Int) : recB 1 s a v = numB s a v := by simp [recB, inB]
theorem recB_2 (s a v : Int) : recB 2 s a v = numB s a v := by simp [recB, inB]
theorem recB_0 (k s a v : Int) (h1 : ¬ k = 1) (h2 : ¬ k = 2) : recB k s a v = false := by
  have : inB k 1 2 = false := by simp only [inB, decide_eq_false_iff_not]; omega
  simp [recB, this]

set_option maxHeartbeats 400000 in
theorem recOk_any (k s a v : Int) (w : World) :
    Calls Tryz.prog 116 #[.agg #[.int .i64 k, .int .i64 s, .int .i64 a, .int .i64 v]] w fun e w' => e = .returned (.bool (recB k s a v)) ∧ Below w.heap.size w w' := by
  by_cases h1 : k = 1
  · subst h1
    rw [recB_1]
    go_enter Tryz.func116, Tryz.ntmps116
    go_wp2_with fail
    refine (keptOf_1 _ _ _ _).mono ?_
    rintro e w1 ⟨rfl, b1⟩
    go_wp2_with fail
    refine (keptOk_1 _ _ _ _).mono ?_
    rintro e w2 ⟨rfl, b2⟩
    go_wp2
    go_ret
    exact ⟨rfl, ((Below.refl _ _).alloc (Nat.le_refl _) _).trans ((b1.mono (by simp)).trans (b2.mono (by have := b1.size; simp at this; omega)))⟩
  · by_cases h2 : k = 2
    · subst h2
      rw [recB_2]
      go_enter Tryz.func116, Tryz.ntmps116
      go_wp2_with fail
      refine (keptOf_2 _ _ _ _).mono ?_
      rintro e w1 ⟨rfl, b1⟩
      go_wp2_with fail
      refine (keptOk_2 _ _ _ _).mono ?_
      rintro e w2 ⟨rfl, b2⟩
      go_wp2
      go_ret
      exact ⟨rfl, ((Below.refl _ _).alloc (Nat.le_refl _) _).trans ((b1.mono (by simp)).trans (b2.mono (by have := b1.size; simp at this; omega)))⟩
    · rw [recB_0 k s a v h1 h2]
      go_enter Tryz.func116, Tryz.ntmps116
      go_wp2_with fail
      refine (keptOf_0 _ _ _ _ _ (by simpa using h1) (by simpa using h2)).mono ?_
      rintro e w1 ⟨rfl, b1⟩
      go_wp2_with fail
      refine (keptOk_0 _).mono ?_
      rintro e w2 ⟨rfl, b2⟩
      go_wp2
      go_ret
      exact ⟨rfl, ((Below.refl _ _).alloc (Nat.le_refl _) _).trans ((b1.mono (by simp)).trans (b2.mono (by have := b1.size; simp at this; omega)))⟩
theorem here : True := trivial
end Go.Proofs.YtbiokmojjneleaaGreat.OkA

/-
  Laws on whole arrays and structs of which the cells are a list, whatever their number: a new variable, a box, an element taken out, a copy of wide elements, a result that lies in a cell. Nothing here speaks of the program.
-/
namespace Go.Proofs.YtbiokmojjneleaaGreat.Big
open Go.ChangeShapes Go.WideShapes Go.ChangeAt Go.RowKit
set_option linter.unusedVariables false
set_option linter.unusedSimpArgs false
variable {P : Program} {ops : Array Oper} {rest : List Oper} {o : Oper} {a : Act} {w : World} {Q : Exit → Act → World → Prop}

theorem one_two {x y : Value} (hx : x.oneCell' = true) (hy : y.oneCell' = true) : #[x, y].all (·.oneCell') = true := all_oneCell_toArray (cs := [x, y]) (by intro v hv; simp at hv; rcases hv with rfl | rfl <;> assumption)
theorem wpList_want (hw : Region.wanted o (yielded ops a.tmps) = true) (h : ∀ K : Act → World → Prop, (∀ a w, wpList P ops Q rest a w → K a w) → o.wp P a w K Q) : wpList P ops Q (o :: rest) a w :=
  wpList_step fun K hK => by rw [if_pos hw]; exact h K hK
theorem wpList_load_want (ty : TypeId) (x : Operand) (ho : o.op = .load ty x) (hw : Region.wanted o (yielded ops a.tmps) = true)
    (b e : Nat) (hx : a.eval x = .pointer (some ⟨b, e, none⟩)) (cs : List Value) (d : TypeDesc) (hc : w.rangeAt b e cs)
    (hu : P.underlying ty = some d) (hd : d.isRow = true) (hi : (P.info? ty).map (·.size) = some cs.length)
    (h : wpList P ops Q rest (a.put o.dst (.agg cs.toArray)) w) : wpList P ops Q (o :: rest) a w :=
  wpList_want hw fun _ hK => wp_load_mid ty x ho b e hx cs d hc hu hd hi (hK _ _ h)
theorem hide {p : Prop} (h : p) : Hid p := h
theorem unhide {p : Prop} (h : Hid p) : p := h

theorem if_then {c : Prop} [Decidable c] {A B : Prop} (h : c) (ha : A) : if c then A else B := by rw [if_pos h]; exact ha

/-! Regions that draw their order, walked move by move. -/
def nth : List Oper → Nat → Option Oper
  | [], _ => none
  | o :: _, 0 => some o
  | _ :: l, n + 1 => nth l n
theorem nth_spec : ∀ (l : List Oper) (i : Nat) (o : Oper), nth l i = some o → l.toArray[i]? = some o
  | [], _, _, h => by cases h
  | x :: l, 0, o, h => by simp only [nth] at h; simpa using h
  | x :: l, n + 1, o, h => by
    have := nth_spec l n o h
    simpa using this
theorem takeL {l : List Oper} {md : Region.Mode} {S : World → Prop} (i : Nat) {oi : Oper} (v : Value) {fuel : Nat} {listed : Array Bool} (hi : nth l i = some oi)
    (hs : Region.noSelect l.toArray = true) (hf : Region.free md l.toArray listed i = true) (hr : (Region.ready md l.toArray listed).contains i = true)
    (hQ : ∀ c a w, Q (.panic c) (a.put oi.dst v) w → Q (.panic c) a w) (hy : YieldsIf P l.toArray S oi v a) (hS : S w)
    (h : wpAnyH P md l.toArray Q S fuel (listed.setIfInBounds i true) (a.put oi.dst v) w) : wpAnyH P md l.toArray Q S (fuel + 1) listed a w :=
  wpAnyH_take (nth_spec l i oi hi) hs hf hr hQ hy hS h
theorem oneL {l : List Oper} {md : Region.Mode} {S : World → Prop} (i : Nat) {o : Oper} {fuel : Nat} {listed : Array Bool} (hi : nth l i = some o) (hr : Region.ready md l.toArray listed = [i])
    (hw : Region.wanted o (yielded l.toArray a.tmps) = true)
    (h : ∀ K' : Act → World → Prop, Shut (∀ a w, S w → (S w → wpAnyH P md l.toArray Q S fuel (listed.setIfInBounds i true) a w) → K' a w) → Oper.wp P o a w K' Q) : wpAnyH P md l.toArray Q S (fuel + 1) listed a w :=
  wpAnyH_ready hr (by simp) (AllReadyH.cons (nth_spec l i o hi) (fun K hK => by rw [if_pos hw]; exact h K hK) AllReadyH.nil)

theorem wpList_alloc_big (hgd : o.guard = none) (T : TypeId) (ho : o.op = .alloc T) (cs : Array Value) (hz : (P.info? T).bind (·.zero) = some (.agg cs))
    (h : wpList P ops Q rest (a.put o.dst (.pointer (some ⟨w.heap.size, 0, none⟩))) (w.alloc (.cells cs T))) : wpList P ops Q (o :: rest) a w :=
  wpList_plain hgd fun K hK => by
    cases hi : P.info? T with
    | none => simp [hi] at hz
    | some i =>
      have hz' : i.zero = some (.agg cs) := by simpa [hi] using hz
      unfold Oper.wp execOp
      simp only [ho]
      have hr : (Instr.alloc T true (.tuple #[])).run P w = .ok (.pointer (some ⟨w.heap.size, 0, none⟩)) (w.alloc (.cells cs T)) := by
        simp [Instr.alloc, zeroValue, typeInfo, hi, hz', newVar, newRow, Value.cells, go_sem]
      simp only [Sem.run_bind, hr, Result.andThen_ok]
      exact hK _ _ h

theorem wpList_box_big (hgd : o.guard = none) (T : TypeId) (x : Operand) (ho : o.op = .box T x) (cs : Array Value) (hx : a.eval x = .agg cs)
    (h : wpList P ops Q rest (a.put o.dst (.pointer (some ⟨w.heap.size, 0, none⟩))) (w.alloc (.cells cs T))) : wpList P ops Q (o :: rest) a w :=
  wpList_plain hgd fun K hK => by
    unfold Oper.wp execOp
    simp only [ho, hx]
    have hr : (Instr.box T (.agg cs)).run P w = .ok (.pointer (some ⟨w.heap.size, 0, none⟩)) (w.alloc (.cells cs T)) := by
      simp [Instr.box, newVar, newRow, Value.cells, go_sem]
    simp only [Sem.run_bind, hr, Result.andThen_ok]
    exact hK _ _ h

theorem run_index_big (T e : TypeId) (n s : Nat) (cs cs' : Array Value) (i : Int) (d : TypeDesc) (hu : P.underlying T = some (.array n e)) (hd : P.underlying e = some d) (hrow : d.isRow = true)
    (hs : (P.info? e).map (·.size) = some s) (h0 : 0 ≤ i) (h1 : i < n) (hc : cs.extract (i.toNat * s) (i.toNat * s + s) = cs') : (Instr.index T (.agg cs) (.int .i64 i)).run P w = .ok (.agg cs') w := by
  cases hq : P.info? e with
  | none => simp [hq] at hs
  | some j =>
    have hj : j.size = s := by simpa [hq] using hs
    have hagg : (isAgg e).run P w = .ok true w := by
      unfold isAgg
      rw [Sem.run_bind, run_underlying hd w]
      cases d <;> simp_all
    simp [Instr.index, asIntOf, run_underlying hu, h0, h1, sizeOf, typeInfo, hq, hj, part, hagg, hc]

theorem wpList_index_big (hgd : o.guard = none) (T : TypeId) (x y : Operand) (ho : o.op = .index T x y) (cs cs' : Array Value) (i : Int) (hx : a.eval x = .agg cs) (hy : a.eval y = .int .i64 i) (e : TypeId) (n s : Nat) (d : TypeDesc) (hu : P.underlying T = some (.array n e)) (hd : P.underlying e = some d) (hrow : d.isRow = true)
    (hs : (P.info? e).map (·.size) = some s) (h0 : 0 ≤ i) (h1 : i < n) (hc : cs.extract (i.toNat * s) (i.toNat * s + s) = cs')
    (h : wpList P ops Q rest (a.put o.dst (.agg cs')) w) : wpList P ops Q (o :: rest) a w :=
  wpList_plain hgd fun K hK => by
    unfold Oper.wp execOp
    simp only [ho, hx, hy, Sem.run_bind, run_index_big T e n s cs cs' i d hu hd hrow hs h0 h1 hc, Result.andThen_ok]
    exact hK _ _ h

/-- A store of a whole variable into the block that was made last. -/
theorem wpList_store_new (hgd : o.guard = none) (T : TypeId) (x y : Operand) (ho : o.op = .store T x y) (w0 : World) (c c' : Array Value) (hw : w = w0.alloc (.cells c T)) (hx : a.eval x = .pointer (some ⟨w0.heap.size, 0, none⟩)) (hy : a.eval y = .agg c')
    (hi : (P.info? T).map (·.size) = some c'.size) (hs : c.size = c'.size) (h1 : c'.all (·.oneCell') = true) (h : wpList P ops Q rest (a.put o.dst undef) (w0.alloc (.cells c' T))) : wpList P ops Q (o :: rest) a w := by
  subst hw
  exact wpList_plain hgd fun K hK => by
    unfold Oper.wp execOp
    simp only [ho, hx, hy, Sem.run_bind, run_storeAt_new w0 T c c' hi hs h1, Result.andThen_ok]
    exact hK _ _ h

theorem wpList_build_big (hgd : o.guard = none) (T : TypeId) (parts : Array (Nat × Operand)) (ho : o.op = .build T parts) (ps : List (Nat × Value)) (hp : (parts.map fun (i, x) => (i, a.eval x)).toList = ps) (cs : Array Value) (hb : P.built T ps = some cs)
    (h : wpList P ops Q rest (a.put o.dst (.agg cs)) w) : wpList P ops Q (o :: rest) a w :=
  wpList_plain hgd fun K hK => wp_build T parts ho (by rw [hp, hb]; rfl) (by rw [hp, hb]; exact hK _ _ h)

theorem wpList_build_two (hgd : o.guard = none) (T : TypeId) (x y : Operand) (ho : o.op = .build T #[(0, x), (1, y)]) (vx vy : Value) (hx : a.eval x = vx) (hy : a.eval y = vy) (cs : Array Value) (hb : P.built T [(0, vx), (1, vy)] = some cs)
    (h : wpList P ops Q rest (a.put o.dst (.agg cs)) w) : wpList P ops Q (o :: rest) a w :=
  wpList_build_big hgd T _ ho [(0, vx), (1, vy)] (by simp [hx, hy]) cs hb h

theorem foldl_fill (c : List Value) : ∀ (n : Nat) (off : Nat) (cs : Array Value), off + n + c.length ≤ cs.size →
    ((c.toArray.zipIdx n).foldl (fun cs (c, j) => cs.setIfInBounds (off + j) c) cs).toList = cs.toList.take (off + n) ++ c ++ cs.toList.drop (off + n + c.length) := by
  intro n off cs h
  rw [← Array.foldl_toList]
  simp only [Array.toList_zipIdx]
  induction c generalizing n cs with
  | nil => simp
  | cons v r ih =>
    simp only [List.zipIdx_cons, List.foldl_cons]
    have hs : off + (n + 1) + r.length ≤ (cs.setIfInBounds (off + n) v).size := by simp at h ⊢; omega
    rw [ih (n + 1) (cs.setIfInBounds (off + n) v) hs]
    apply List.ext_getElem?
    intro i
    simp only [Array.toList_setIfInBounds, List.length_cons]
    simp only [List.length_cons] at h
    have hl : off + n < cs.toList.length := by simp; omega
    by_cases h1 : i < off + n
    · simp [List.getElem?_append, show i < min (off + n) cs.size by simp at hl; omega, show i < min (off + (n + 1)) cs.size by simp at hl; omega]
      rw [List.getElem_set_ne (by omega)]
      simp
    · by_cases h2 : i = off + n
      · subst h2
        simp at hl
        simp [List.getElem?_append, show min (off + n) cs.size = off + n by omega, show off + n < min (off + (n + 1)) cs.size by omega]
      · simp at hl
        have e1 : min (off + (n + 1)) cs.size = off + (n + 1) := by omega
        have e2 : min (off + n) cs.size = off + n := by omega
        simp [List.getElem?_append, e1, e2, show ¬ i < off + (n + 1) by omega, h1, show i - (off + n) = (i - (off + (n + 1))) + 1 by omega]
        split
        · rfl
        · rw [List.getElem?_set_ne (by omega)]
          simp
          congr 1
          omega

/-- A struct of two parts, the first a row. -/
theorem fill_two (r : List Value) (q : Int) (n : Nat) (hn : r.length = n) (z : Array Value) (hz : z.size = n + 1) (place : Nat → Option (Nat × Nat)) (p0 : place 0 = some (0, n)) (p1 : place 1 = some (n, 1)) :
    Instr.fill place z [(0, .agg r.toArray), (1, .int .i64 q)] = some (r ++ [Value.int .i64 q]).toArray := by
  have e1 := foldl_fill r 0 0 z (by omega)
  have e2 : ((r.toArray.zipIdx).foldl (fun cs (c, j) => cs.setIfInBounds (0 + j) c) z).toList = r ++ z.toList.drop n := by
    rw [e1]; simp [hn]
  have hl : (z.toList.drop n).length = 1 := by simp; omega
  obtain ⟨y, hy⟩ : ∃ y, z.toList.drop n = [y] := by
    match hd : z.toList.drop n, hl with
    | [y], _ => exact ⟨y, rfl⟩
  rw [hy] at e2
  have e3 : (r.toArray.zipIdx).foldl (fun cs (c, j) => cs.setIfInBounds (0 + j) c) z = (r ++ [y]).toArray := by
    rw [← e2]
  simp only [Instr.fill, p0, p1, Value.cells]
  rw [if_neg (by simp; omega)]
  simp only [Nat.zero_add] at e3 ⊢
  rw [e3, if_neg (by simp; omega)]
  simp
  rw [show n = r.length from hn.symm]
  simp [List.set_append]

/-- The copy of n elements of s cells each. -/
theorem run_copy_wide (w : World) (dT sT ty elem : TypeId) (b d n dCap : Nat) (x : Addr) (sCap s : Nat) (cs : List Value)
    (hu : P.underlying dT = some (.slice elem)) (hs : (P.info? elem).map (·.size) = some s) (hn : cs.length = n * s)
    (hsrc : ∀ j v, cs[j]? = some v → w.cell? (x.add j) = some v) (hc : w.there b d (n * s)) (h1 : ∀ v ∈ cs, v.oneCell' = true) :
    (Builtin.copy_ #[dT, sT] ty #[.slice (some ⟨b, d, none⟩) n dCap, .slice (some x) n sCap]).run P w = .ok (goInt n) (w.setCells b d cs) := by
  have hl := run_loadCells_list (P := P) w x cs hsrc
  have hst := run_storeCells_cells (P := P) b d cs 0 w (fun j hj => by simpa using (hc j (by omega)).1) (fun j hj => by simpa using (hc j (by omega)).2) h1
  cases hq : P.info? elem with
  | none => simp [hq] at hs
  | some i =>
    have hi : i.size = s := by simpa [hq] using hs
    simp [Builtin.copy_, run_underlying hu, Builtin.lenOf, Builtin.firstCells, sizeOf, typeInfo, hq, hi, ← hn, hl, hst]

theorem wpList_copy_big (hgd : o.guard = none) (d s : Operand) (dT sT : TypeId) (ho : o.op = .call { callee := .builtin .copy, args := #[d, s], argTypes := #[dT, sT] })
    (elem : TypeId) (b e n dCap : Nat) (x : Addr) (sCap sz : Nat) (cs : List Value) (hu : P.underlying dT = some (.slice elem)) (hs : (P.info? elem).map (·.size) = some sz)
    (hd : a.eval d = .slice (some ⟨b, e, none⟩) n dCap) (hx : a.eval s = .slice (some x) n sCap) (hn : cs.length = n * sz)
    (hsrc : ∀ j v, cs[j]? = some v → w.cell? (x.add j) = some v) (hc : w.there b e (n * sz)) (h1 : ∀ v ∈ cs, v.oneCell' = true)
    (h : wpList P ops Q rest (a.put o.dst (goInt n)) (w.setCells b e cs)) : wpList P ops Q (o :: rest) a w := by
  refine wpList_plain hgd fun K hK => ?_
  have hrun := run_copy_wide (P := P) w dT sT o.type elem b e n dCap x sCap sz cs hu hs hn hsrc hc h1
  unfold Oper.wp
  simp [execOp, ho, resolve, invoke, builtin, hd, hx, hrun, Result.andThen]
  exact hK _ _ h

theorem wpList_make_big (hgd : o.guard = none) (t : TypeId) (x y : Operand) (ho : o.op = .makeSlice t x y) (n : Nat) (hx : a.eval x = .int .i64 n) (hy : a.eval y = .int .i64 n)
    (e sz bytes : Nat) (z : Value) (ht : P.underlying t = some (.slice e)) (hi : (P.info? e).map (fun i => (i.zero, i.size, i.bytes)) = some (some z, sz, bytes)) (hb : bytes * n ≤ 281474976710656) (hn : n ≤ 281474976710656)
    (h : wpList P ops Q rest (a.put o.dst (.slice (some ⟨w.heap.size, 0, none⟩) n n)) (w.alloc (.cells (madeCells z.cells (n * sz)) e))) : wpList P ops Q (o :: rest) a w := by
  refine wpList_plain hgd fun K hK => ?_
  cases hq : P.info? e with
  | none => simp [hq] at hi
  | some i =>
    simp [hq] at hi
    obtain ⟨h1, h2, h3⟩ := hi
    have hb' : (i.bytes : Int) * (n : Int) ≤ 281474976710656 := by
      rw [h3, ← Int.natCast_mul]; exact Int.ofNat_le.2 hb
    have hrun := run_make (P := P) w t e i z ht hq h1 .i64 .i64 n n (by omega) (by omega) hb' (by omega)
    simp only [Int.toNat_natCast, h2] at hrun
    unfold Oper.wp execOp
    simp only [ho, hx, hy, Sem.run_bind, hrun, Result.andThen_ok]
    exact hK _ _ h

theorem src_mid {w : World} {b e : Nat} {cs : List Value} (h : w.rangeAt b e cs) : ∀ j v, cs[j]? = some v → w.cell? ((⟨b, e, none⟩ : Addr).add j) = some v := fun j v hv => by
  rw [Addr.add_mid]; exact h j v hv

theorem res_cell_tmp {fn : Func} {p q : Tmp} {ty : TypeId} (h : fn.results = #[.cell p ty, .tmp q]) (tmps : Array Value) (w : World) (g : Nat) (cs : List Value) (d : TypeDesc)
    (hp : tmps.getD p undef = .pointer (some ⟨g, 0, none⟩)) (hg : w.rangeAt g 0 cs) (hu : P.underlying ty = some d) (hd : d.isRow = true) (hi : (P.info? ty).map (·.size) = some cs.length) :
    (results fn tmps).run P w = .ok (.tuple #[.agg cs.toArray, tmps.getD q undef]) w := by
  have hp' : tmps[p]?.getD undef = .pointer (some ⟨g, 0, none⟩) := by simpa using hp
  simp [results, h, hp', asAddr, run_loadVar_mid w g 0 ty cs d hg hu hd hi]
theorem res_cell_mid {fn : Func} {p : Tmp} {ty : TypeId} (h : fn.results = #[.cell p ty]) (tmps : Array Value) (w : World) (g : Nat) (cs : List Value) (d : TypeDesc)
    (hp : tmps.getD p undef = .pointer (some ⟨g, 0, none⟩)) (hg : w.rangeAt g 0 cs) (hu : P.underlying ty = some d) (hd : d.isRow = true) (hi : (P.info? ty).map (·.size) = some cs.length) :
    (results fn tmps).run P w = .ok (.agg cs.toArray) w := by
  have hp' : tmps[p]?.getD undef = .pointer (some ⟨g, 0, none⟩) := by simpa using hp
  simp [results, h, hp', asAddr, run_loadVar_mid w g 0 ty cs d hg hu hd hi]

theorem below_setCells {B : Nat} {w0 : World} (b : Nat) (hb : B ≤ b) : ∀ (vs : List Value) (d : Nat) (w : World), Below B w0 w → Below B w0 (w.setCells b d vs)
  | [], _, _, h => h
  | v :: r, d, w, h => by
    rw [World.setCells]
    exact below_setCells b hb r (d + 1) _ (h.setCell (p := ⟨b, d, none⟩) hb v)
theorem size_setCells (b : Nat) : ∀ (vs : List Value) (d : Nat) (w : World), (w.setCells b d vs).heap.size = w.heap.size
  | [], _, _ => rfl
  | v :: r, d, w => by
    rw [World.setCells, size_setCells b r (d + 1), World.size_setCell]
theorem rangeAt_new (w : World) (cs : List Value) (T : TypeId) : (w.alloc (.cells cs.toArray T)).rangeAt w.heap.size 0 cs := fun j v hv => by
  rw [World.cell?_alloc_at _ _ _ _ rfl]; simpa using hv
theorem there_new (w : World) (cs : List Value) (T : TypeId) : (w.alloc (.cells cs.toArray T)).there w.heap.size 0 cs.length := fun j hj => by
  rw [World.cell?_alloc_at _ _ _ _ rfl]
  exact ⟨by simpa using hj, by simp⟩
theorem rangeAt_below {w w' : World} {B b d : Nat} {cs : List Value} (h : w.rangeAt b d cs) (hb : Below B w w') (hlt : b < B) : w'.rangeAt b d cs := fun j v hv => by
  rw [hb.cell (p := ⟨b, d + j, none⟩) hlt]; exact h j v hv
theorem there_below {w w' : World} {B b d n : Nat} (h : w.there b d n) (hb : Below B w w') (hlt : b < B) : w'.there b d n := fun j hj => by
  rw [hb.cell (p := ⟨b, d + j, none⟩) hlt, hb.frozen (p := ⟨b, d + j, none⟩) hlt]; exact h j hj
theorem rangeAt_sub {w : World} {b d : Nat} {cs : List Value} (h : w.rangeAt b d cs) (k n : Nat) : w.rangeAt b (d + k) ((cs.drop k).take n) := fun j v hv => by
  rw [Nat.add_assoc]
  refine h (k + j) v ?_
  rw [List.getElem?_take] at hv
  split at hv
  · rwa [List.getElem?_drop] at hv
  · cases hv
theorem there_sub {w : World} {b d n : Nat} (h : w.there b d n) (k m : Nat) (hk : k + m ≤ n) : w.there b (d + k) m := fun j hj => by
  rw [Nat.add_assoc]; exact h (k + j) (by omega)
end Go.Proofs.YtbiokmojjneleaaGreat.Big

/-
  All blocks of memory but some stand as they stood. Nothing here speaks of the program.
-/
namespace Go.Proofs.YtbiokmojjneleaaGreat.Kp
open Go.ChangeShapes Go.WideShapes Go.ChangeAt Go.RowKit
set_option linter.unusedVariables false
set_option linter.unusedSimpArgs false

/-- But for the blocks of L the world w' has what w had; the streams are as they were; no block has gone. -/
structure Kept (L : List Nat) (w w' : World) : Prop where
  os : w'.os = w.os
  tape : w'.tape = w.tape
  output : w'.output = w.output
  size : w.heap.size ≤ w'.heap.size
  block : ∀ k, k < w.heap.size → k ∉ L → w'.heap[k]? = w.heap[k]?
variable {L M : List Nat} {u v w w' : World}
theorem Kept.refl (L : List Nat) (w : World) : Kept L w w := ⟨rfl, rfl, rfl, Nat.le_refl _, fun _ _ _ => rfl⟩
theorem Kept.of (h : Below w.heap.size w w') : Kept L w w' := ⟨h.os, h.tape, h.output, h.size, fun k hk _ => h.block k hk⟩
theorem Kept.trans (h : Kept L u v) (g : Kept L v w) : Kept L u w :=
  ⟨g.os.trans h.os, g.tape.trans h.tape, g.output.trans h.output, Nat.le_trans h.size g.size, fun k hk hn => (g.block k (Nat.lt_of_lt_of_le hk h.size) hn).trans (h.block k hk hn)⟩
/-- New blocks need not be named. -/
theorem Kept.less (h : Kept L w w') (hs : ∀ x ∈ L, x ∈ M ∨ w.heap.size ≤ x) : Kept M w w' :=
  ⟨h.os, h.tape, h.output, h.size, fun k hk hn => h.block k hk (fun hm => (hs k hm).elim hn (fun hg => by omega))⟩
theorem Kept.sub (h : Kept L w w') (hs : ∀ x ∈ L, x ∈ M) : Kept M w w' := h.less fun x hx => .inl (hs x hx)
/-- A step behind others that turned new blocks besides. -/
theorem Kept.then (h : Kept L u v) (g : Kept M v w) (hs : ∀ x ∈ M, x ∈ L ∨ u.heap.size ≤ x) : Kept L u w :=
  ⟨g.os.trans h.os, g.tape.trans h.tape, g.output.trans h.output, Nat.le_trans h.size g.size, fun k hk hn => (g.block k (Nat.lt_of_lt_of_le hk h.size) (fun hm => (hs k hm).elim hn (fun hg => by omega))).trans (h.block k hk hn)⟩
theorem Kept.below (h : Kept L w w') {B : Nat} (hL : ∀ x ∈ L, B ≤ x) (hB : B ≤ w.heap.size) : Below B w w' :=
  ⟨h.os, h.tape, h.output, h.size, fun k hk => h.block k (by omega) (fun hm => by have := hL k hm; omega)⟩
theorem Kept.all (h : Kept L w w') (hL : ∀ x ∈ L, w.heap.size ≤ x) : Below w.heap.size w w' := h.below hL (Nat.le_refl _)
theorem Kept.drew (h : Kept L u w) : Kept L u w.drew := ⟨h.os, h.tape, h.output, h.size, h.block⟩
theorem Kept.alloc (h : Kept L u w) (o : Obj) : Kept L u (w.alloc o) := h.trans (.of ((Below.refl _ _).alloc (Nat.le_refl _) o))
theorem Kept.setCell (h : Kept L u w) {p : Addr} (hp : p.block ∈ L ∨ u.heap.size ≤ p.block) (x : Value) : Kept L u (w.setCell p x) :=
  h.then (M := [p.block]) ⟨rfl, rfl, rfl, by simp [World.setCell], fun k hk hn => Below.heap_setCell _ _ _ _ (by simpa using hn)⟩ (fun y hy => by simp at hy; subst hy; exact hp)
theorem Kept.setCells (h : Kept L u w) {b : Nat} (hp : b ∈ L ∨ u.heap.size ≤ b) (o : Nat) (vs : List Value) : Kept L u (w.setCells b o vs) := by
  induction vs generalizing w o with
  | nil => exact h
  | cons x r ih => exact ih (h.setCell (p := ⟨b, o, none⟩) hp x) (o + 1)
theorem Kept.grown {row : Option Nat} (h : Kept L u w) (hg : w.grownBy w' row) (hr : ∀ k, row = some k → k ∈ L ∨ u.heap.size ≤ k) : Kept L u w' :=
  h.then (M := row.toList) ⟨hg.os, hg.tape, hg.output, hg.size, fun k hk hn => hg.block k hk (fun e => hn (by rw [← e]; simp))⟩ (fun y hy => hr y (by cases row <;> simp_all))
theorem Kept.cell (h : Kept L w w') {b : Nat} (o : Nat) (hb : b < w.heap.size) (hn : b ∉ L) : w'.cell? ⟨b, o, none⟩ = w.cell? ⟨b, o, none⟩ := World.cell?_of_block (w := w) (h.block b hb hn)
theorem Kept.frozen (h : Kept L w w') {b : Nat} (o : Nat) (hb : b < w.heap.size) (hn : b ∉ L) : w'.frozen? ⟨b, o, none⟩ = w.frozen? ⟨b, o, none⟩ := World.frozen?_of_block (w := w) (h.block b hb hn)
theorem Kept.range (h : Kept L w w') {b o : Nat} {cs : List Value} (hr : w.rangeAt b o cs) (hb : b < w.heap.size) (hn : b ∉ L) : w'.rangeAt b o cs := fun j x hx => by rw [h.cell _ hb hn]; exact hr j x hx
theorem Kept.there (h : Kept L w w') {b o n : Nat} (hr : w.there b o n) (hb : b < w.heap.size) (hn : b ∉ L) : w'.there b o n := fun j hj => by rw [h.cell _ hb hn, h.frozen _ hb hn]; exact hr j hj
theorem Kept.row (h : Kept L w w') {base : Nat} {e : TypeId} {size n : Nat} {x : Value} {xs : List Value} (hr : w.ownsRow base e size x n xs) (hn : ∀ b, x.ownBlock = some b → b ∉ L) : w'.ownsRow base e size x n xs := by
  obtain ⟨h1, h2⟩ := hr
  refine ⟨h1, ?_⟩
  rcases h2 with h2 | ⟨g, cap, cur, rfl, hg, hh, r⟩
  · exact .inl h2
  · have hlt : g < w.heap.size := by
      by_cases hb : g < w.heap.size
      · exact hb
      · have : w.heap[g]? = none := by simp; omega
        rw [this] at hh; cases hh
    exact .inr ⟨g, cap, cur, rfl, hg, by rw [h.block g hlt (hn g rfl)]; exact hh, r⟩
end Go.Proofs.YtbiokmojjneleaaGreat.Kp

/-
  Pages and blocks as plain lists; what ok blocks are; where they lie in memory. Nothing here walks the program.
-/
namespace Go.Proofs.YtbiokmojjneleaaGreat.Fl
open Go.ChangeShapes Go.WideShapes Go.ChangeAt Go.RowKit OkA Big
set_option linter.unusedVariables false
set_option linter.unusedSimpArgs false

/-- A page: its state and its record. -/
structure Pg where
  st : Int
  k : Int
  s : Int
  a : Int
  v : Int
/-- A block: its pages, how often it was wiped. -/
structure Bk where
  ps : List Pg
  wn : Int

def pgC (p : Pg) : List Value := [.int .i64 p.st, .int .i64 p.k, .int .i64 p.s, .int .i64 p.a, .int .i64 p.v]
def psC (ps : List Pg) : List Value := ps.flatMap pgC
def bkC (b : Bk) : List Value := psC b.ps ++ [.int .i64 b.wn]
def fsC (bs : List Bk) : List Value := bs.flatMap bkC

theorem len_pgC (p : Pg) : (pgC p).length = 5 := rfl
theorem len_psC (ps : List Pg) : (psC ps).length = ps.length * 5 := by
  unfold psC; induction ps with
  | nil => rfl
  | cons p r ih => simp only [List.flatMap_cons, List.length_append, ih, len_pgC, List.length_cons]; omega
theorem len_bkC (b : Bk) (h : b.ps.length = 4) : (bkC b).length = 21 := by simp [bkC, len_psC, h]
/-- Four pages in each. -/
def Fours (bs : List Bk) : Prop := ∀ b ∈ bs, b.ps.length = 4
theorem Fours.tail {b : Bk} {bs : List Bk} (h : Fours (b :: bs)) : Fours bs := fun x hx => h x (by simp [hx])
theorem Fours.at {bs : List Bk} (h : Fours bs) (i : Nat) (hi : i < bs.length) : bs[i].ps.length = 4 := h _ (List.getElem_mem hi)
theorem len_fsC (bs : List Bk) (h : Fours bs) : (fsC bs).length = bs.length * 21 := by
  unfold fsC; induction bs with
  | nil => rfl
  | cons p r ih => simp only [List.flatMap_cons, List.length_append, ih h.tail, len_bkC p (h p (by simp)), List.length_cons]; omega

/-- A part out of parts of one length. -/
theorem part_of {α : Type} (f : α → List Value) (n : Nat) : ∀ (l : List α), (∀ x ∈ l, (f x).length = n) → ∀ (i : Nat) (hi : i < l.length), ((l.flatMap f).drop (i * n)).take n = f l[i]
  | [], _, i, hi => by simp at hi
  | x :: r, h, 0, _ => by
    have := h x (by simp)
    simp [this.symm]
  | x :: r, h, i + 1, hi => by
    have hx := h x (by simp)
    have ih := part_of f n r (fun y hy => h y (by simp [hy])) i (by simpa using hi)
    simp only [List.flatMap_cons, List.getElem_cons_succ]
    rw [← ih, Nat.add_mul, Nat.one_mul, Nat.add_comm (i * n) n, ← hx, List.drop_append, List.drop_eq_nil_of_le (by omega), Nat.add_sub_cancel_left, List.nil_append]
theorem part_ps (ps : List Pg) (i : Nat) (hi : i < ps.length) : ((psC ps).drop (i * 5)).take 5 = pgC ps[i] := part_of pgC 5 ps (fun _ _ => rfl) i hi
theorem part_fs (bs : List Bk) (h : Fours bs) (i : Nat) (hi : i < bs.length) : ((fsC bs).drop (i * 21)).take 21 = bkC bs[i] := part_of bkC 21 bs (fun b hb => len_bkC b (h b hb)) i hi
theorem extract_of (cs : List Value) (o n : Nat) (d : List Value) (h : (cs.drop o).take n = d) : cs.toArray.extract o (o + n) = d.toArray := by
  apply Array.ext'
  simp [← h]
theorem one_pgC (p : Pg) : ∀ v ∈ pgC p, v.oneCell' = true := by intro v hv; simp [pgC] at hv; rcases hv with rfl | rfl | rfl | rfl | rfl <;> rfl
theorem one_psC (ps : List Pg) : ∀ v ∈ psC ps, v.oneCell' = true := by
  intro v hv
  simp only [psC, List.mem_flatMap] at hv
  obtain ⟨p, _, h⟩ := hv
  exact one_pgC p v h
theorem one_bkC (b : Bk) : ∀ v ∈ bkC b, v.oneCell' = true := by
  intro v hv
  simp only [bkC, List.mem_append, List.mem_singleton] at hv
  rcases hv with h | rfl
  · exact one_psC _ v h
  · rfl
theorem one_fsC (bs : List Bk) : ∀ v ∈ fsC bs, v.oneCell' = true := by
  intro v hv
  simp only [fsC, List.mem_flatMap] at hv
  obtain ⟨p, _, h⟩ := hv
  exact one_bkC p v h

/-! What ok blocks are. -/
def clB (p : Pg) : Bool := p.st == 0
def wrB (p : Pg) : Bool := p.st == 1
def noB (p : Pg) : Bool := p.k == 0 && p.s == 0 && p.a == 0 && p.v == 0
def pgB (p : Pg) : Bool := if p.st = 1 then recB p.k p.s p.a p.v else if p.st = 0 then noB p else if p.st = 2 then noB p else false
/-- How many pages there are ahead of the clean ones at the end. -/
def usedN : List Pg → Nat
  | [] => 0
  | p :: r => if usedN r = 0 then (if clB p then 0 else 1) else usedN r + 1
/-- The clean ones stand behind all others. -/
def tailB : List Pg → Bool
  | [] => true
  | p :: r => (!clB p || r.all clB) && tailB r
def seqP (p : Pg) : Option Int := if p.st = 1 then some p.s else none
def seqsP (ps : List Pg) : List Int := ps.filterMap seqP
def seqs (bs : List Bk) : List Int := bs.flatMap fun b => seqsP b.ps
def nodB : List Int → Bool
  | [] => true
  | x :: r => !r.contains x && nodB r
def bkB (b : Bk) : Bool := b.ps.length == 4 && inB b.wn 0 200 && b.ps.all pgB && tailB b.ps
def okB (bs : List Bk) : Bool := bs.length == 4 && bs.all bkB && nodB (seqs bs)

theorem usedN_le (ps : List Pg) : usedN ps ≤ ps.length := by
  induction ps with
  | nil => simp [usedN]
  | cons p r ih =>
    simp only [usedN, List.length_cons]
    split
    · split <;> omega
    · omega
theorem usedN_zero (ps : List Pg) : usedN ps = 0 ↔ ps.all clB = true := by
  induction ps with
  | nil => simp [usedN]
  | cons p r ih =>
    simp only [usedN, List.all_cons, Bool.and_eq_true]
    by_cases h : usedN r = 0
    · rw [if_pos h]
      cases hc : clB p
      · simp
      · simp [ih.1 h]
    · rw [if_neg h]
      constructor
      · omega
      · rintro ⟨_, h2⟩; exact absurd (ih.2 h2) h
/-- What stands from the number on is clean; what stands just ahead is not. -/
theorem usedN_eq (ps : List Pg) (k : Nat) (hk : k ≤ ps.length) (h1 : ∀ j (hj : j < ps.length), k ≤ j → clB ps[j] = true) (h2 : 0 < k → ∀ hj : k - 1 < ps.length, clB ps[k - 1] = false) : usedN ps = k := by
  induction ps generalizing k with
  | nil => simp at hk; subst hk; rfl
  | cons p r ih =>
    cases k with
    | zero =>
      rw [usedN_zero]
      rw [List.all_eq_true]
      intro x hx
      obtain ⟨j, hj, rfl⟩ := List.getElem_of_mem hx
      exact h1 j hj (by omega)
    | succ k =>
      simp only [List.length_cons] at hk
      have ih' := ih k (by omega) (fun j hj hkj => by have := h1 (j + 1) (by simpa using hj) (by omega); simpa using this) (fun h0 hj => by
        have := h2 (by omega) (by simp; omega)
        obtain ⟨m, rfl⟩ : ∃ m, k = m + 1 := ⟨k - 1, by omega⟩
        simpa using this)
      simp only [usedN, ih']
      by_cases h : k = 0
      · subst h
        have := h2 (by omega) (by simp)
        simp at this
        simp [this]
      · rw [if_neg h]
theorem tailB_iff (ps : List Pg) : tailB ps = true ↔ ∀ i (hi : i < ps.length), i < usedN ps → clB ps[i] = false := by
  induction ps with
  | nil => simp [tailB]
  | cons p r ih =>
    simp only [tailB, Bool.and_eq_true, Bool.or_eq_true, Bool.not_eq_true']
    constructor
    · rintro ⟨h1, h2⟩ i hi hu
      cases i with
      | zero =>
        simp only [List.getElem_cons_zero]
        rcases h1 with h1 | h1
        · exact h1
        · have := (usedN_zero r).2 h1
          simp only [usedN, this, if_true] at hu
          cases hc : clB p
          · rfl
          · simp [hc] at hu
      | succ i =>
        simp only [List.getElem_cons_succ]
        refine ih.1 h2 i (by simpa using hi) ?_
        simp only [usedN] at hu
        split at hu
        · split at hu <;> omega
        · omega
    · intro h
      refine ⟨?_, ih.2 fun i hi hu => ?_⟩
      · by_cases h0 : usedN r = 0
        · exact .inr ((usedN_zero r).1 h0)
        · have := h 0 (by simp) (by simp only [usedN]; rw [if_neg h0]; omega)
          exact .inl (by simpa using this)
      · have := h (i + 1) (by simpa using hi) (by simp only [usedN]; rw [if_neg (by omega)]; omega)
        simpa using this
theorem nodB_iff (l : List Int) : nodB l = true ↔ l.Nodup := by
  induction l with
  | nil => simp [nodB]
  | cons x r ih => simp [nodB, ih]

/-! Where they lie. -/
/-- The cells of a list of pages, from a place on. -/
def PsAt (w : World) (a : Option Addr) (ps : List Pg) : Prop := ps = [] ∨ ∃ b o, a = some ⟨b, o, none⟩ ∧ w.rangeAt b o (psC ps)
def BkAt (w : World) (b o : Nat) (x : Bk) : Prop := ∃ a cap, w.cell? ⟨b, o, none⟩ = some (.slice a x.ps.length cap) ∧ w.cell? ⟨b, o + 1, none⟩ = some (.int .i64 x.wn) ∧ PsAt w a x.ps
def FsAt (w : World) (a : Option Addr) (bs : List Bk) : Prop := bs = [] ∨ ∃ b o, a = some ⟨b, o, none⟩ ∧ ∀ i (hi : i < bs.length), BkAt w b (o + i * 2) bs[i]

theorem cell_lt {w : World} {b o : Nat} {v : Value} (h : w.cell? ⟨b, o, none⟩ = some v) : b < w.heap.size := by
  by_cases hb : b < w.heap.size
  · exact hb
  · exfalso
    have : w.heap[b]? = none := by simp; omega
    simp [World.cell?, this] at h
theorem PsAt.below {w w' : World} {a : Option Addr} {ps : List Pg} (h : PsAt w a ps) (hb : Below w.heap.size w w') : PsAt w' a ps := by
  rcases h with h | ⟨b, o, rfl, h⟩
  · exact .inl h
  · cases ps with
    | nil => exact .inl rfl
    | cons p r =>
      have : b < w.heap.size := cell_lt (h 0 (.int .i64 p.st) rfl)
      exact .inr ⟨b, o, rfl, rangeAt_below h hb this⟩
theorem BkAt.below {w w' : World} {b o : Nat} {x : Bk} (h : BkAt w b o x) (hb : Below w.heap.size w w') : BkAt w' b o x := by
  obtain ⟨a, cap, h0, h1, h2⟩ := h
  have hlt := cell_lt h0
  exact ⟨a, cap, by rw [hb.cell (p := ⟨b, o, none⟩) hlt]; exact h0, by rw [hb.cell (p := ⟨b, o + 1, none⟩) hlt]; exact h1, h2.below hb⟩
theorem FsAt.below {w w' : World} {a : Option Addr} {bs : List Bk} (h : FsAt w a bs) (hb : Below w.heap.size w w') : FsAt w' a bs := by
  rcases h with h | ⟨b, o, rfl, h⟩
  · exact .inl h
  · exact .inr ⟨b, o, rfl, fun i hi => (h i hi).below hb⟩
/-- The five cells of a page, as the walk reckons their places. -/
theorem PsAt.cells {w : World} {b o : Nat} {ps : List Pg} (h : w.rangeAt b o (psC ps)) (i : Nat) (hi : i < ps.length) :
    w.cell? ⟨b, o + i * 5, none⟩ = some (.int .i64 ps[i].st) ∧ w.cell? ⟨b, o + i * 5 + 1, none⟩ = some (.int .i64 ps[i].k) ∧ w.cell? ⟨b, o + i * 5 + 2, none⟩ = some (.int .i64 ps[i].s) ∧ w.cell? ⟨b, o + i * 5 + 3, none⟩ = some (.int .i64 ps[i].a) ∧ w.cell? ⟨b, o + i * 5 + 4, none⟩ = some (.int .i64 ps[i].v) := by
  have := rangeAt_sub h (i * 5) 5
  rw [part_ps ps i hi] at this
  exact ⟨this 0 _ rfl, this 1 _ rfl, this 2 _ rfl, this 3 _ rfl, this 4 _ rfl⟩
end Go.Proofs.YtbiokmojjneleaaGreat.Fl

/-
  The program's functions on one block, for every block of four pages: how many pages are written or torn ahead of the clean ones; whether a page is ok; whether the block is.
-/
namespace Go.Proofs.YtbiokmojjneleaaGreat.ImplB
open Go.ChangeShapes Go.WideShapes Go.ChangeAt Go.RowKit OkA Big Fl
set_option linter.unusedVariables false
set_option linter.unusedSimpArgs false

theorem range_bk {w : World} {b d : Nat} {x : Bk} (h : w.rangeAt b d (bkC x)) : w.rangeAt b d (psC x.ps) := fun j v hv => h j v (by
  unfold bkC; rw [List.getElem?_append_left (by exact (List.getElem?_eq_some_iff.1 hv).1)]; exact hv)
theorem worn_bk {w : World} {b d : Nat} {x : Bk} (h4 : x.ps.length = 4) (h : w.rangeAt b d (bkC x)) : w.cell? ⟨b, d + 20, none⟩ = some (.int .i64 x.wn) := h 20 _ (by
  unfold bkC; rw [List.getElem?_append_right (by rw [len_psC, h4]; exact Nat.le_refl _)]; simp [len_psC, h4])

set_option maxHeartbeats 400000 in
theorem used_any (b : Bk) (h4 : b.ps.length = 4) (w : World) :
    Calls Tryz.prog 149 #[.agg (bkC b).toArray] w fun e w' => e = .returned (.int .i64 (usedN b.ps)) ∧ Below w.heap.size w w' := by
  have hc : ∀ i, (hi : i < 4) → (w.alloc (.cells (bkC b).toArray 71)).cell? ⟨w.heap.size, i * 5, none⟩ = some (.int .i64 (b.ps[i]'(by omega)).st) := fun i hi => by
    have h1 := (PsAt.cells (range_bk (rangeAt_new w (bkC b) 71)) i (by omega)).1
    simpa using h1
  have HC := hide hc
  clear hc
  go_enter Tryz.func149, Tryz.ntmps149
  go_wp2_with (first | (refine wpList_box_big rfl _ _ rfl (bkC b).toArray rfl ?_))
  go_loop [3] (fun u => ∃ k : Nat, k ≤ 4 ∧ u = .int .i64 k ∧ Hid (∀ j (hj : j < b.ps.length), k ≤ j → clB b.ps[j] = true)) (fun u => (intOf u).toNat)
  case atStart => exact ⟨4, by omega, rfl, fun j hj h => by omega⟩
  case round =>
    obtain ⟨k, hk, rfl, hcl⟩ := hrel
    by_cases h0 : k = 0
    · subst h0
      go_wp2
      go_ret
      rw [usedN_eq b.ps 0 (by omega) hcl.out (by omega)]
      exact ⟨rfl, (Below.refl _ _).alloc (Nat.le_refl _) _⟩
    · obtain ⟨m, rfl⟩ : ∃ m, k = m + 1 := ⟨k - 1, by omega⟩
      have hp : (0 : Int) < ((m + 1 : Nat) : Int) := by omega
      have hcm := unhide HC m (by omega)
      have e1 : ((m + 1 : Nat) : Int) - 1 = (m : Int) := by omega
      cases hq : clB (b.ps[m]'(by omega))
      · have hq' : ((b.ps[m]'(by omega)).st == 0) = false := hq
        have HQ := hide hq
        clear hq
        go_wp2
        go_ret
        rw [usedN_eq b.ps (m + 1) (by omega) hcl.out (fun _ _ => by simpa using unhide HQ)]
        exact ⟨rfl, (Below.refl _ _).alloc (Nat.le_refl _) _⟩
      · have hq' : ((b.ps[m]'(by omega)).st == 0) = true := hq
        have HQ := hide hq
        clear hq
        go_wp2
        go_round
        case rel =>
          refine ⟨m, by omega, rfl, fun j hj h => ?_⟩
          by_cases e : j = m
          · subst e; exact unhide HQ
          · exact hcl.out j hj (by omega)
        case measure => simp [intOf]

theorem noB_eq (p : Pg) : noB p = (p.k == 0 && p.s == 0 && p.a == 0 && p.v == 0) := rfl

set_option maxHeartbeats 400000 in
theorem pageOk_any (p : Pg) (w : World) :
    Calls Tryz.prog 150 #[.agg #[.int .i64 p.st, .int .i64 p.k, .int .i64 p.s, .int .i64 p.a, .int .i64 p.v]] w fun e w' => e = .returned (.bool (pgB p)) ∧ Below w.heap.size w w' := by
  obtain ⟨st, k, s, x, v⟩ := p
  by_cases h1 : st = 1
  · subst h1
    go_enter Tryz.func150, Tryz.ntmps150
    go_wp2_with fail
    refine (recOk_any _ _ _ _ _).mono ?_
    rintro e w1 ⟨rfl, b1⟩
    go_wp2
    go_ret
    exact ⟨rfl, ((Below.refl _ _).alloc (Nat.le_refl _) _).trans (b1.mono (by simp))⟩
  by_cases h0 : st = 0
  · subst h0
    go_enter Tryz.func150, Tryz.ntmps150
    go_wp2
    all_goals
      go_ret
      refine ⟨?_, (Below.refl _ _).alloc (Nat.le_refl _) _⟩
      simp [pgB, noB, *]
  by_cases h2 : st = 2
  · subst h2
    go_enter Tryz.func150, Tryz.ntmps150
    go_wp2
    all_goals
      go_ret
      refine ⟨?_, (Below.refl _ _).alloc (Nat.le_refl _) _⟩
      simp [pgB, noB, *]
  · have hb : pgB ⟨st, k, s, x, v⟩ = false := by simp [pgB, h0, h1, h2]
    rw [hb]
    clear hb
    have g1 : (st == 1) = false := by simpa using h1
    have g0 : (st == 0) = false := by simpa using h0
    have g2 : (st == 2) = false := by simpa using h2
    clear h0 h1 h2
    go_enter Tryz.func150, Tryz.ntmps150
    go_wp2
    go_ret
    exact ⟨rfl, (Below.refl _ _).alloc (Nat.le_refl _) _⟩
theorem bkB_good (b : Bk) (h4 : b.ps.length = 4) (h : ∀ j (hj : j < b.ps.length), pgB b.ps[j] = true ∧ (j < usedN b.ps → clB b.ps[j] = false)) : bkB b = inB b.wn 0 200 := by
  have h1 : b.ps.all pgB = true := List.all_eq_true.2 fun x hx => by
    obtain ⟨j, hj, rfl⟩ := List.getElem_of_mem hx
    exact (h j hj).1
  have h2 : tailB b.ps = true := (tailB_iff _).2 fun i hi => (h i hi).2
  simp [bkB, h4, h1, h2]
theorem bkB_bad (b : Bk) (j : Nat) (hj : j < b.ps.length) (h : pgB b.ps[j] = false ∨ (j < usedN b.ps ∧ clB b.ps[j] = true)) : bkB b = false := by
  cases hb : bkB b
  · rfl
  · simp only [bkB, Bool.and_eq_true, List.all_eq_true, tailB_iff] at hb
    rcases h with h | ⟨h, g⟩
    · rw [hb.1.2 _ (List.getElem_mem hj)] at h; cases h
    · rw [hb.2 j hj h] at g; cases g

set_option maxHeartbeats 1000000 in
theorem blockOk_any (b : Bk) (h4 : b.ps.length = 4) (w : World) :
    Calls Tryz.prog 130 #[.agg (bkC b).toArray] w fun e w' => e = .returned (.bool (bkB b)) ∧ Below w.heap.size w w' := by
  have r0 := rangeAt_new w (bkC b) 71
  have hu := usedN_le b.ps
  go_enter Tryz.func130, Tryz.ntmps130
  go_wp2_with (first | (refine wpList_box_big rfl _ _ rfl (bkC b).toArray rfl ?_) | (refine wpList_load_mid rfl 71 _ rfl w.heap.size 0 rfl (bkC b) _ r0 Tryz.underlying71 rfl (by rw [len_bkC b h4]; kernel_rfl) ?_))
  refine (used_any b h4 _).mono ?_
  rintro e w1 ⟨rfl, b1⟩
  have r1 := rangeAt_below r0 b1 (by simp)
  have r2 := range_bk r1
  have c20 := worn_bk h4 r1
  have B1 : Below w.heap.size w w1 := ((Below.refl _ _).alloc (Nat.le_refl _) _).trans (b1.mono (by simp))
  have s1 : w.heap.size < w1.heap.size := by have := b1.size; simp at this; omega
  simp only [Nat.zero_add] at c20
  clear r0 b1
  go_wp2_with (first | (refine wpList_load_mid rfl 67 _ rfl w.heap.size 0 rfl (psC b.ps) _ r2 Tryz.underlying67 rfl (by rw [len_psC, h4]; kernel_rfl) ?_))
  go_loopw [11] (fun i w' => ∃ k : Nat, k ≤ 4 ∧ i = .int .i64 k ∧ Hid (∀ j (hj : j < b.ps.length), j < k → pgB b.ps[j] = true ∧ (j < usedN b.ps → clB b.ps[j] = false)) ∧ Below w1.heap.size w1 w') (fun i _ => 4 - (intOf i).toNat)
  case atStart => exact ⟨0, by omega, rfl, fun j hj h => by omega, Below.refl _ _⟩
  case round =>
    obtain ⟨k, hk, rfl, hg, bw⟩ := hrel
    have hsz := bw.size
    by_cases h0 : k = 4
    · subst h0
      have c20' := c20
      rw [← bw.cell (p := ⟨w.heap.size, 20, none⟩) s1] at c20'
      clear r1 r2 c20
      have HG := hide (bkB_good b h4 (fun j hj => hg.out j hj (by omega)))
      go_wp2_with (go_at_call 67; refine (within_any _ _ _ _).mono ?_; rintro e w' ⟨rfl, rfl⟩)
      go_ret
      exact ⟨by rw [unhide HG]; rfl, B1.trans (bw.mono (by omega))⟩
    · have hlt : (k : Int) < 4 := by omega
      have hk5 : k < b.ps.length := by omega
      have hex : (psC b.ps).toArray.extract ((k : Int).toNat * 5) ((k : Int).toNat * 5 + 5) = #[.int .i64 (b.ps[k]).st, .int .i64 (b.ps[k]).k, .int .i64 (b.ps[k]).s, .int .i64 (b.ps[k]).a, .int .i64 (b.ps[k]).v] := by
        simp only [Int.toNat_natCast]
        exact extract_of _ _ _ _ (part_ps b.ps k hk5)
      have hp := pageOk_any b.ps[k]
      have hlo : (0 : Int) ≤ (k : Int) := by omega
      have HE := hide hex
      have HP := hide hp
      have HB := hide (bkB_bad b k hk5)
      have hst : clB b.ps[k] = (b.ps[k].st == 0) := rfl
      have HS := hide hst
      clear hex hp hst r1 r2 c20
      generalize hpk : b.ps[k] = p at *
      have HPK := hide hpk
      clear hpk
      go_wp2_with (first | (refine wpList_index_big rfl 67 _ _ rfl (psC b.ps).toArray _ (k : Int) rfl rfl 66 4 5 _ Tryz.underlying67 Tryz.underlying66 rfl (by kernel_rfl) hlo hlt (unhide HE) ?_))
      refine (unhide HP _).mono ?_
      rintro e w2 ⟨rfl, b2⟩
      have c0 : w2.cell? ⟨wr.heap.size, 0, none⟩ = some (.int .i64 p.st) := by rw [b2.cell (p := ⟨wr.heap.size, 0, none⟩) (by simp)]; simp
      have B2 : Below w1.heap.size w1 w2 := bw.trans (((Below.refl _ _).alloc hsz _).trans (b2.mono (by simp; omega)))
      cases hpg : pgB p
      · have HB' := hide ((unhide HB) (.inl hpg))
        clear b2
        go_wp2
        go_ret
        exact ⟨by rw [unhide HB']; rfl, B1.trans (B2.mono (by omega))⟩
      · by_cases hlu : k < usedN b.ps
        · have hlu' : (k : Int) < (usedN b.ps : Int) := by omega
          cases hcl : clB p
          · have hcl' : (p.st == 0) = false := (unhide HS).symm.trans hcl
            have HCL := hide hcl
            have HPG := hide hpg
            clear b2 hcl hpg
            go_wp2
            go_roundw
            case rel =>
              refine ⟨k + 1, by omega, by first | rfl | go_num, fun j hj h => ?_, B2⟩
              by_cases e : j = k
              · subst e; rw [unhide HPK]; exact ⟨unhide HPG, fun _ => unhide HCL⟩
              · exact hg.out j hj (by omega)
            case measure => simp [intOf]; omega
          · have hcl' : (p.st == 0) = true := (unhide HS).symm.trans hcl
            have HB' := hide ((unhide HB) (.inr ⟨hlu, hcl⟩))
            clear b2 hcl hpg
            go_wp2
            go_ret
            exact ⟨by rw [unhide HB']; rfl, B1.trans (B2.mono (by omega))⟩
        · have hlu' : ¬ (k : Int) < (usedN b.ps : Int) := by omega
          have HPG := hide hpg
          clear b2 hpg
          go_wp2
          go_roundw
          case rel =>
            refine ⟨k + 1, by omega, by first | rfl | go_num, fun j hj h => ?_, B2⟩
            by_cases e : j = k
            · subst e; rw [unhide HPK]; exact ⟨unhide HPG, fun h => absurd h hlu⟩
            · exact hg.out j hj (by omega)
          case measure => simp [intOf]; omega
end Go.Proofs.YtbiokmojjneleaaGreat.ImplB
