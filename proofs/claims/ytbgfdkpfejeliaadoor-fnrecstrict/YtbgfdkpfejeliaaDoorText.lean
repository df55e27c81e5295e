/-
  The contracts of the texts of records, the program's and the specification's: both are the word, and the three numbers in decimals, a blank between, of a record that is ok, and empty of any other.
-/
import Derived.Test.YtbgfdkpfejeliaaDoorOkA
import Derived.Test.YtbgfdkpfejeliaaDoorDec
import Derived.Test.YtbgfdkpfejeliaaDoorShelf
import Derived.Lib.LaidTab
import Derived.WalkSmall
namespace Go.Proofs.YtbgfdkpfejeliaaDoor.RText
open Go.ChangeShapes Go.WideShapes Go.ChangeAt Go.RowKit OkA Dec
set_option linter.unusedVariables false

def wordB (k : Int) : ByteArray := if k = 1 then ⟨#[100, 105, 114, 116, 121]⟩ else ⟨#[99, 108, 101, 97, 110]⟩
def textB (k s a v : Int) : ByteArray := wordB k ++ ⟨#[32]⟩ ++ decS s ++ ⟨#[32]⟩ ++ decS a ++ ⟨#[32]⟩ ++ decS v
theorem add_ok {x y : ByteArray} (hx : x.size ≤ 100) (hy : y.size ≤ 100) : ∀ w : World, (Op.stringOp .add x y).run Tryd.prog w = .ok (.string (x ++ y)) w := fun w => run_string_add_sum w x y (by omega)
theorem word_size (k : Int) : (wordB k).size = 5 := by unfold wordB; split <;> rfl
/-- The five sums of the text, in the walk's words. -/
theorem adds (x : ByteArray) (s a v : Int) (hx : x.size = 5) (z1 : (decS s).size ≤ 6) (z2 : (decS a).size ≤ 6) (z3 : (decS v).size ≤ 6) :
    (∀ w : World, (Op.stringOp .add (x ++ ⟨#[32]⟩) (decS s)).run Tryd.prog w = .ok (.string (x ++ ⟨#[32]⟩ ++ decS s)) w) ∧
    (∀ w : World, (Op.stringOp .add (x ++ ⟨#[32]⟩ ++ decS s) ⟨#[32]⟩).run Tryd.prog w = .ok (.string (x ++ ⟨#[32]⟩ ++ decS s ++ ⟨#[32]⟩)) w) ∧
    (∀ w : World, (Op.stringOp .add (x ++ ⟨#[32]⟩ ++ decS s ++ ⟨#[32]⟩) (decS a)).run Tryd.prog w = .ok (.string (x ++ ⟨#[32]⟩ ++ decS s ++ ⟨#[32]⟩ ++ decS a)) w) ∧
    (∀ w : World, (Op.stringOp .add (x ++ ⟨#[32]⟩ ++ decS s ++ ⟨#[32]⟩ ++ decS a) ⟨#[32]⟩).run Tryd.prog w = .ok (.string (x ++ ⟨#[32]⟩ ++ decS s ++ ⟨#[32]⟩ ++ decS a ++ ⟨#[32]⟩)) w) ∧
    (∀ w : World, (Op.stringOp .add (x ++ ⟨#[32]⟩ ++ decS s ++ ⟨#[32]⟩ ++ decS a ++ ⟨#[32]⟩) (decS v)).run Tryd.prog w = .ok (.string (x ++ ⟨#[32]⟩ ++ decS s ++ ⟨#[32]⟩ ++ decS a ++ ⟨#[32]⟩ ++ decS v)) w) := by
  have h1 : (⟨#[32]⟩ : ByteArray).size = 1 := rfl
  refine ⟨add_ok ?_ ?_, add_ok ?_ ?_, add_ok ?_ ?_, add_ok ?_ ?_, add_ok ?_ ?_⟩ <;> (try simp only [ByteArray.size_append, hx, h1]) <;> omega

theorem gTab : Tryd.prog.globalNamed "internal/strconv.uint64pow10" = some 0 := by kernel_rfl

theorem itoa_any (n : Int) (W0 w : World) (h0 : 0 ≤ n) (h1 : n ≤ 100000) (hg : 0 < W0.heap.size) (hT : Lib.TabIs Tryd.prog W0 "internal/strconv.uint64pow10" .u64 Lib.pow10Tab) (hb : Below W0.heap.size W0 w) :
    Calls Tryd.prog 24 #[.int .i64 n] w fun e w' => e = .returned (.string (decS n)) ∧ Below w.heap.size w w' := by
  refine (Tryd.strconv_Itoa n (by omega) (by omega) w (var?_below hb gTab hg hT)).mono ?_
  rintro e w' ⟨rfl, k, os, rfl⟩
  refine ⟨?_, ?_⟩
  · have : ¬ n < 0 := by omega
    simp [Lib.itoa, decS, this]
  · exact ⟨rfl, rfl, rfl, by simp [Sort.grow], fun j hj => by simp [Sort.grow, Array.getElem?_append, hj]⟩

theorem as_dd (v : Value) (w : World) : (Instr.typeAssert (.iface 61 v) 42 61 true).run Tryd.prog w = .ok (.tuple #[v, .bool true]) w := by kernel_rfl
theorem as_cd (v : Value) (w : World) : (Instr.typeAssert (.iface 62 v) 42 61 true).run Tryd.prog w = .ok (.tuple #[.agg #[.int .i64 0, .int .i64 0, .int .i64 0], .bool false]) w := by kernel_rfl
theorem as_cc (v : Value) (w : World) : (Instr.typeAssert (.iface 62 v) 42 62 true).run Tryd.prog w = .ok (.tuple #[v, .bool true]) w := by kernel_rfl

theorem word_1 (x y z : Int) (w : World) : Calls Tryd.prog 23 #[.iface 61 (.agg #[.int .i64 x, .int .i64 y, .int .i64 z])] w fun e w' => e = .returned (.string (wordB 1)) ∧ w' = w := by
  have k1 := as_dd
  go_enter Tryd.func23, Tryd.ntmps23
  go_wp2
  go_ret
  exact ⟨rfl, rfl⟩
theorem word_2 (x y z : Int) (w : World) : Calls Tryd.prog 23 #[.iface 62 (.agg #[.int .i64 x, .int .i64 y, .int .i64 z])] w fun e w' => e = .returned (.string (wordB 2)) ∧ w' = w := by
  have k1 := as_cd
  have k2 := as_cc
  go_enter Tryd.func23, Tryd.ntmps23
  go_wp2
  go_ret
  exact ⟨rfl, rfl⟩

theorem keep3 {W0 w1 w2 : World} {b : Nat} {x y z : Value} (hS : Below W0.heap.size W0 w1 ∧ w1.cell? ⟨b, 0, none⟩ = some x ∧ w1.cell? ⟨b, 1, none⟩ = some y ∧ w1.cell? ⟨b, 2, none⟩ = some z) (hb : Below w1.heap.size w1 w2) :
    Below W0.heap.size W0 w2 ∧ w2.cell? ⟨b, 0, none⟩ = some x ∧ w2.cell? ⟨b, 1, none⟩ = some y ∧ w2.cell? ⟨b, 2, none⟩ = some z := by
  obtain ⟨h, h0, h1, h2⟩ := hS
  have hlt : b < w1.heap.size := World.block_lt_of_cell? w1 ⟨b, 0, none⟩ h0
  exact ⟨h.trans (hb.mono h.size), by rw [hb.cell (p := ⟨b, 0, none⟩) hlt]; exact h0, by rw [hb.cell (p := ⟨b, 1, none⟩) hlt]; exact h1, by rw [hb.cell (p := ⟨b, 2, none⟩) hlt]; exact h2⟩

theorem num_bounds {s a v : Int} (h : numB s a v = true) : 0 ≤ s ∧ s ≤ 100000 ∧ 0 ≤ a ∧ a ≤ 100000 ∧ 0 ≤ v ∧ v ≤ 100000 := by
  simp only [numB, inB, Bool.and_eq_true, decide_eq_true_eq] at h
  omega

set_option maxHeartbeats 1000000 in
theorem text_1 (s a v : Int) (w : World) (hn : numB s a v = true) (hg : 0 < w.heap.size) (hT : Lib.TabIs Tryd.prog w "internal/strconv.uint64pow10" .u64 Lib.pow10Tab) :
    Calls Tryd.prog 11 #[.agg #[.int .i64 1, .int .i64 s, .int .i64 a, .int .i64 v]] w fun e w' => e = .returned (.string (textB 1 s a v)) ∧ Below w.heap.size w w' := by
  obtain ⟨hs0, hs1, ha0, ha1, hv0, hv1⟩ := num_bounds hn
  have z1 := dec_size hs1
  have z2 := dec_size ha1
  have z3 := dec_size hv1
  obtain ⟨t1, t2, t3, t4, t5⟩ := adds (wordB 1) s a v rfl z1 z2 z3
  have z0 : (wordB 1).size = 5 := rfl
  clear z1 z2 z3
  go_enter Tryd.func11, Tryd.ntmps11
  go_wp2_with fail
  refine (keptOf_1 _ _ _ _).mono ?_
  rintro e w1 ⟨rfl, b1⟩
  go_wp2_with fail
  refine (keptOk_1 _ _ _ _).mono ?_
  rintro e w2 ⟨rfl, b2⟩
  rw [hn]
  have bw : Below w.heap.size w w2 := ((Below.refl _ _).alloc (Nat.le_refl _) _).trans ((b1.mono (by simp)).trans (b2.mono (by have := b1.size; simp at this; omega)))
  have hg2 : 0 < w2.heap.size := by have := bw.size; omega
  have hT2 : Lib.TabIs Tryd.prog w2 "internal/strconv.uint64pow10" .u64 Lib.pow10Tab := var?_below bw gTab hg hT
  clear b1 b2 hn hT hg
  go_wp2_with (first | go_in)
  have HT : Hid (Lib.TabIs Tryd.prog w2 "internal/strconv.uint64pow10" .u64 Lib.pow10Tab) := hT2
  clear hT2
  go_region_held3 (fun w' => Below w2.heap.size w2 w' ∧ w'.cell? ⟨w2.heap.size + 1 + 1, 0, none⟩ = some (.int .i64 s) ∧ w'.cell? ⟨w2.heap.size + 1 + 1, 1, none⟩ = some (.int .i64 a) ∧ w'.cell? ⟨w2.heap.size + 1 + 1, 2, none⟩ = some (.int .i64 v))
    (first | exact keep3 (by assumption) hbw | exact ⟨by go_grown, by go_cell, by go_cell, by go_cell⟩)
    (first | (go_at_call 23; refine (word_1 _ _ _ _).mono ?_; rintro e w' ⟨rfl, rfl⟩) | (go_at_call 24; refine (itoa_any _ w2 _ (by assumption) (by assumption) hg2 HT.out (And.left (by assumption))).mono ?_; rintro e w' ⟨rfl, hbw⟩))
  have hb' : Below w2.heap.size w2 _ := And.left (by assumption)
  go_wp2
  go_ret
  exact ⟨rfl, bw.trans (hb'.mono bw.size)⟩

set_option maxHeartbeats 1000000 in
theorem text_2 (s a v : Int) (w : World) (hn : numB s a v = true) (hg : 0 < w.heap.size) (hT : Lib.TabIs Tryd.prog w "internal/strconv.uint64pow10" .u64 Lib.pow10Tab) :
    Calls Tryd.prog 11 #[.agg #[.int .i64 2, .int .i64 s, .int .i64 a, .int .i64 v]] w fun e w' => e = .returned (.string (textB 2 s a v)) ∧ Below w.heap.size w w' := by
  obtain ⟨hs0, hs1, ha0, ha1, hv0, hv1⟩ := num_bounds hn
  have z1 := dec_size hs1
  have z2 := dec_size ha1
  have z3 := dec_size hv1
  obtain ⟨t1, t2, t3, t4, t5⟩ := adds (wordB 2) s a v rfl z1 z2 z3
  have z0 : (wordB 2).size = 5 := rfl
  clear z1 z2 z3
  go_enter Tryd.func11, Tryd.ntmps11
  go_wp2_with fail
  refine (keptOf_2 _ _ _ _).mono ?_
  rintro e w1 ⟨rfl, b1⟩
  go_wp2_with fail
  refine (keptOk_2 _ _ _ _).mono ?_
  rintro e w2 ⟨rfl, b2⟩
  rw [hn]
  have bw : Below w.heap.size w w2 := ((Below.refl _ _).alloc (Nat.le_refl _) _).trans ((b1.mono (by simp)).trans (b2.mono (by have := b1.size; simp at this; omega)))
  have hg2 : 0 < w2.heap.size := by have := bw.size; omega
  have hT2 : Lib.TabIs Tryd.prog w2 "internal/strconv.uint64pow10" .u64 Lib.pow10Tab := var?_below bw gTab hg hT
  clear b1 b2 hn hT hg
  go_wp2_with (first | go_in)
  have HT : Hid (Lib.TabIs Tryd.prog w2 "internal/strconv.uint64pow10" .u64 Lib.pow10Tab) := hT2
  clear hT2
  go_region_held3 (fun w' => Below w2.heap.size w2 w' ∧ w'.cell? ⟨w2.heap.size + 1 + 1, 0, none⟩ = some (.int .i64 s) ∧ w'.cell? ⟨w2.heap.size + 1 + 1, 1, none⟩ = some (.int .i64 a) ∧ w'.cell? ⟨w2.heap.size + 1 + 1, 2, none⟩ = some (.int .i64 v))
    (first | exact keep3 (by assumption) hbw | exact ⟨by go_grown, by go_cell, by go_cell, by go_cell⟩)
    (first | (go_at_call 23; refine (word_2 _ _ _ _).mono ?_; rintro e w' ⟨rfl, rfl⟩) | (go_at_call 24; refine (itoa_any _ w2 _ (by assumption) (by assumption) hg2 HT.out (And.left (by assumption))).mono ?_; rintro e w' ⟨rfl, hbw⟩))
  have hb' : Below w2.heap.size w2 _ := And.left (by assumption)
  go_wp2
  go_ret
  exact ⟨rfl, bw.trans (hb'.mono bw.size)⟩

set_option maxHeartbeats 400000 in
theorem text_no (k s a v : Int) (w : World) (h : recB k s a v = false) :
    Calls Tryd.prog 11 #[.agg #[.int .i64 k, .int .i64 s, .int .i64 a, .int .i64 v]] w fun e w' => e = .returned (.string ⟨#[]⟩) ∧ Below w.heap.size w w' := by
  by_cases h1 : k = 1
  · subst h1
    rw [recB_1] at h
    go_enter Tryd.func11, Tryd.ntmps11
    go_wp2_with fail
    refine (keptOf_1 _ _ _ _).mono ?_
    rintro e w1 ⟨rfl, b1⟩
    go_wp2_with fail
    refine (keptOk_1 _ _ _ _).mono ?_
    rintro e w2 ⟨rfl, b2⟩
    rw [h]
    go_wp2_with fail
    go_ret
    exact ⟨rfl, ((Below.refl _ _).alloc (Nat.le_refl _) _).trans ((b1.mono (by simp)).trans (b2.mono (by have := b1.size; simp at this; omega)))⟩
  by_cases h2 : k = 2
  · subst h2
    rw [recB_2] at h
    go_enter Tryd.func11, Tryd.ntmps11
    go_wp2_with fail
    refine (keptOf_2 _ _ _ _).mono ?_
    rintro e w1 ⟨rfl, b1⟩
    go_wp2_with fail
    refine (keptOk_2 _ _ _ _).mono ?_
    rintro e w2 ⟨rfl, b2⟩
    rw [h]
    go_wp2_with fail
    go_ret
    exact ⟨rfl, ((Below.refl _ _).alloc (Nat.le_refl _) _).trans ((b1.mono (by simp)).trans (b2.mono (by have := b1.size; simp at this; omega)))⟩
  clear h
  go_enter Tryd.func11, Tryd.ntmps11
  go_wp2_with fail
  refine (keptOf_0 _ _ _ _ _ (by simpa using h1) (by simpa using h2)).mono ?_
  rintro e w1 ⟨rfl, b1⟩
  go_wp2_with fail
  refine (keptOk_0 _).mono ?_
  rintro e w2 ⟨rfl, b2⟩
  go_wp2_with fail
  go_ret
  exact ⟨rfl, ((Below.refl _ _).alloc (Nat.le_refl _) _).trans ((b1.mono (by simp)).trans (b2.mono (by have := b1.size; simp at this; omega)))⟩

/-- A record's text: of one that is ok its own, else none. -/
def recS (k s a v : Int) : ByteArray := if recB k s a v = true then textB k s a v else ⟨#[]⟩
theorem recS_ok {k s a v : Int} (h : recB k s a v = true) : recS k s a v = textB k s a v := by simp [recS, h]
theorem recS_no {k s a v : Int} (h : recB k s a v = false) : recS k s a v = ⟨#[]⟩ := by simp [recS, h]

theorem text_any (k s a v : Int) (w : World) (hg : 0 < w.heap.size) (hT : Lib.TabIs Tryd.prog w "internal/strconv.uint64pow10" .u64 Lib.pow10Tab) :
    Calls Tryd.prog 11 #[.agg #[.int .i64 k, .int .i64 s, .int .i64 a, .int .i64 v]] w fun e w' => e = .returned (.string (recS k s a v)) ∧ Below w.heap.size w w' := by
  cases h : recB k s a v
  · rw [recS_no h]
    exact text_no k s a v w h
  · rw [recS_ok h]
    by_cases h1 : k = 1
    · subst h1
      rw [recB_1] at h
      exact text_1 s a v w h hg hT
    by_cases h2 : k = 2
    · subst h2
      rw [recB_2] at h
      exact text_2 s a v w h hg hT
    rw [recB_0 k s a v h1 h2] at h
    cases h


/-- The table of powers of ten that the library's numerals read, as its initialiser lays it. -/
def Tab (W : World) : Prop := 0 < W.heap.size ∧ Lib.TabIs Tryd.prog W "internal/strconv.uint64pow10" .u64 Lib.pow10Tab
theorem tab_of {W : World} (h : Lib.TabIs Tryd.prog W "internal/strconv.uint64pow10" .u64 Lib.pow10Tab) : Tab W :=
  ⟨World.block_lt_of_cell? W ⟨0, 0, none⟩ (h.cell gTab 0 (by decide)), h⟩
theorem Tab.below {W w : World} (h : Tab W) (hb : Below W.heap.size W w) : Tab w := tab_of (var?_below hb gTab h.1 h.2)
theorem gTabType : (Tryd.prog.globals[0]?).map (·.type) = some 89 := by kernel_rfl
theorem tab_laid {W : World} {rest : List (String × DataW Unit)} (h : laidMet Tryd.prog (("internal/strconv.uint64pow10", Rows.laid_internal_strconv_uint64pow10) :: rest) W) : Tab W :=
  tab_of (Lib.tabIs_of_head (k := .u64) (zs := Lib.pow10Tab) gTab gTabType Tryd.underlying89 Tryd.underlying74 (by kernel_rfl) (by kernel_rfl) h)
theorem text_tab (k s a v : Int) (w : World) (hT : Tab w) :
    Calls Tryd.prog 11 #[.agg #[.int .i64 k, .int .i64 s, .int .i64 a, .int .i64 v]] w fun e w' => e = .returned (.string (recS k s a v)) ∧ Below w.heap.size w w' := text_any k s a v w hT.1 hT.2
end Go.Proofs.YtbgfdkpfejeliaaDoor.RText
