/-
  The contract of the specification's cutting of a text at its blanks: the pieces, in order, in memory of the call's own.
-/
import Derived.Test.YtbgfdkpfejeliaaDoorKit
import Derived.Test.YtbgfdkpfejeliaaDoorWords
import Derived.Lib.SmallJoins
import Derived.BigRegion
import Derived.WalkSmall
namespace Go.Proofs.YtbgfdkpfejeliaaDoor.Cut
open Go.ChangeShapes Go.WideShapes Go.ChangeAt Go.RowKit Go.Joins Dec Kit SpecText
set_option linter.unusedVariables false

def stepC (st : List ByteArray × ByteArray) (c : UInt8) : List ByteArray × ByteArray := if c = 32 then (st.1 ++ [st.2], ⟨#[]⟩) else (st.1, st.2 ++ ⟨#[c]⟩)
def cutF (l : List UInt8) : List ByteArray × ByteArray := l.foldl stepC ([], ⟨#[]⟩)
theorem cutF_snoc (l : List UInt8) (c : UInt8) : cutF (l ++ [c]) = stepC (cutF l) c := by simp [cutF, List.foldl_append]
theorem cutF_take {t : ByteArray} {j : Nat} (h : j < t.size) : cutF (t.data.toList.take (j + 1)) = stepC (cutF (t.data.toList.take j)) t[j] := by rw [take_snoc t j h, cutF_snoc]
theorem stepC_yes (st : List ByteArray × ByteArray) {c : UInt8} (h : c = 32) : stepC st c = (st.1 ++ [st.2], ⟨#[]⟩) := by simp [stepC, h]
theorem stepC_no (st : List ByteArray × ByteArray) {c : UInt8} (h : c ≠ 32) : stepC st c = (st.1, st.2 ++ ⟨#[c]⟩) := by simp [stepC, h]
theorem cut_le (l : List UInt8) : (cutF l).1.length + (cutF l).2.size ≤ l.length := by
  suffices h : ∀ (l : List UInt8) (st : List ByteArray × ByteArray), (l.foldl stepC st).1.length + (l.foldl stepC st).2.size ≤ l.length + (st.1.length + st.2.size) by
    have := h l ([], ⟨#[]⟩)
    have he : (⟨#[]⟩ : ByteArray).size = 0 := rfl
    simpa [cutF, he] using this
  intro l
  induction l with
  | nil => intro st; simp
  | cons c l ih =>
    intro st
    refine Nat.le_trans (ih (stepC st c)) ?_
    unfold stepC
    split
    · have he : (⟨#[]⟩ : ByteArray).size = 0 := rfl
      simp [he]; omega
    · have : (⟨#[c]⟩ : ByteArray).size = 1 := rfl
      simp [ByteArray.size_append, this]; omega

theorem add_ok' {x y : ByteArray} (hx : x.size ≤ 100) (hy : y.size ≤ 100) : ∀ w : World, (Op.stringOp .add x y).run Tryd.prog w = .ok (.string (x ++ y)) w := fun w => run_string_add_sum w x y (by omega)
theorem strInfo : (Tryd.prog.info? 9).map (fun i => (i.zero, i.size, i.bytes)) = some (some (.string ⟨#[]⟩), 1, 16) := by kernel_rfl

set_option maxHeartbeats 2000000 in
theorem cut_any (t : ByteArray) (w : World) (ht : t.size ≤ 20) :
    Calls Tryd.prog 31 #[.string t, .int .u8 32] w fun e w' => ∃ v, e = .returned v ∧ w'.ownsRow w.heap.size 9 1 v ((cutF t.data.toList).1.length + 1) (((cutF t.data.toList).1 ++ [(cutF t.data.toList).2]).map Value.string) ∧ Below w.heap.size w w' := by
  obtain ⟨i0, hi, hz0, hz1, hz2⟩ := info_parts strInfo
  go_enter Tryd.func31, Tryd.ntmps31
  go_wp2
  go_loopw [5, 6] (fun v i wr => ∃ j : Nat, j ≤ t.size ∧ i = .int .i64 j ∧ wr.ownsRow w.heap.size 9 1 v ((cutF (t.data.toList.take j)).1.length + 1) (((cutF (t.data.toList.take j)).1 ++ [(cutF (t.data.toList.take j)).2]).map Value.string) ∧ Below w.heap.size w wr)
    (fun _ i _ => t.size - (intOf i).toNat)
  case atStart => exact ⟨0, Nat.zero_le _, rfl, World.ownsRow_lit w _ 1 (Nat.le_refl _) (by decide) rfl, (Below.refl _ _).alloc (Nat.le_refl _) _⟩
  case round =>
    obtain ⟨j, hj, rfl, hown, hnx⟩ := hrel
    by_cases hlt : j < t.size
    · have hcl := cut_le (t.data.toList.take j)
      have hll : (t.data.toList.take j).length ≤ j := List.length_take_le _ _
      have hs := hnx.size
      obtain ⟨g, cap, rfl⟩ := ownsRow_form hown (by omega)
      by_cases h32 : t[j] = 32
      · have f := byte_yes h32
        have hst := (cutF_take hlt).trans (stepC_yes _ h32)
        have HST : Hid (cutF (t.data.toList.take (j + 1)) = _) := hst
        clear hst h32
        generalize cutF (t.data.toList.take j) = st at *
        obtain ⟨ini, last⟩ := st
        dsimp only at *
        have HOWN : Hid (wr.ownsRow w.heap.size 9 1 (.slice (some ⟨g, 0, none⟩) (ini.length + 1) cap) (ini.length + 1) ((ini ++ [last]).map Value.string)) := hown
        clear hown
        go_wp2_with (first | (at_builtin; refine wpList_append_own _ rfl _ _ 50 rfl w.heap.size 9 i0 (.string ⟨#[]⟩) 1 16 Tryd.underlying50 hi hz0 hz1 hz2 rfl (by decide) _ _ _ rfl (HOWN.out.alloc _) ⟨wr.heap.size, 0, none⟩ 1 1 [.string ⟨#[]⟩] rfl rfl ?c1 ?c2 ?c3 ?c4 ?c5 ?_))
        case c1 =>
          intro q u hq
          match q, hq with
          | 0, hq => simp at hq; subst hq; simp [Addr.add]
        case c2 => intro u hu; simp at hu; subst hu; rfl
        case c3 => unfold maxLen; omega
        case c4 => omega
        case c5 => simp; omega
        intro v' w1 hown' hgrow _
        have hb1 : Below w.heap.size w w1 := (hnx.alloc hs _).grown hgrow (by simp; omega) (fun q hq => by
          obtain ⟨h1, _⟩ := HOWN.out.lt q hq
          exact h1)
        have HOWN' : Hid (w1.ownsRow w.heap.size 9 1 v' (ini.length + 1 + 1) (ini.map Value.string ++ [Value.string last, Value.string ⟨#[]⟩])) := hown'
        clear hown' hgrow HOWN hnx
        go_wp2
        go_roundw
        case rel => exact ⟨j + 1, by omega, by go_num, by rw [HST.out]; simpa using HOWN'.out, hb1⟩
        case measure => simp [intOf]; omega
      · have f := byte_no h32
        have hst := (cutF_take hlt).trans (stepC_no _ h32)
        have HST : Hid (cutF (t.data.toList.take (j + 1)) = _) := hst
        clear hst h32
        generalize cutF (t.data.toList.take j) = st at *
        obtain ⟨ini, last⟩ := st
        dsimp only at *
        have c0 : wr.cell? ⟨g, ini.length, none⟩ = some (.string last) := by
          rw [hown.cellAt ini.length (by omega)]; simp
        have f0 : wr.frozen? ⟨g, ini.length, none⟩ = false := hown.frozenAt _
        have hlt' : g < wr.heap.size := World.block_lt_of_cell? wr ⟨g, ini.length, none⟩ c0
        have hcap : ini.length + 1 ≤ cap ∧ cap ≤ maxLen := by
          rcases hown.2 with ⟨h', _⟩ | ⟨g', cap', cur, h', _, _, h1, h2, _, _⟩
          · simp at h'
          · simp only [Value.slice.injEq, Option.some.injEq, Addr.mk.injEq, and_true, true_and] at h'
            obtain ⟨_, rfl⟩ := h'
            exact ⟨h1, h2⟩
        have HOWN : Hid (wr.ownsRow w.heap.size 9 1 (.slice (some ⟨g, 0, none⟩) (ini.length + 1) cap) (ini.length + 1) ((ini ++ [last]).map Value.string)) := hown
        clear hown
        generalize hc : t[j] = c at *
        have kc := fun (w : World) (b : Nat) h => conv1 w b (c.toNat : Int) (by omega) (by have := c.toNat_lt; omega) h
        have ka := add_ok' (x := last) (y := ⟨#[UInt8.ofNat (c.toNat : Int).toNat]⟩) (by omega) (by show 1 ≤ 100; omega)
        have q1 : IntKind.i64.wrap ((ini.length : Int) + 1 - 1) = (ini.length : Int) := by rw [IntKind.wrap_i64]; omega
        have q2 : ((ini.length + 1 : Nat) : Int) - 1 = (ini.length : Int) := by omega
        have q3 : IntKind.i64.wrap (ini.length : Int) = (ini.length : Int) := by rw [IntKind.wrap_i64]; omega
        have q4 : (0 : Int) ≤ (ini.length : Int) := by omega
        have q5 : (ini.length : Int) < ((ini.length + 1 : Nat) : Int) := by omega
        go_wp2
        go_region
        have hgb : w.heap.size ≤ g := (HOWN.out.lt g rfl).1
        have bel : Below w.heap.size w ((wr.setCell ⟨g, ini.length, none⟩ (.string (last ++ ⟨#[c]⟩))).alloc (.cells #[.int .u8 (c.toNat : Int)] 5)).drew := below_drewN ((hnx.setCell hgb _).alloc (by simp; omega) _) 1
        have own := (((HOWN.out.stored ini.length (.string (last ++ ⟨#[c]⟩))).1).alloc (.cells #[.int .u8 (c.toNat : Int)] 5)).drew
        have es : ((ini ++ [last]).map Value.string).set ini.length (.string (last ++ ⟨#[c]⟩)) = (ini ++ [last ++ ⟨#[c]⟩]).map Value.string := by
          simp
        rw [es] at own
        have OWN : Hid _ := own
        have BEL : Hid _ := bel
        clear own bel HOWN es kc ka c0 f0
        go_wp2
        go_roundw
        case rel => exact ⟨j + 1, by omega, by go_num, by rw [HST.out]; exact OWN.out, BEL.out⟩
        case measure => simp [intOf]; omega
    · have he : t.data.toList.take j = t.data.toList := List.take_of_length_le (by simp; omega)
      rw [he, List.map_append] at hown
      have OWN : Hid _ := hown
      clear hown he
      have hlt' : ¬ (j : Int) < (t.size : Int) := by omega
      go_wp2
      go_ret
      exact ⟨_, rfl, OWN.out, hnx⟩
end Go.Proofs.YtbgfdkpfejeliaaDoor.Cut
