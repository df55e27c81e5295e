/-
  Small facts for the laws' walks: where a record lies, and that it lies there still behind a call.
-/
import Derived.Test.YtbgfdkpfejeliaaDoorSpecText
import Derived.Test.YtbgfdkpfejeliaaDoorDrawText
import Derived.Test.YtbgfdkpfejeliaaDoorPlain
namespace Go.Proofs.YtbgfdkpfejeliaaDoor.Kit
open Go.ChangeShapes Go.WideShapes Go.ChangeAt Go.RowKit SpecText
set_option linter.unusedVariables false

def Rec4 (W : World) (b : Nat) (k s x v : Int) : Prop :=
  W.cell? ⟨b, 0, none⟩ = some (.int .i64 k) ∧ W.cell? ⟨b, 1, none⟩ = some (.int .i64 s) ∧ W.cell? ⟨b, 2, none⟩ = some (.int .i64 x) ∧ W.cell? ⟨b, 3, none⟩ = some (.int .i64 v)
theorem Rec4.moved {W w' : World} {b : Nat} {k s x v : Int} (h : Rec4 W b k s x v) (hb : Below W.heap.size W w') : Rec4 w' b k s x v :=
  ⟨SpecText.moved h.1 hb, SpecText.moved h.2.1 hb, SpecText.moved h.2.2.1 hb, SpecText.moved h.2.2.2 hb⟩
theorem Rec4.alloc {W : World} {b : Nat} {k s x v : Int} (h : Rec4 W b k s x v) (o : Obj) : Rec4 (W.alloc o) b k s x v := h.moved ((Below.refl _ _).alloc (Nat.le_refl _) o)
theorem Rec4.new (W : World) (k s x v : Int) (T : TypeId) : Rec4 (W.alloc (.cells #[.int .i64 k, .int .i64 s, .int .i64 x, .int .i64 v] T)) W.heap.size k s x v :=
  ⟨(World.cell?_alloc_at _ T _ 0 rfl).trans rfl, (World.cell?_alloc_at _ T _ 1 rfl).trans rfl, (World.cell?_alloc_at _ T _ 2 rfl).trans rfl, (World.cell?_alloc_at _ T _ 3 rfl).trans rfl⟩
theorem Rec4.lt {W : World} {b : Nat} {k s x v : Int} (h : Rec4 W b k s x v) : b < W.heap.size := World.block_lt_of_cell? W ⟨b, 0, none⟩ h.1
theorem below_step {w W w' : World} (h : Below w.heap.size w W) (hb : Below W.heap.size W w') : Below w.heap.size w w' := h.trans (hb.mono h.size)
theorem below_al {w W : World} (h : Below w.heap.size w W) (o : Obj) : Below w.heap.size w (W.alloc o) := h.alloc h.size o

theorem ne_nil {t : ByteArray} (h : t ≠ ⟨#[]⟩) : ¬ t.toList = [] ∧ t.toList.isEmpty = false := by
  have : ¬ t.toList = [] := fun e => h (by
    rw [ByteArray.toList_eq] at e
    cases t with | mk d => simp at e; rw [e])
  exact ⟨this, by simpa using this⟩
theorem ne_list {t t' : ByteArray} (h : t ≠ t') : ¬ t.toList = t'.toList ∧ (t.toList == t'.toList) = false := by
  have : ¬ t.toList = t'.toList := fun e => h (by
    rw [ByteArray.toList_eq, ByteArray.toList_eq] at e
    cases t; cases t'; simp at e; rw [e])
  exact ⟨this, by simpa using this⟩

theorem take_snoc (s : ByteArray) (k : Nat) (h : k < s.size) : s.data.toList.take (k + 1) = s.data.toList.take k ++ [s[k]] := by
  rw [List.take_succ_eq_append_getElem (by simpa using h)]; rfl
theorem count_yes (s : ByteArray) (k : Nat) (h : k < s.size) (e : s[k] = 32) : (s.data.toList.take (k + 1)).count 32 = (s.data.toList.take k).count 32 + 1 := by
  rw [take_snoc s k h, List.count_append, e]; rfl
theorem count_no (s : ByteArray) (k : Nat) (h : k < s.size) (e : s[k] ≠ 32) : (s.data.toList.take (k + 1)).count 32 = (s.data.toList.take k).count 32 := by
  rw [take_snoc s k h, List.count_append, List.count_singleton, if_neg (by simpa using e)]; rfl
theorem byte_yes {c : UInt8} (e : c = 32) : ((c.toNat : Int) == 32) = true := by subst e; rfl
theorem byte_no {c : UInt8} (e : c ≠ 32) : ((c.toNat : Int) == 32) = false := by
  have : c.toNat ≠ 32 := fun h => e (UInt8.toNat_inj.1 (by simpa using h))
  simp; omega
end Go.Proofs.YtbgfdkpfejeliaaDoor.Kit
