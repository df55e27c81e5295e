/-
  Texts that belong together, one behind the other: ImplO, FindO.
-/
import Derived.Test.YtogfelpdgeionaaGaL
import Derived.Test.YtogfelpdgeionaaGaK
import Derived.Test.YtogfelpdgeionaaGaI

/-
  The program's finding of the block on which the next record is to be written.
-/
namespace Go.Proofs.Ytogfelpdgeionaa.ImplO
open Go.ChangeShapes Go.WideShapes Go.ChangeAt Go.RowKit OkA Big Fl ImplB ImplF ImplS _root_.Go.Proofs.Ytogfelpdgeionaa.Own ImplT ImplU SpecA SpecB SpecC SpecD SpecW SpecF SpecG SpecH Ok2
set_option linter.unusedVariables false
set_option linter.unusedSimpArgs false
attribute [local go_sem ↓] Go.wp_at_zero Go.wp_at_succ

def begB (b : Bk) : Bool := inB (usedN b.ps) 1 3
set_option maxHeartbeats 400000 in
theorem begun_any (b : Bk) (h4 : b.ps.length = 4) (w : World) :
    Calls Try.prog 116 #[.agg (bkC b).toArray] w fun e w' => e = .returned (.bool (begB b)) ∧ Below w.heap.size w w' := by
  have r0 := rangeAt_new w (bkC b) 112
  have b0 : Below w.heap.size w (w.alloc (.cells (bkC b).toArray 112)) := (Below.refl _ _).alloc (Nat.le_refl _) _
  have HB : Hid (begB b = inB (usedN b.ps) 1 3) := rfl
  have HS := hide (size_bkl h4)
  have HI := hide (fun (w' : World) => within_any (usedN b.ps) 1 3 w')
  go_enter Try.func116, Try.ntmps116
  go_wp2_with (first | (refine wpList_box_big rfl _ _ rfl (bkC b).toArray rfl ?_) | (refine wpList_load_mid rfl 112 _ rfl w.heap.size 0 rfl (bkC b) _ r0 Try.underlying112 rfl (unhide HS) ?_))
  refine (used_any b h4 _).mono ?_
  rintro e w1 ⟨rfl, b1⟩
  have B1 := b0.trans (b1.mono b0.size)
  clear b0 b1 r0
  generalize inB (usedN b.ps) 1 3 = x at *
  go_wp2_with (go_at_call 46; refine (unhide HI _).mono ?_; rintro e w' ⟨rfl, hw'⟩; obtain rfl := hw'.symm)
  go_ret
  exact ⟨by rw [unhide HB]; rfl, B1⟩

/-- What the program tells of the blocks from the i-th on, if o is the best that was met so far (f: whether there is one). -/
def openG (bs : List Bk) : List Bk → Nat → Nat → Bool → Int × Bool
  | [], _, o, f => (o, f)
  | b :: r, i, o, f => if begB b then ((i : Int), true) else if usedN b.ps = 0 ∧ (f = false ∨ b.wn < (bs.getD o zBk).wn) then openG bs r (i + 1) i true else openG bs r (i + 1) o f
def openI (bs : List Bk) : Int × Bool := openG bs bs 0 0 false

theorem here : True := trivial
end Go.Proofs.Ytogfelpdgeionaa.ImplO

/-
  FindOpen, of the program and of the specification: both answer the same.
-/
namespace Go.Proofs.Ytogfelpdgeionaa.FindO
open Go.ChangeShapes Go.WideShapes Go.ChangeAt Go.RowKit OkA Big Fl ImplB ImplF ImplS _root_.Go.Proofs.Ytogfelpdgeionaa.Own ImplT ImplU SpecA SpecB SpecC SpecD SpecW SpecF SpecG SpecH Ok2 ImplO SpecX
set_option linter.unusedVariables false
set_option linter.unusedSimpArgs false

/-! Plain lists. -/
theorem openG_F (bs : List Bk) : ∀ (l : List Bk) (i o : Nat) (f : Bool), (∀ b ∈ l, b.ps.length = 4 ∧ tailB b.ps = true) → (f = false → o = 0) →
    openG bs l i o f = openF bs l i (if f then (o : Int) else -1)
  | [], i, o, f, _, h0 => by
    cases f
    · have := h0 rfl; subst this; rfl
    · simp only [openG, openF, if_true]
      have h1 : ¬ (o : Int) < 0 := by omega
      have h2 : (0 : Int) ≤ (o : Int) := by omega
      rw [if_neg h1]; simp [h2]
  | b :: r, i, o, f, hl, h0 => by
    obtain ⟨h4, ht⟩ := hl b (by simp)
    have hcu := clean_used b.ps ht
    rw [h4] at hcu
    have ih := fun i o f h => openG_F bs r i o f (fun x hx => hl x (by simp [hx])) h
    simp only [openG, openF]
    by_cases hb : 0 < cleanN b.ps ∧ cleanN b.ps < 4
    · rw [if_pos hb, if_pos (by simp [begB, inB]; omega)]
    · rw [if_neg hb, if_neg (by simp [begB, inB]; omega)]
      by_cases hz : usedN b.ps = 0
      · cases f
        · rw [if_pos ⟨hz, .inl rfl⟩, ih (i + 1) i true (fun h => by cases h)]
          have e : (0 < cleanN b.ps ∧ ((-1 : Int) < 0 ∨ b.wn < (bs.getD (-1 : Int).toNat zBk).wn)) := ⟨by omega, .inl (by omega)⟩
          simp only [Bool.false_eq_true, if_true, if_false]
          rw [if_pos e]
        · by_cases hw : b.wn < (bs.getD o zBk).wn
          · rw [if_pos ⟨hz, .inr hw⟩, ih (i + 1) i true (fun h => by cases h)]
            have e : (0 < cleanN b.ps ∧ ((o : Int) < 0 ∨ b.wn < (bs.getD (o : Int).toNat zBk).wn)) := ⟨by omega, .inr (by simpa using hw)⟩
            simp only [if_true]
            rw [if_pos e]
          · have e : ¬ (0 < cleanN b.ps ∧ ((o : Int) < 0 ∨ b.wn < (bs.getD (o : Int).toNat zBk).wn)) := fun h => h.2.elim (fun h => by omega) (fun h => hw (by simpa using h))
            have e2 : ¬ (usedN b.ps = 0 ∧ (true = false ∨ b.wn < (bs.getD o zBk).wn)) := fun h => h.2.elim (fun h => by cases h) hw
            rw [if_neg e2, ih (i + 1) o true (fun h => by cases h)]
            simp only [if_true]
            rw [if_neg e]
      · have e : ∀ x : Int, ¬ (0 < cleanN b.ps ∧ (x < 0 ∨ b.wn < (bs.getD x.toNat zBk).wn)) := fun x h => by omega
        have e2 : ¬ (usedN b.ps = 0 ∧ (f = false ∨ b.wn < (bs.getD o zBk).wn)) := fun h => hz h.1
        rw [if_neg e2, ih (i + 1) o f h0, if_neg (e _)]
theorem openI_R (bs : List Bk) (h : okB bs = true) : openI bs = openR bs := by
  obtain ⟨h4, hb, _⟩ := (okB_iff bs).1 h
  exact openG_F bs bs 0 0 false (fun b hm => by have := (bkB_iff b).1 (hb b hm); exact ⟨this.1, this.2.2.2⟩) (fun _ => rfl)
/-- What FindOpen answers. -/
def fopR (bs : List Bk) : Int × Bool := if okB bs then openR bs else (0, false)

theorem here : True := trivial
end Go.Proofs.Ytogfelpdgeionaa.FindO
