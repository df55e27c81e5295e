/-
  Texts that belong together, one behind the other: SpecG, SpecH, Pl.
-/
import Derived.Test.YtogfelpdgeionaaGaK

/-
  The specification's finding: the eldest block.
-/
namespace Go.Proofs.Ytogfelpdgeionaa.SpecG
open Go.ChangeShapes Go.WideShapes Go.ChangeAt Go.RowKit OkA Big Fl ImplB ImplF ImplS _root_.Go.Proofs.Ytogfelpdgeionaa.Own ImplT ImplU SpecA SpecB SpecF
set_option linter.unusedVariables false
set_option linter.unusedSimpArgs false
attribute [local go_sem ↓] Go.wp_at_zero Go.wp_at_succ

/-- The first of the first k + 1 blocks whose greatest number is least. -/
def oldN (bs : List Bk) : Nat → Nat
  | 0 => 0
  | k + 1 => if mostN (bs.getD (k + 1) zBk).ps < mostN (bs.getD (oldN bs k) zBk).ps then k + 1 else oldN bs k
theorem oldN_le (bs : List Bk) (k : Nat) : oldN bs k ≤ k := by
  induction k with
  | zero => exact Nat.le_refl _
  | succ k ih => unfold oldN; split <;> omega
theorem getD_at (bs : List Bk) (k : Nat) (h : k < bs.length) : bs.getD k zBk = bs[k] := by rw [List.getD_eq_getElem?_getD, List.getElem?_eq_getElem h]; rfl
theorem blk_two {w : World} {b o : Nat} {x y : Value} (h0 : w.cell? ⟨b, o, none⟩ = some x) (h1 : w.cell? ⟨b, o + 1, none⟩ = some y) : w.rangeAt b o [x, y] := fun j v hv => by
  match j, hv with
  | 0, hv => (obtain rfl : v = x := by simpa using hv.symm); exact h0
  | 1, hv => (obtain rfl : v = y := by simpa using hv.symm); exact h1
  | n + 2, hv => simp at hv

theorem here : True := trivial
end Go.Proofs.Ytogfelpdgeionaa.SpecG

/-
  The specification's finding: the block on which the next record is to be written.
-/
namespace Go.Proofs.Ytogfelpdgeionaa.SpecH
open Go.ChangeShapes Go.WideShapes Go.ChangeAt Go.RowKit OkA Big Fl ImplB ImplF ImplS _root_.Go.Proofs.Ytogfelpdgeionaa.Own ImplT ImplU SpecA SpecB SpecF SpecG
set_option linter.unusedVariables false
set_option linter.unusedSimpArgs false
attribute [local go_sem ↓] Go.wp_at_zero Go.wp_at_succ

/-- What is told of the blocks from the i-th on, if out is the best that was met so far (-1: none). -/
def openF (bs : List Bk) : List Bk → Nat → Int → Int × Bool
  | [], _, out => (if out < 0 then 0 else out, decide (0 ≤ out))
  | b :: r, i, out => if 0 < cleanN b.ps ∧ cleanN b.ps < 4 then ((i : Int), true) else openF bs r (i + 1) (if 0 < cleanN b.ps ∧ (out < 0 ∨ b.wn < (bs.getD out.toNat zBk).wn) then (i : Int) else out)
def openR (bs : List Bk) : Int × Bool := openF bs bs 0 (-1)
theorem cleanN_le (ps : List Pg) : cleanN ps ≤ ps.length := List.length_filter_le _ _
def OpPost (w : World) (R : Int × Bool) (e : Ending) (w' : World) : Prop := e = .returned (.tuple #[.int .i64 R.1, .bool R.2]) ∧ Below w.heap.size w w'

theorem here : True := trivial
end Go.Proofs.Ytogfelpdgeionaa.SpecH

/-
  Plain lists: the last record of an address, what lives, steps, what they do, what happens. Nothing here walks the program.
-/
namespace Go.Proofs.Ytogfelpdgeionaa.Pl
open Go.ChangeShapes Go.WideShapes Go.ChangeAt Go.RowKit OkA Big Fl ImplB ImplF ImplS _root_.Go.Proofs.Ytogfelpdgeionaa.Own ImplT ImplU SpecA SpecB SpecC SpecD SpecW SpecF SpecG SpecH Ok2
set_option linter.unusedVariables false
set_option linter.unusedSimpArgs false

/-- A record. -/
structure Rc where
  k : Int
  s : Int
  a : Int
  v : Int
def zRc : Rc := ⟨0, 0, 0, 0⟩
def rcC (r : Rc) : List Value := [.int .i64 r.k, .int .i64 r.s, .int .i64 r.a, .int .i64 r.v]
def pgRc (p : Pg) : Rc := ⟨p.k, p.s, p.a, p.v⟩
def eqRc (r q : Rc) : Bool := r.k == q.k && r.s == q.s && r.a == q.a && r.v == q.v
theorem eqRc_iff (r q : Rc) : eqRc r q = true ↔ r = q := by
  cases r; cases q; simp [eqRc, and_assoc]
/-- The page is a later record of the address. -/
def laterB (addr : Int) (o : Rc) (p : Pg) : Bool := p.st == 1 && p.a == addr && decide (o.s < p.s)
def lastS (addr : Int) (o : Rc) (p : Pg) : Rc := if laterB addr o p then pgRc p else o
def lastP (addr : Int) (o : Rc) (ps : List Pg) : Rc := ps.foldl (lastS addr) o
def lastF (addr : Int) (o : Rc) (bs : List Bk) : Rc := bs.foldl (fun o b => lastP addr o b.ps) o
def lastR (bs : List Bk) (addr : Int) : Rc := lastF addr zRc bs
def lastO (bs : List Bk) (addr : Int) : Bool := decide (0 < (lastR bs addr).s)
theorem lastP_take (addr : Int) (o : Rc) (ps : List Pg) (j : Nat) (hj : j < ps.length) : lastP addr o (ps.take (j + 1)) = lastS addr (lastP addr o (ps.take j)) ps[j] := by
  unfold lastP
  rw [List.take_succ_eq_append_getElem hj, List.foldl_append]; rfl
theorem lastF_take (addr : Int) (o : Rc) (bs : List Bk) (j : Nat) (hj : j < bs.length) : lastF addr o (bs.take (j + 1)) = lastP addr (lastF addr o (bs.take j)) bs[j].ps := by
  unfold lastF
  rw [List.take_succ_eq_append_getElem hj, List.foldl_append]; rfl
/-- The page has the last record of its address. -/
def liveB (bs : List Bk) (p : Pg) : Bool := p.st == 1 && eqRc (lastR bs p.a) (pgRc p)

/-- A step. -/
structure Stp where
  kind : Int
  addr : Int
  val : Int
  blk : Int
  r : Rc
def stC (x : Stp) : List Value := [.int .i64 x.kind, .int .i64 x.addr, .int .i64 x.val, .int .i64 x.blk, .int .i64 x.r.k, .int .i64 x.r.s, .int .i64 x.r.a, .int .i64 x.r.v]
def stsC (l : List Stp) : List Value := l.flatMap stC
theorem len_stsC (l : List Stp) : (stsC l).length = l.length * 8 := by
  unfold stsC; induction l with
  | nil => rfl
  | cons x r ih => simp only [List.flatMap_cons, List.length_append, ih, List.length_cons, stC, List.length_nil]; omega
def zSt : Stp := ⟨0, 0, 0, 0, zRc⟩
def diskS (addr val : Int) : Stp := ⟨1, addr, val, 0, zRc⟩
def wipeS (b : Int) : Stp := ⟨2, 0, 0, b, zRc⟩
def writeS (b : Int) (r : Rc) : Stp := ⟨3, 0, 0, b, r⟩
/-- The slow disk is told what is dirty and lives on these pages. -/
def tellP (bs : List Bk) (ps : List Pg) : List Stp := ps.filterMap fun p => if liveB bs p && p.k == 1 then some (diskS p.a p.v) else none
def oldB (bs : List Bk) : Nat := oldN bs 3
def roomL (bs : List Bk) : List Stp := if (openR bs).2 then [] else tellP bs (bs.getD (oldB bs) zBk).ps ++ [wipeS (oldB bs)]
def roomB (bs : List Bk) : Int := if (openR bs).2 then (openR bs).1 else oldB bs
def roomO (bs : List Bk) : Bool := (openR bs).2 || decide ((bs.getD (oldB bs) zBk).wn < 200)
def writeP (bs : List Bk) (kind addr val : Int) : List Stp :=
  if roomO bs && recB kind (mostB bs + 1) addr val then roomL bs ++ [writeS (roomB bs) ⟨kind, mostB bs + 1, addr, val⟩] else []
def dirtyB (bs : List Bk) (addr : Int) : Bool := lastO bs addr && (lastR bs addr).k == 1
def readI (bs : List Bk) (dk : List Int) (addr : Int) : Int := if lastO bs addr then (lastR bs addr).v else dk.getD (addr - 1).toNat 0
def flushP (bs : List Bk) (dk : List Int) (addr : Int) : List Stp :=
  if inB addr 1 6 && dirtyB bs addr then (if (writeP bs 2 addr (readI bs dk addr)).isEmpty then [] else diskS addr (readI bs dk addr) :: writeP bs 2 addr (readI bs dk addr)) else []
def fillP (bs : List Bk) (dk : List Int) (addr : Int) : List Stp :=
  if inB addr 1 6 && !lastO bs addr then writeP bs 2 addr (dk.getD (addr - 1).toNat 0) else []

/-- A step that can be done without harm. -/
def stpB (x : Stp) : Bool := if x.kind = 1 then inB x.addr 1 6 else if x.kind = 2 then inB x.blk 0 3 else if x.kind = 3 then inB x.blk 0 3 && recB x.r.k x.r.s x.r.a x.r.v else true
def wrF (bs : List Bk) (k : Nat) (r : Rc) (torn : Bool) : List Bk := if wrN bs k r.s then bs else wrL bs k (pgW torn r.k r.s r.a r.v)
def wiF (bs : List Bk) (k : Nat) (torn : Bool) : List Bk := if wiN bs k then bs else wiL bs k torn
def doF (bs : List Bk) (x : Stp) (torn : Bool) : List Bk := if x.kind = 2 then wiF bs x.blk.toNat torn else if x.kind = 3 then wrF bs x.blk.toNat x.r torn else bs
def doD (dk : List Int) (x : Stp) (torn : Bool) : List Int := if x.kind = 1 then (if torn then dk else dk.set (x.addr - 1).toNat x.val) else dk
theorem okB_wrF (bs : List Bk) (k : Nat) (hk : k < 4) (hok : okB bs = true) (torn : Bool) (r : Rc) (hr : recB r.k r.s r.a r.v = true) : okB (wrF bs k r torn) = true := by
  unfold wrF
  cases h : wrN bs k r.s
  · exact okB_wr bs k hk hok torn _ _ _ _ hr h
  · exact hok
theorem okB_wiF (bs : List Bk) (k : Nat) (hk : k < 4) (hok : okB bs = true) (torn : Bool) : okB (wiF bs k torn) = true := by
  unfold wiF
  cases h : wiN bs k
  · exact okB_wi bs k hk hok torn h
  · exact hok
theorem okB_doF (bs : List Bk) (x : Stp) (torn : Bool) (hok : okB bs = true) (hx : stpB x = true) : okB (doF bs x torn) = true := by
  unfold doF; unfold stpB at hx
  by_cases h2 : x.kind = 2
  · rw [if_pos h2]
    rw [if_neg (by omega), if_pos h2] at hx
    simp [inB] at hx
    exact okB_wiF bs _ (by omega) hok torn
  · rw [if_neg h2]
    by_cases h3 : x.kind = 3
    · rw [if_pos h3]
      rw [if_neg (by omega), if_neg h2, if_pos h3] at hx
      simp [inB] at hx
      exact okB_wrF bs _ (by omega) hok torn _ hx.2
    · rw [if_neg h3]; exact hok
theorem len_doD (dk : List Int) (x : Stp) (torn : Bool) : (doD dk x torn).length = dk.length := by
  unfold doD; split
  · split <;> simp
  · rfl
def toF (bs : List Bk) : List Stp → List Bk | [] => bs | x :: r => toF (doF bs x false) r
def toD (dk : List Int) : List Stp → List Int | [] => dk | x :: r => toD (doD dk x false) r
end Go.Proofs.Ytogfelpdgeionaa.Pl
