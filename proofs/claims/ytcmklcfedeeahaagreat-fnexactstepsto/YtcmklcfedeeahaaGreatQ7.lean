/-
  Texts that belong together, one behind the other: SpecF, SpecG, SpecH, Pl, FindP, Gd, ImplO, SpecX, ImplW, SpecY, ImplX.
-/
import Derived.Test.YtcmklcfedeeahaaGreatQ6
import Derived.Deep.Cut

/-
  The specification's finding: the greatest number of a block's records.
-/
namespace Go.Proofs.YtcmklcfedeeahaaGreat.SpecF
open Go.ChangeShapes Go.WideShapes Go.ChangeAt Go.RowKit OkA Big Fl ImplB ImplF ImplS Own ImplT ImplU SpecA SpecB
set_option linter.unusedVariables false
set_option linter.unusedSimpArgs false

def mx (m s : Int) : Int := if m < s then s else m
def mostN (ps : List Pg) : Int := ps.foldl (fun m p => mx m p.s) 0
theorem mostN_take (ps : List Pg) (j : Nat) (hj : j < ps.length) : mostN (ps.take (j + 1)) = mx (mostN (ps.take j)) ps[j].s := by
  unfold mostN
  rw [List.take_succ_eq_append_getElem hj, List.foldl_append]
  rfl

set_option maxHeartbeats 1000000 in
theorem most_any (a : Option Addr) (cap : Nat) (ps : List Pg) (wn : Int) (w : World) (h : PsAt w a ps) (hl : ps.length ≤ 1048576) :
    Calls Tryz.prog 60 #[.agg #[.slice a ps.length cap, .int .i64 wn]] w fun e w' => e = .returned (.int .i64 (mostN ps)) ∧ Below w.heap.size w w' := by
  have B0 : Below w.heap.size w (w.alloc (.cells #[.slice a ps.length cap, .int .i64 wn] 103)) := (Below.refl _ _).alloc (Nat.le_refl _) _
  have H := hide (h.below B0)
  have c0 : (w.alloc (.cells #[.slice a ps.length cap, .int .i64 wn] 103)).cell? ⟨w.heap.size, 0, none⟩ = some (.slice a ps.length cap) := by
    rw [World.cell?_alloc_at _ _ _ _ rfl]; rfl
  have HN : Hid (mostN (ps.take ps.length) = mostN ps) := by show _ = _; rw [List.take_of_length_le (Nat.le_refl _)]
  clear h
  generalize hn : ps.length = n at *
  have HL := hide hn
  clear hn
  have hli : (n : Int) ≤ 1048576 := by omega
  go_enter Tryz.func60, Tryz.ntmps60
  go_wp2
  generalize w.alloc (.cells #[.slice a n cap, .int .i64 wn] 103) = w1 at *
  go_loop [3, 4] (fun m i => ∃ k : Nat, k ≤ n ∧ i = .int .i64 k ∧ m = .int .i64 (mostN (ps.take k))) (fun _ i => n - (intOf i).toNat)
  case atStart => exact ⟨0, by omega, rfl, rfl⟩
  case round =>
    obtain ⟨k, hk, rfl, rfl⟩ := hrel
    by_cases h0 : k = n
    · subst h0
      go_wp2
      go_ret
      exact ⟨by rw [← unhide HN]; rfl, B0⟩
    · have hlt : (k : Int) < (n : Int) := by omega
      have hkb : k < ps.length := by have := unhide HL; omega
      have hlo : (0 : Int) ≤ (k : Int) := by omega
      obtain ⟨b1, o1, rfl, g1⟩ : ∃ b o, a = some ⟨b, o, none⟩ ∧ w1.rangeAt b o (psC ps) := by
        rcases unhide H with rfl | h
        · simp at hkb
        · exact h
      have d2 := (PsAt.cells g1 k hkb).2.2.1
      have HT := hide (mostN_take ps k hkb)
      clear g1
      generalize ps[k].s = s at *
      generalize hm : mostN (ps.take k) = m at *
      go_wp2
      go_round
      case rel => exact ⟨k + 1, by omega, by first | rfl | go_num, by rw [unhide HT]; rfl⟩
      case measure => simp [intOf]; omega

def mostB (bs : List Bk) : Int := bs.foldl (fun m b => mx m (mostN b.ps)) 0
theorem mostB_take (bs : List Bk) (j : Nat) (hj : j < bs.length) : mostB (bs.take (j + 1)) = mx (mostB (bs.take j)) (mostN bs[j].ps) := by
  unfold mostB
  rw [List.take_succ_eq_append_getElem hj, List.foldl_append]
  rfl
theorem here : True := trivial
end Go.Proofs.YtcmklcfedeeahaaGreat.SpecF

/-
  The specification's finding: the eldest block.
-/
namespace Go.Proofs.YtcmklcfedeeahaaGreat.SpecG
open Go.ChangeShapes Go.WideShapes Go.ChangeAt Go.RowKit OkA Big Fl ImplB ImplF ImplS Own ImplT ImplU SpecA SpecB SpecF
set_option linter.unusedVariables false
set_option linter.unusedSimpArgs false
attribute [local go_sem ↓] Go.wp_at_zero Go.wp_at_succ

/-- The first of the first k + 1 blocks whose greatest number is least. -/
def oldN (bs : List Bk) : Nat → Nat
  | 0 => 0
  | k + 1 => if mostN (bs.getD (k + 1) zBk).ps < mostN (bs.getD (oldN bs k) zBk).ps then k + 1 else oldN bs k
theorem oldN_le (bs : List Bk) (k : Nat) : oldN bs k ≤ k := by
  induction k with
  | zero => exact Nat.le_refl _
  | succ k ih => unfold oldN; split <;> omega
theorem getD_at (bs : List Bk) (k : Nat) (h : k < bs.length) : bs.getD k zBk = bs[k] := by rw [List.getD_eq_getElem?_getD, List.getElem?_eq_getElem h]; rfl
theorem blk_two {w : World} {b o : Nat} {x y : Value} (h0 : w.cell? ⟨b, o, none⟩ = some x) (h1 : w.cell? ⟨b, o + 1, none⟩ = some y) : w.rangeAt b o [x, y] := fun j v hv => by
  match j, hv with
  | 0, hv => (obtain rfl : v = x := by simpa using hv.symm); exact h0
  | 1, hv => (obtain rfl : v = y := by simpa using hv.symm); exact h1
  | n + 2, hv => simp at hv

theorem here : True := trivial
end Go.Proofs.YtcmklcfedeeahaaGreat.SpecG

/-
  The specification's finding: the block on which the next record is to be written.
-/
namespace Go.Proofs.YtcmklcfedeeahaaGreat.SpecH
open Go.ChangeShapes Go.WideShapes Go.ChangeAt Go.RowKit OkA Big Fl ImplB ImplF ImplS Own ImplT ImplU SpecA SpecB SpecF SpecG
set_option linter.unusedVariables false
set_option linter.unusedSimpArgs false
attribute [local go_sem ↓] Go.wp_at_zero Go.wp_at_succ

/-- What is told of the blocks from the i-th on, if out is the best that was met so far (-1: none). -/
def openF (bs : List Bk) : List Bk → Nat → Int → Int × Bool
  | [], _, out => (if out < 0 then 0 else out, decide (0 ≤ out))
  | b :: r, i, out => if 0 < cleanN b.ps ∧ cleanN b.ps < 4 then ((i : Int), true) else openF bs r (i + 1) (if 0 < cleanN b.ps ∧ (out < 0 ∨ b.wn < (bs.getD out.toNat zBk).wn) then (i : Int) else out)
def openR (bs : List Bk) : Int × Bool := openF bs bs 0 (-1)
theorem cleanN_le (ps : List Pg) : cleanN ps ≤ ps.length := List.length_filter_le _ _
def OpPost (w : World) (R : Int × Bool) (e : Ending) (w' : World) : Prop := e = .returned (.tuple #[.int .i64 R.1, .bool R.2]) ∧ Below w.heap.size w w'

theorem here : True := trivial
end Go.Proofs.YtcmklcfedeeahaaGreat.SpecH

/-
  Plain lists: the last record of an address, what lives, steps, what they do, what happens. Nothing here walks the program.
-/
namespace Go.Proofs.YtcmklcfedeeahaaGreat.Pl
open Go.ChangeShapes Go.WideShapes Go.ChangeAt Go.RowKit OkA Big Fl ImplB ImplF ImplS Own ImplT ImplU SpecA SpecB SpecC SpecD SpecW SpecF SpecG SpecH Ok2
set_option linter.unusedVariables false
set_option linter.unusedSimpArgs false

/-- A record. -/
structure Rc where
  k : Int
  s : Int
  a : Int
  v : Int
def zRc : Rc := ⟨0, 0, 0, 0⟩
def rcC (r : Rc) : List Value := [.int .i64 r.k, .int .i64 r.s, .int .i64 r.a, .int .i64 r.v]
def pgRc (p : Pg) : Rc := ⟨p.k, p.s, p.a, p.v⟩
def eqRc (r q : Rc) : Bool := r.k == q.k && r.s == q.s && r.a == q.a && r.v == q.v
theorem eqRc_iff (r q : Rc) : eqRc r q = true ↔ r = q := by
  cases r; cases q; simp [eqRc, and_assoc]
/-- The page is a later record of the address. -/
def laterB (addr : Int) (o : Rc) (p : Pg) : Bool := p.st == 1 && p.a == addr && decide (o.s < p.s)
def lastS (addr : Int) (o : Rc) (p : Pg) : Rc := if laterB addr o p then pgRc p else o
def lastP (addr : Int) (o : Rc) (ps : List Pg) : Rc := ps.foldl (lastS addr) o
def lastF (addr : Int) (o : Rc) (bs : List Bk) : Rc := bs.foldl (fun o b => lastP addr o b.ps) o
def lastR (bs : List Bk) (addr : Int) : Rc := lastF addr zRc bs
def lastO (bs : List Bk) (addr : Int) : Bool := decide (0 < (lastR bs addr).s)
theorem lastP_take (addr : Int) (o : Rc) (ps : List Pg) (j : Nat) (hj : j < ps.length) : lastP addr o (ps.take (j + 1)) = lastS addr (lastP addr o (ps.take j)) ps[j] := by
  unfold lastP
  rw [List.take_succ_eq_append_getElem hj, List.foldl_append]; rfl
theorem lastF_take (addr : Int) (o : Rc) (bs : List Bk) (j : Nat) (hj : j < bs.length) : lastF addr o (bs.take (j + 1)) = lastP addr (lastF addr o (bs.take j)) bs[j].ps := by
  unfold lastF
  rw [List.take_succ_eq_append_getElem hj, List.foldl_append]; rfl
/-- The page has the last record of its address. -/
def liveB (bs : List Bk) (p : Pg) : Bool := p.st == 1 && eqRc (lastR bs p.a) (pgRc p)

/-- A step. -/
structure Stp where
  kind : Int
  addr : Int
  val : Int
  blk : Int
  r : Rc
def stC (x : Stp) : List Value := [.int .i64 x.kind, .int .i64 x.addr, .int .i64 x.val, .int .i64 x.blk, .int .i64 x.r.k, .int .i64 x.r.s, .int .i64 x.r.a, .int .i64 x.r.v]
def stsC (l : List Stp) : List Value := l.flatMap stC
theorem len_stsC (l : List Stp) : (stsC l).length = l.length * 8 := by
  unfold stsC; induction l with
  | nil => rfl
  | cons x r ih => simp only [List.flatMap_cons, List.length_append, ih, List.length_cons, stC, List.length_nil]; omega
def zSt : Stp := ⟨0, 0, 0, 0, zRc⟩
def diskS (addr val : Int) : Stp := ⟨1, addr, val, 0, zRc⟩
def wipeS (b : Int) : Stp := ⟨2, 0, 0, b, zRc⟩
def writeS (b : Int) (r : Rc) : Stp := ⟨3, 0, 0, b, r⟩
/-- The slow disk is told what is dirty and lives on these pages. -/
def tellP (bs : List Bk) (ps : List Pg) : List Stp := ps.filterMap fun p => if liveB bs p && p.k == 1 then some (diskS p.a p.v) else none
def oldB (bs : List Bk) : Nat := oldN bs 3
def roomL (bs : List Bk) : List Stp := if (openR bs).2 then [] else tellP bs (bs.getD (oldB bs) zBk).ps ++ [wipeS (oldB bs)]
def roomB (bs : List Bk) : Int := if (openR bs).2 then (openR bs).1 else oldB bs
def roomO (bs : List Bk) : Bool := (openR bs).2 || decide ((bs.getD (oldB bs) zBk).wn < 200)
def writeP (bs : List Bk) (kind addr val : Int) : List Stp :=
  if roomO bs && recB kind (mostB bs + 1) addr val then roomL bs ++ [writeS (roomB bs) ⟨kind, mostB bs + 1, addr, val⟩] else []
def dirtyB (bs : List Bk) (addr : Int) : Bool := lastO bs addr && (lastR bs addr).k == 1
def readI (bs : List Bk) (dk : List Int) (addr : Int) : Int := if lastO bs addr then (lastR bs addr).v else dk.getD (addr - 1).toNat 0
def flushP (bs : List Bk) (dk : List Int) (addr : Int) : List Stp :=
  if inB addr 1 6 && dirtyB bs addr then (if (writeP bs 2 addr (readI bs dk addr)).isEmpty then [] else diskS addr (readI bs dk addr) :: writeP bs 2 addr (readI bs dk addr)) else []
def fillP (bs : List Bk) (dk : List Int) (addr : Int) : List Stp :=
  if inB addr 1 6 && !lastO bs addr then writeP bs 2 addr (dk.getD (addr - 1).toNat 0) else []

/-- A step that can be done without harm. -/
def stpB (x : Stp) : Bool := if x.kind = 1 then inB x.addr 1 6 else if x.kind = 2 then inB x.blk 0 3 else if x.kind = 3 then inB x.blk 0 3 && recB x.r.k x.r.s x.r.a x.r.v else true
def wrF (bs : List Bk) (k : Nat) (r : Rc) (torn : Bool) : List Bk := if wrN bs k r.s then bs else wrL bs k (pgW torn r.k r.s r.a r.v)
def wiF (bs : List Bk) (k : Nat) (torn : Bool) : List Bk := if wiN bs k then bs else wiL bs k torn
def doF (bs : List Bk) (x : Stp) (torn : Bool) : List Bk := if x.kind = 2 then wiF bs x.blk.toNat torn else if x.kind = 3 then wrF bs x.blk.toNat x.r torn else bs
def doD (dk : List Int) (x : Stp) (torn : Bool) : List Int := if x.kind = 1 then (if torn then dk else dk.set (x.addr - 1).toNat x.val) else dk
theorem okB_wrF (bs : List Bk) (k : Nat) (hk : k < 4) (hok : okB bs = true) (torn : Bool) (r : Rc) (hr : recB r.k r.s r.a r.v = true) : okB (wrF bs k r torn) = true := by
  unfold wrF
  cases h : wrN bs k r.s
  · exact okB_wr bs k hk hok torn _ _ _ _ hr h
  · exact hok
theorem okB_wiF (bs : List Bk) (k : Nat) (hk : k < 4) (hok : okB bs = true) (torn : Bool) : okB (wiF bs k torn) = true := by
  unfold wiF
  cases h : wiN bs k
  · exact okB_wi bs k hk hok torn h
  · exact hok
theorem okB_doF (bs : List Bk) (x : Stp) (torn : Bool) (hok : okB bs = true) (hx : stpB x = true) : okB (doF bs x torn) = true := by
  unfold doF; unfold stpB at hx
  by_cases h2 : x.kind = 2
  · rw [if_pos h2]
    rw [if_neg (by omega), if_pos h2] at hx
    simp [inB] at hx
    exact okB_wiF bs _ (by omega) hok torn
  · rw [if_neg h2]
    by_cases h3 : x.kind = 3
    · rw [if_pos h3]
      rw [if_neg (by omega), if_neg h2, if_pos h3] at hx
      simp [inB] at hx
      exact okB_wrF bs _ (by omega) hok torn _ hx.2
    · rw [if_neg h3]; exact hok
theorem len_doD (dk : List Int) (x : Stp) (torn : Bool) : (doD dk x torn).length = dk.length := by
  unfold doD; split
  · split <;> simp
  · rfl
def toF (bs : List Bk) : List Stp → List Bk | [] => bs | x :: r => toF (doF bs x false) r
def toD (dk : List Int) : List Stp → List Int | [] => dk | x :: r => toD (doD dk x false) r
end Go.Proofs.YtcmklcfedeeahaaGreat.Pl

/-
  Plain lists: the written pages one behind the other, and what is reckoned of them: the last record of an address, the least and the greatest number of each block. Nothing here walks the program.
-/
namespace Go.Proofs.YtcmklcfedeeahaaGreat.FindP
open Go.ChangeShapes Go.WideShapes Go.ChangeAt Go.RowKit OkA Big Fl ImplB ImplF ImplS Own ImplT ImplU SpecA SpecB SpecC SpecD SpecW SpecF SpecG SpecH Ok2 Pl
set_option linter.unusedVariables false
set_option linter.unusedSimpArgs false

/-- A page that is written, and on which block. -/
abbrev Wr := Fin 4 × Rc
def wrO (i : Fin 4) (p : Pg) : List Wr := if p.st = 1 then [(i, pgRc p)] else []
def wrP (i : Fin 4) (ps : List Pg) : List Wr := ps.flatMap (wrO i)
def blks (bs : List Bk) : List (Fin 4 × Bk) := (List.finRange 4).zip bs
def wrA (l : List (Fin 4 × Bk)) : List Wr := l.flatMap fun x => wrP x.1 x.2.ps
theorem wrP_take (i : Fin 4) (ps : List Pg) (j : Nat) (hj : j < ps.length) : wrP i (ps.take (j + 1)) = wrP i (ps.take j) ++ wrO i ps[j] := by
  unfold wrP
  rw [List.take_succ_eq_append_getElem hj, List.flatMap_append]; simp
theorem wrA_take (l : List (Fin 4 × Bk)) (k : Nat) (hk : k < l.length) : wrA (l.take (k + 1)) = wrA (l.take k) ++ wrP l[k].1 l[k].2.ps := by
  unfold wrA
  rw [List.take_succ_eq_append_getElem hk, List.flatMap_append]; simp
theorem blks_len (bs : List Bk) (h : bs.length = 4) : (blks bs).length = 4 := by simp [blks, h]
theorem blks_at (bs : List Bk) (h : bs.length = 4) (k : Nat) (hk : k < 4) : (blks bs)[k]'(by rw [blks_len bs h]; exact hk) = (⟨k, hk⟩, bs[k]'(by omega)) := by
  simp [blks]
theorem wrO_len (i : Fin 4) (p : Pg) : (wrO i p).length ≤ 1 := by unfold wrO; split <;> simp
theorem wrP_len (i : Fin 4) (ps : List Pg) : (wrP i ps).length ≤ ps.length := by
  induction ps with
  | nil => simp [wrP]
  | cons p r ih =>
    have := wrO_len i p
    simp only [wrP, List.flatMap_cons, List.length_append, List.length_cons] at ih ⊢
    omega
theorem wrA_len (l : List (Fin 4 × Bk)) (n : Nat) (h : ∀ x ∈ l, x.2.ps.length ≤ n) : (wrA l).length ≤ l.length * n := by
  induction l with
  | nil => simp [wrA]
  | cons x r ih =>
    have h1 := wrP_len x.1 x.2.ps
    have h2 := h x (by simp)
    have h3 := ih fun y hy => h y (by simp [hy])
    simp only [wrA, List.flatMap_cons, List.length_append, List.length_cons, Nat.add_mul] at h3 ⊢
    omega

/-! The last record of an address. -/
def lstS (addr : Int) (o r : Rc) : Rc := if r.a = addr ∧ o.s < r.s then r else o
def lstW (addr : Int) (o : Rc) (l : List Wr) : Rc := l.foldl (fun o x => lstS addr o x.2) o
theorem lstW_app (addr : Int) (o : Rc) (l m : List Wr) : lstW addr o (l ++ m) = lstW addr (lstW addr o l) m := by simp [lstW]
theorem lstW_one (addr : Int) (o : Rc) (l : List Wr) (x : Wr) : lstW addr o (l ++ [x]) = lstS addr (lstW addr o l) x.2 := by simp [lstW]
theorem lstW_P (addr : Int) (i : Fin 4) (ps : List Pg) : ∀ o, lstW addr o (wrP i ps) = lastP addr o ps := by
  induction ps with
  | nil => intro o; rfl
  | cons p r ih =>
    intro o
    have e : wrP i (p :: r) = wrO i p ++ wrP i r := rfl
    rw [e, lstW_app, ih]
    show lastP addr (lstW addr o (wrO i p)) r = lastP addr (lastS addr o p) r
    congr 1
    unfold wrO lastS laterB
    by_cases h1 : p.st = 1
    · rw [if_pos h1]
      simp only [lstW, List.foldl_cons, List.foldl_nil, lstS]
      by_cases h2 : (pgRc p).a = addr ∧ o.s < (pgRc p).s
      · rw [if_pos h2, if_pos (by simp [h1]; exact h2)]
      · rw [if_neg h2, if_neg (by simp [h1]; intro h; have := fun h' => h2 ⟨h, h'⟩; simpa [pgRc] using this)]
    · rw [if_neg h1, if_neg (by simp [h1])]; rfl
theorem lstW_A (addr : Int) (l : List (Fin 4 × Bk)) : ∀ o, lstW addr o (wrA l) = lastF addr o (l.map (·.2)) := by
  induction l with
  | nil => intro o; rfl
  | cons x r ih =>
    intro o
    have e : wrA (x :: r) = wrP x.1 x.2.ps ++ wrA r := rfl
    rw [e, lstW_app, ih, lstW_P]; rfl
theorem blks_map (bs : List Bk) (h : bs.length = 4) : (blks bs).map (·.2) = bs := by
  unfold blks
  rw [List.map_snd_zip]
  simp [h]
theorem lstW_all (addr : Int) (bs : List Bk) (h : bs.length = 4) : lstW addr zRc (wrA (blks bs)) = lastR bs addr := by
  rw [lstW_A, blks_map bs h]; rfl

/-! The least and the greatest number of each block. -/
abbrev Sp := Int × Int
def spC (x : Sp) : List Value := [.int .i64 x.1, .int .i64 x.2]
def spsC (l : List Sp) : List Value := l.flatMap spC
theorem len_spsC (l : List Sp) : (spsC l).length = l.length * 2 := by
  unfold spsC; induction l with
  | nil => rfl
  | cons x r ih => simp only [List.flatMap_cons, List.length_append, ih, List.length_cons, spC, List.length_nil]; omega
def withS (x : Sp) (s : Int) : Sp := if x.2 = 0 then (s, s) else (if s < x.1 then s else x.1, if x.2 < s then s else x.2)
def spS (l : List Sp) (x : Wr) : List Sp := l.set x.1 (withS (l.getD x.1 (0, 0)) x.2.s)
def spW (l : List Sp) (xs : List Wr) : List Sp := xs.foldl spS l
def zSp : List Sp := [(0, 0), (0, 0), (0, 0), (0, 0)]
theorem spW_one (l : List Sp) (xs : List Wr) (x : Wr) : spW l (xs ++ [x]) = spS (spW l xs) x := by simp [spW]
theorem spW_app (l : List Sp) (xs ys : List Wr) : spW l (xs ++ ys) = spW (spW l xs) ys := by simp [spW]
theorem spS_len (l : List Sp) (x : Wr) : (spS l x).length = l.length := by simp [spS]
theorem spW_len (l : List Sp) (xs : List Wr) : (spW l xs).length = l.length := by
  unfold spW
  induction xs generalizing l with
  | nil => rfl
  | cons x r ih => rw [List.foldl_cons, ih, spS_len]
/-- What one block's numbers are, from which to which. -/
def spP (x : Sp) (ps : List Pg) : Sp := (seqsP ps).foldl withS x
def spB (b : Bk) : Sp := spP (0, 0) b.ps
theorem spW_P (i : Fin 4) (ps : List Pg) : ∀ l : List Sp, l.length = 4 → spW l (wrP i ps) = l.set i (spP (l.getD i (0, 0)) ps) := by
  induction ps with
  | nil =>
    intro l h
    have hi : (i : Nat) < l.length := by omega
    show l = l.set i ((seqsP []).foldl withS (l.getD i (0, 0)))
    simp [seqsP, hi]
  | cons p r ih =>
    intro l h
    have hi : (i : Nat) < l.length := by omega
    have e : wrP i (p :: r) = wrO i p ++ wrP i r := rfl
    rw [e, spW_app]
    unfold wrO
    by_cases h1 : p.st = 1
    · rw [if_pos h1]
      have e2 : spW l [(i, pgRc p)] = l.set i (withS (l.getD i (0, 0)) p.s) := rfl
      rw [e2, ih _ (by simpa using h)]
      simp [spP, seqsP, List.filterMap_cons, seqP_w h1, hi]
    · rw [if_neg h1]
      have e2 : spW l [] = l := rfl
      rw [e2, ih _ h]
      simp [spP, seqsP, List.filterMap_cons, seqP_n h1]
theorem spW_all (bs : List Bk) (h : bs.length = 4) : spW zSp (wrA (blks bs)) = bs.map spB := by
  obtain ⟨a, b, c, d, rfl⟩ := list_four h
  have e : wrA (blks [a, b, c, d]) = wrP 0 a.ps ++ (wrP 1 b.ps ++ (wrP 2 c.ps ++ (wrP 3 d.ps ++ []))) := rfl
  rw [e, List.append_nil, spW_app, spW_P 0 a.ps zSp rfl, spW_app, spW_P 1 b.ps _ (by simp [zSp]), spW_app, spW_P 2 c.ps _ (by simp [zSp]), spW_P 3 d.ps _ (by simp [zSp])]
  rfl

/-! The same, as the specification reckons it. -/
def lsS (n s : Int) : Int := if 0 < s ∧ (n = 0 ∨ s < n) then s else n
def leastN (ps : List Pg) : Int := ps.foldl (fun n p => lsS n p.s) 0
theorem leastN_take (ps : List Pg) (j : Nat) (hj : j < ps.length) : leastN (ps.take (j + 1)) = lsS (leastN (ps.take j)) ps[j].s := by
  unfold leastN
  rw [List.take_succ_eq_append_getElem hj, List.foldl_append]; rfl
/-- A page of an ok block has a number just if it is written. -/
theorem pg_seq {p : Pg} (h : pgB p = true) : (p.st = 1 ∧ 1 ≤ p.s ∧ p.s ≤ 600) ∨ (p.st ≠ 1 ∧ p.s = 0) := by
  unfold pgB at h
  by_cases h1 : p.st = 1
  · rw [if_pos h1] at h
    simp [recB, numB, inB] at h
    exact .inl ⟨h1, by omega, by omega⟩
  · rw [if_neg h1] at h
    have hn : noB p = true := by
      by_cases h0 : p.st = 0
      · rwa [if_pos h0] at h
      · rw [if_neg h0] at h
        by_cases h2 : p.st = 2
        · rwa [if_pos h2] at h
        · rw [if_neg h2] at h; cases h
    simp [noB] at hn
    exact .inr ⟨h1, by omega⟩
theorem sp_fold (ps : List Pg) (h : ∀ p ∈ ps, pgB p = true) : ∀ (n m : Int), 0 ≤ n → n ≤ m → (n = 0 ↔ m = 0) →
    spP (n, m) ps = (ps.foldl (fun n p => lsS n p.s) n, ps.foldl (fun m p => mx m p.s) m) ∧ 0 ≤ (spP (n, m) ps).1 ∧ (spP (n, m) ps).1 ≤ (spP (n, m) ps).2 ∧ ((spP (n, m) ps).1 = 0 ↔ (spP (n, m) ps).2 = 0) := by
  induction ps with
  | nil => intro n m h0 h1 h2; exact ⟨rfl, h0, h1, h2⟩
  | cons p r ih =>
    intro n m h0 h1 h2
    have ih' := ih fun q hq => h q (by simp [hq])
    rcases pg_seq (h p (by simp)) with ⟨hp, hs, _⟩ | ⟨hp, hs⟩
    · have e : spP (n, m) (p :: r) = spP (withS (n, m) p.s) r := by simp [spP, seqsP, List.filterMap_cons, seqP_w hp]
      have e1 : withS (n, m) p.s = (lsS n p.s, mx m p.s) := by
        unfold withS lsS mx
        by_cases hm : m = 0
        · have hn : n = 0 := h2.2 hm
          subst hm hn
          simp only [if_true]
          rw [if_pos (by refine ⟨by omega, ?_⟩; simp), if_pos (by omega)]
        · have hn : n ≠ 0 := fun q => hm (h2.1 q)
          simp only [hm, if_false]
          congr 1
          by_cases hl : p.s < n
          · rw [if_pos hl, if_pos ⟨by omega, .inr hl⟩]
          · rw [if_neg hl, if_neg (by omega)]
      rw [e, e1]
      simp only [List.foldl_cons]
      refine ih' _ _ ?_ ?_ ?_
      · unfold lsS; split <;> omega
      · unfold lsS mx; split <;> split <;> omega
      · unfold lsS mx; split <;> split <;> omega
    · have e : spP (n, m) (p :: r) = spP (n, m) r := by simp [spP, seqsP, List.filterMap_cons, seqP_n hp]
      have e1 : lsS n p.s = n := by unfold lsS; rw [if_neg (by omega)]
      have e2 : mx m p.s = m := by unfold mx; rw [if_neg (by omega)]
      rw [e]
      simp only [List.foldl_cons, e1, e2]
      exact ih' n m h0 h1 h2
theorem spB_eq {b : Bk} (h : ∀ p ∈ b.ps, pgB p = true) : spB b = (leastN b.ps, mostN b.ps) ∧ 0 ≤ leastN b.ps ∧ leastN b.ps ≤ mostN b.ps ∧ (leastN b.ps = 0 ↔ mostN b.ps = 0) := by
  have := sp_fold b.ps h 0 0 (by omega) (by omega) (by simp)
  have e : spB b = (leastN b.ps, mostN b.ps) := this.1
  have e2 : spP (0, 0) b.ps = (leastN b.ps, mostN b.ps) := this.1
  rw [e2] at this
  exact ⟨e, this.2⟩
theorem ok_pages {bs : List Bk} (h : okB bs = true) : ∀ b ∈ bs, ∀ p ∈ b.ps, pgB p = true := fun b hb => ((bkB_iff b).1 (((okB_iff bs).1 h).2.1 b hb)).2.2.1
end Go.Proofs.YtcmklcfedeeahaaGreat.FindP

/-
  Regions that draw their order and hold guards: an operation whose guard is a truth value that is not known, taken all the same. Nothing here speaks of the program.
-/
namespace Go.Proofs.YtcmklcfedeeahaaGreat.Gd
open Go.ChangeShapes Go.WideShapes Go.ChangeAt Go.RowKit Big
set_option linter.unusedVariables false
variable {P : Program} {ops : Array Oper} {o : Oper} {a : Act} {w : World} {Q : Exit → Act → World → Prop}

def onlyIf (b : Bool) (v : Value) : Value := if b then v else undef
theorem onlyIf_t (v : Value) : onlyIf true v = v := rfl
theorem onlyIf_f (v : Value) : onlyIf false v = undef := rfl
/-- An operation that only yields, under a guard b. -/
theorem takeG {l : List Oper} {md : Region.Mode} {S : World → Prop} (i : Nat) {oi : Oper} (b : Bool) (v : Value) {fuel : Nat} {listed : Array Bool} (hi : nth l i = some oi)
    (hs : Region.noSelect l.toArray = true) (hf : Region.free md l.toArray listed i = true) (hr : (Region.ready md l.toArray listed).contains i = true)
    (hQ : ∀ c a w, Q (.panic c) (a.put oi.dst (onlyIf b v)) w → Q (.panic c) a w) (hw : Region.wanted oi (yielded l.toArray a.tmps) = b)
    (hy : b = true → ∀ w, S w → (execOp a.eval oi).run P w = .ok (.value v) w) (hS : S w)
    (h : wpAnyH P md l.toArray Q S fuel (listed.setIfInBounds i true) (a.put oi.dst (onlyIf b v)) w) : wpAnyH P md l.toArray Q S (fuel + 1) listed a w := by
  refine takeL i (onlyIf b v) hi hs hf hr hQ ?_ hS h
  cases b
  · exact .inr ⟨hw, rfl⟩
  · exact .inl ⟨hw, hy rfl⟩
/-- A call under a guard b: where it is not made the world stands. -/
theorem callG {l : List Oper} {md : Region.Mode} {S : World → Prop} (i : Nat) {o : Oper} (b : Bool) (v : Value) {fuel : Nat} {listed : Array Bool} (hi : nth l i = some o) (hr : Region.ready md l.toArray listed = [i])
    (hw : Region.wanted o (yielded l.toArray a.tmps) = b) (hS : S w)
    (hy : b = true → ∀ K' : Act → World → Prop, Shut (∀ w', S w' → K' (a.put o.dst v) w') → Oper.wp P o a w K' Q)
    (h : ∀ w', S w' → wpAnyH P md l.toArray Q S fuel (listed.setIfInBounds i true) (a.put o.dst (onlyIf b v)) w') : wpAnyH P md l.toArray Q S (fuel + 1) listed a w := by
  refine wpAnyH_ready hr (by simp) (AllReadyH.cons (nth_spec l i o hi) (fun K hK => ?_) AllReadyH.nil)
  cases b
  · rw [if_neg (by rw [hw]; simp)]
    exact hK.out _ _ hS (fun _ => h w hS)
  · rw [if_pos hw]
    exact hy rfl K (fun w' hS' => hK.out _ _ hS' (fun _ => h w' hS'))
end Go.Proofs.YtcmklcfedeeahaaGreat.Gd

/-
  The program's finding of the block on which the next record is to be written.
-/
namespace Go.Proofs.YtcmklcfedeeahaaGreat.ImplO
open Go.ChangeShapes Go.WideShapes Go.ChangeAt Go.RowKit OkA Big Fl ImplB ImplF ImplS Own ImplT ImplU SpecA SpecB SpecC SpecD SpecW SpecF SpecG SpecH Ok2
set_option linter.unusedVariables false
set_option linter.unusedSimpArgs false
attribute [local go_sem ↓] Go.wp_at_zero Go.wp_at_succ

def begB (b : Bk) : Bool := inB (usedN b.ps) 1 3
set_option maxHeartbeats 400000 in
theorem begun_any (b : Bk) (h4 : b.ps.length = 4) (w : World) :
    Calls Tryz.prog 95 #[.agg (bkC b).toArray] w fun e w' => e = .returned (.bool (begB b)) ∧ Below w.heap.size w w' := by
  have r0 := rangeAt_new w (bkC b) 64
  have b0 : Below w.heap.size w (w.alloc (.cells (bkC b).toArray 64)) := (Below.refl _ _).alloc (Nat.le_refl _) _
  have HB : Hid (begB b = inB (usedN b.ps) 1 3) := rfl
  have HS := hide (size_bkl h4)
  have HI := hide (fun (w' : World) => within_any (usedN b.ps) 1 3 w')
  go_enter Tryz.func95, Tryz.ntmps95
  go_wp2_with (first | (refine wpList_box_big rfl _ _ rfl (bkC b).toArray rfl ?_) | (refine wpList_load_mid rfl 64 _ rfl w.heap.size 0 rfl (bkC b) _ r0 Tryz.underlying64 rfl (unhide HS) ?_))
  refine (used_any b h4 _).mono ?_
  rintro e w1 ⟨rfl, b1⟩
  have B1 := b0.trans (b1.mono b0.size)
  clear b0 b1 r0
  generalize inB (usedN b.ps) 1 3 = x at *
  go_wp2_with (go_at_call 68; refine (unhide HI _).mono ?_; rintro e w' ⟨rfl, hw'⟩; obtain rfl := hw'.symm)
  go_ret
  exact ⟨by rw [unhide HB]; rfl, B1⟩

/-- What the program tells of the blocks from the i-th on, if o is the best that was met so far (f: whether there is one). -/
def openG (bs : List Bk) : List Bk → Nat → Nat → Bool → Int × Bool
  | [], _, o, f => (o, f)
  | b :: r, i, o, f => if begB b then ((i : Int), true) else if usedN b.ps = 0 ∧ (f = false ∨ b.wn < (bs.getD o zBk).wn) then openG bs r (i + 1) i true else openG bs r (i + 1) o f
def openI (bs : List Bk) : Int × Bool := openG bs bs 0 0 false

theorem here : True := trivial
end Go.Proofs.YtcmklcfedeeahaaGreat.ImplO

/-
  The specification's FlashWipe, for every list of blocks.
-/
namespace Go.Proofs.YtcmklcfedeeahaaGreat.SpecX
open Go.ChangeShapes Go.WideShapes Go.ChangeAt Go.RowKit OkA Big Fl ImplB ImplF ImplS Own ImplT ImplU SpecA SpecB SpecC SpecD SpecW
set_option linter.unusedVariables false
set_option linter.unusedSimpArgs false

/-- What FlashWipe answers. -/
def wiR (bs : List Bk) (blk : Int) (torn : Bool) : List Bk :=
  if okB bs && inB blk 0 3 then (if wiN bs blk.toNat then bs else wiL bs blk.toNat torn) else []
def wiO (bs : List Bk) (blk : Int) : Bool := okB bs && inB blk 0 3 && !wiN bs blk.toNat
theorem wiL_len {bs : List Bk} {k : Nat} {t : Bool} : (wiL bs k t).length = bs.length := by simp [wiL]
theorem wiL_fours {bs : List Bk} (h : Fours bs) {k : Nat} {t : Bool} : Fours (wiL bs k t) := fun b hb => by
  rcases List.mem_or_eq_of_mem_set hb with h' | rfl
  · exact h b h'
  · simp [wiB]
theorem fs_at {w : World} {a : Option Addr} {bs : List Bk} (hf : FsAt w a bs) (h : bs.length = 4) : ∃ b o, a = some ⟨b, o, none⟩ ∧ ∀ i (hi : i < bs.length), BkAt w b (o + i * 2) bs[i] := by
  rcases hf with rfl | h'
  · simp at h
  · exact h'
theorem copy4 (fb fo cap : Nat) (bs : List Bk) (w : World) (hF : Fours bs) (h4 : bs.length = 4) (hf : ∀ i (hi : i < bs.length), BkAt w fb (fo + i * 2) bs[i]) :
    Calls Tryz.prog 42 #[.slice (some ⟨fb, fo, none⟩) 4 cap] w fun e w' => ∃ g G c, e = .returned (.slice (some ⟨g, 0, none⟩) 4 c) ∧ Own w' w.heap.size g G bs 4 ∧ Below w.heap.size w w' := by
  have := copy_any fb fo cap bs w hF (by omega) hf (by omega)
  rwa [h4] at this

theorem here : True := trivial
end Go.Proofs.YtcmklcfedeeahaaGreat.SpecX

/-
  The program's FlashWipe, for every list of blocks.
-/
namespace Go.Proofs.YtcmklcfedeeahaaGreat.ImplW
open Go.ChangeShapes Go.WideShapes Go.ChangeAt Go.RowKit OkA Big Fl ImplB ImplF ImplS Own ImplT ImplU SpecA SpecB SpecC SpecD SpecW SpecX
set_option linter.unusedVariables false
set_option linter.unusedSimpArgs false
attribute [local go_sem ↓] Go.wp_at_zero Go.wp_at_succ

section
variable {P : Program} {rest : List Oper} {o : Oper} {a : Act} {w : World} {Q : Exit → Act → World → Prop}
/-- Two operations may come up. -/
theorem twoL {l : List Oper} {md : Region.Mode} {S : World → Prop} (i j : Nat) {oi oj : Oper} {fuel : Nat} {listed : Array Bool} (hi : nth l i = some oi) (hj : nth l j = some oj) (hr : Region.ready md l.toArray listed = [i, j])
    (hwi : Region.wanted oi (yielded l.toArray a.tmps) = true) (hwj : Region.wanted oj (yielded l.toArray a.tmps) = true)
    (h1 : ∀ K' : Act → World → Prop, Shut (∀ a w, S w → (S w → wpAnyH P md l.toArray Q S fuel (listed.setIfInBounds i true) a w) → K' a w) → Oper.wp P oi a w K' Q)
    (h2 : ∀ K' : Act → World → Prop, Shut (∀ a w, S w → (S w → wpAnyH P md l.toArray Q S fuel (listed.setIfInBounds j true) a w) → K' a w) → Oper.wp P oj a w K' Q) : wpAnyH P md l.toArray Q S (fuel + 1) listed a w :=
  wpAnyH_ready hr (by simp) (AllReadyH.cons (nth_spec l i oi hi) (fun K hK => by rw [if_pos hwi]; exact h1 K hK) (AllReadyH.cons (nth_spec l j oj hj) (fun K hK => by rw [if_pos hwj]; exact h2 K hK) AllReadyH.nil))
theorem wp_build_two {K : Act → World → Prop} (T : TypeId) (x y : Operand) (ho : o.op = .build T #[(0, x), (1, y)]) (vx vy : Value) (hx : a.eval x = vx) (hy : a.eval y = vy) (cs : Array Value) (hb : P.built T [(0, vx), (1, vy)] = some cs)
    (h : K (a.put o.dst (.agg cs)) w) : o.wp P a w K Q := by
  have hp : ((#[(0, x), (1, y)] : Array (Nat × Operand)).map fun (i, x) => (i, a.eval x)).toList = [(0, vx), (1, vy)] := by simp [hx, hy]
  exact wp_build T _ ho (by rw [hp, hb]; rfl) (by rw [hp, hb]; exact h)
end
theorem wiB_len (b : Bk) (t : Bool) : (wiB b t).ps.length = 4 := by simp [wiB]
theorem size_bkA {b : Bk} (h4 : b.ps.length = 4) : (Tryz.prog.info? 64).map (·.size) = some (bkC b).toArray.size := by rw [List.size_toArray, len_bkC b h4]; kernel_rfl

def RowPost (w : World) (p : Pg) (e : Ending) (w' : World) : Prop := e = .returned (.agg (psC (List.replicate 4 p)).toArray) ∧ Below w.heap.size w w'
set_option maxRecDepth 100000 in
set_option maxHeartbeats 1000000 in
theorem rowAll' (zs : List Pg) (h4 : zs.length = 4) (hz : (Tryz.prog.info? 62).bind (·.zero) = some (.agg (psC zs).toArray)) (p : Pg) (w : World) :
    Calls Tryz.prog 109 #[.agg (pgC p).toArray] w fun e w' => RowPost w p e w' := by
  have b0 : Below w.heap.size w (w.alloc (.cells (pgC p).toArray 59)) := (Below.refl _ _).alloc (Nat.le_refl _) _
  have b1 := (b0.alloc b0.size (.cells (psC zs).toArray 62))
  have b2 := (b1.alloc b1.size (.cells (psC zs).toArray 62))
  have rp := World.rangeAt_alloc (World.rangeAt_alloc (rangeAt_new w (pgC p) 59) (.cells (psC zs).toArray 62)) (.cells (psC zs).toArray 62)
  have t1 := World.there_alloc (there_new (w.alloc (.cells (pgC p).toArray 59)) (psC zs) 62) (.cells (psC zs).toArray 62)
  have t2 := there_new ((w.alloc (.cells (pgC p).toArray 59)).alloc (.cells (psC zs).toArray 62)) (psC zs) 62
  simp only [World.size_alloc] at t1 t2
  have hl : (psC zs).length = 20 := by rw [len_psC, h4]
  rw [hl] at t1 t2
  have HZ := hide hz
  have HS5 := hide (size_pg p)
  have HA5 := hide (size_pga p)
  have O5 := one_pg p
  have HST := hide (fun w' j => wipe_step w' (w.heap.size + 1 + 1) j p)
  have hpl : (pgC p).toArray.size = 5 := by rw [List.size_toArray, len_pgC]
  have hr4 : (List.replicate 4 p).length = 4 := by simp
  have hR4 : (psC (List.replicate 4 p)).length = 20 := by rw [len_psC, hr4]
  clear hz hl b0 b1
  go_enter Tryz.func109, Tryz.ntmps109
  go_wp2_with (first | (refine wpList_box_big rfl 59 _ rfl (pgC p).toArray rfl ?_) | (refine wpList_alloc_big rfl 62 rfl (psC zs).toArray (unhide HZ) ?_))
  generalize ((w.alloc (.cells (pgC p).toArray 59)).alloc (.cells (psC zs).toArray 62)).alloc (.cells (psC zs).toArray 62) = w1 at *
  go_loopw [5] (fun i w' => ∃ j : Nat, j ≤ 4 ∧ i = .int .i64 j ∧ Hid (w' = w1.setCells (w.heap.size + 1 + 1) 0 (psC (List.replicate j p)))) (fun i _ => 4 - (intOf i).toNat)
  case atStart => exact ⟨0, by omega, rfl, rfl⟩
  case round =>
    obtain ⟨j, hj, rfl, hwr⟩ := hrel
    by_cases h0 : j = 4
    · subst h0
      have rr : wr.rangeAt (w.heap.size + 1 + 1) 0 (psC (List.replicate 4 p)) := by rw [unhide hwr]; exact World.rangeAt_setCells_same _ _ _ _ (by rw [hR4]; exact t2)
      have tt : wr.there (w.heap.size + 1) 0 (psC (List.replicate 4 p)).length := by rw [unhide hwr, hR4]; exact World.there_setCells t1 _ _ _
      have BB : Below w.heap.size w wr := by rw [unhide hwr]; exact below_setCells _ (by omega) _ _ _ b2
      have HZ1 := hide (size_row hr4)
      have HZ2 := hide (size_rowa hr4)
      have HO := one_ps (List.replicate 4 p)
      generalize hRe : psC (List.replicate 4 p) = rcs at *
      have HRE := hide hRe
      have RS := World.rangeAt_setCells_same _ _ _ _ tt
      clear hwr rp t1 t2 HST hRe hR4
      go_wp2_with (first | (refine wpList_load_mid rfl 62 _ rfl (w.heap.size + 1 + 1) 0 rfl rcs _ rr Tryz.underlying62 rfl (unhide HZ1) ?_) | (refine wpList_store_mid rfl 62 _ _ rfl (w.heap.size + 1) 0 rcs.toArray rfl rfl tt (unhide HZ2) HO ?_) | (refine bodyPost_ret (res_cell_mid Tryz.results109 _ _ (w.heap.size + 1) rcs _ rfl RS Tryz.underlying62 rfl (unhide HZ1)) rfl (unhide ?_)))
      exact hide ⟨by rw [unhide HRE], below_setCells _ (by omega) _ _ _ BB⟩
    · have hlt : (j : Int) < 4 := by omega
      have hlo : (0 : Int) ≤ (j : Int) := by omega
      have HS := hide (unhide HST w1 j)
      rw [← unhide hwr] at HS
      have r5 : wr.rangeAt w.heap.size 0 (pgC p) := by rw [unhide hwr]; exact World.rangeAt_setCells_apart rp _ _ _ (.inl (by omega))
      have t5 : wr.there (w.heap.size + 1 + 1) (j * 5) (pgC p).toArray.size := by
        rw [unhide hwr, hpl]
        have := there_sub (World.there_setCells t2 (w.heap.size + 1 + 1) 0 (psC (List.replicate j p))) (j * 5) 5 (by omega)
        rwa [Nat.zero_add] at this
      clear hwr rp t1 t2 HST
      generalize pgC p = pcs at *
      go_wp2_with (first | (refine wpList_load_mid rfl 59 _ rfl w.heap.size 0 rfl pcs _ r5 Tryz.underlying59 rfl (unhide HS5) ?_) | (refine wpList_store_mid rfl 59 _ _ rfl (w.heap.size + 1 + 1) (j * 5) pcs.toArray rfl rfl t5 (unhide HA5) O5 ?_))
      go_roundw
      case rel => exact ⟨j + 1, by omega, by first | rfl | go_num, (unhide HS).symm⟩
      case measure => simp [intOf]; omega
theorem rowAll_any (p : Pg) (w : World) :
    Calls Tryz.prog 109 #[.agg (pgC p).toArray] w fun e w' => RowPost w p e w' := rowAll' zPs rfl zero_ps p w

/-- What a change of kept blocks answers. -/
def KpPost (w : World) (ks : List Bk) (o : Bool) (e : Ending) (w' : World) : Prop := e = .returned (.tuple #[.agg (fsC ks).toArray, .bool o]) ∧ Below w.heap.size w w'
def wiK (ks : List Bk) (k : Nat) (torn : Bool) : List Bk := if wiN ks k then ks else wiL ks k torn
theorem wiK_len {ks : List Bk} (h4 : ks.length = 4) (k : Nat) (torn : Bool) : (wiK ks k torn).length = 4 := by
  unfold wiK; split
  · exact h4
  · rw [wiL_len]; exact h4
theorem wiK_fours {ks : List Bk} (hF : Fours ks) (k : Nat) (torn : Bool) : Fours (wiK ks k torn) := by
  unfold wiK; split
  · exact hF
  · exact wiL_fours hF

set_option maxRecDepth 100000 in
set_option maxHeartbeats 2000000 in
theorem wipeK_any (ks : List Bk) (hok : okB ks = true) (k : Nat) (hk : k < 4) (torn : Bool) (w : World) :
    Calls Tryz.prog 102 #[.agg (fsC ks).toArray, .int .i64 (k : Nat), .bool torn] w fun e w' => KpPost w (wiK ks k torn) (!wiN ks k) e w' := by
  obtain ⟨zf, hz, hz84⟩ := zrow
  have HZ := hide hz
  clear hz
  have hk4 := ok_len hok
  have hkF := ok_fours hok
  have rk := World.rangeAt_alloc (rangeAt_new w (fsC ks) 66) (.cells zf 66)
  have t1 := World.there_alloc (there_new w (fsC ks) 66) (.cells zf 66)
  rw [len_fsC _ hkF, hk4] at t1
  have tR := there_new (w.alloc (.cells (fsC ks).toArray 66)) zf.toList 66
  rw [Array.toArray_toList, Array.length_toList, hz84, World.size_alloc] at tR
  have BK : Below w.heap.size w ((w.alloc (.cells (fsC ks).toArray 66)).alloc (.cells zf 66)) := ((Below.refl _ _).alloc (Nat.le_refl _) _).alloc (by simp) _
  have sk : w.heap.size + 1 < ((w.alloc (.cells (fsC ks).toArray 66)).alloc (.cells zf 66)).heap.size := by simp
  have hkb : k < ks.length := by omega
  have hb4 : ks[k].ps.length = 4 := hkF.at k hkb
  obtain ⟨hw0, hw2⟩ := ok_worn hok k hkb
  have hgd : ks.getD k zBk = ks[k] := by rw [List.getD_eq_getElem?_getD, List.getElem?_eq_getElem hkb]; rfl
  have HR0 : Hid (wiK ks k torn = if wiN ks k then ks else wiL ks k torn) := rfl
  have HN : Hid (wiN ks k = decide (200 ≤ ks[k].wn)) := by show _ = _; unfold wiN; rw [hgd]
  have c20 := worn_bk hb4 (sub_fs hkF rk k hkb)
  have tk : ((w.alloc (.cells (fsC ks).toArray 66)).alloc (.cells zf 66)).there w.heap.size (k * 21) 21 := by
    have := there_sub t1 (k * 21) 21 (by omega)
    rwa [Nat.zero_add] at this
  have HWB : Hid (∀ t, wiL ks k t = ks.set k (wiB ks[k] t)) := fun t => by unfold wiL; rw [hgd]
  have HBT : Hid (∀ t, Tryz.prog.built 64 [(0, .agg (psC (List.replicate 4 (pgS t))).toArray), (1, .int .i64 (ks[k].wn + 1))] = some (bkC (wiB ks[k] t)).toArray) := fun t => built_bk _ _ (by simp)
  clear hok t1 hgd
  have hlo : (0 : Int) ≤ (k : Int) := by omega
  have hhi : (k : Int) < 4 := by omega
  generalize wiK ks k torn = Rs at *
  generalize ks[k] = b at *
  by_cases hw : b.wn = 200
  · have hw' : (b.wn == 200) = true := by simpa using hw
    have HNT : Hid (wiN ks k = true) := by show _ = _; rw [unhide HN]; simp; omega
    have HR : Hid (Rs = ks) := by show _ = _; rw [unhide HR0, unhide HNT]; rfl
    have tz : ((w.alloc (.cells (fsC ks).toArray 66)).alloc (.cells zf 66)).there (w.heap.size + 1) 0 (fsC ks).toArray.size := by rw [show (fsC ks).toArray.size = 84 by rw [List.size_toArray, len_fsC _ hkF, hk4]]; exact tR
    have pz := World.rangeAt_setCells_same _ _ _ (fsC ks) tz
    have Bz := below_setCells (w.heap.size + 1) (show w.heap.size ≤ w.heap.size + 1 by omega) (fsC ks) 0 _ BK
    have HSF := hide (size_fsl hkF hk4)
    clear hw HR0 HN HWB HBT tk tR
    go_enter Tryz.func102, Tryz.ntmps102
    go_wp2_with (first | (refine wpList_box_big rfl _ _ rfl (fsC ks).toArray rfl ?_) | (refine wpList_alloc_big rfl 66 rfl zf (unhide HZ) ?_) | (refine wpList_load_mid rfl 66 _ rfl w.heap.size 0 rfl (fsC ks) _ rk Tryz.underlying66 rfl (unhide HSF) ?_) | (refine wpList_store_mid rfl 66 _ _ rfl (w.heap.size + 1) 0 (fsC ks).toArray rfl rfl tz (size_fsa hkF hk4) (one_fs ks) ?_) | (refine bodyPost_ret (res_cell_tmp Tryz.results102 _ _ (w.heap.size + 1) (fsC ks) _ rfl pz Tryz.underlying66 rfl (unhide HSF)) rfl (unhide ?_)))
    exact hide ⟨by rw [unhide HR, unhide HNT]; rfl, Bz⟩
  have hw' : (b.wn == 200) = false := by simpa using hw
  have HNT : Hid (wiN ks k = false) := by show _ = _; rw [unhide HN]; simp; omega
  have HR : Hid (Rs = wiL ks k torn) := by show _ = _; rw [unhide HR0, unhide HNT]; rfl
  have HWR : Hid (IntKind.i64.wrap (b.wn + 1) = b.wn + 1) := by show _ = _; rw [IntKind.wrap_i64]; omega
  clear hw HR0 HN
  cases torn
  · have HB := hide (unhide HBT false)
    have HWL := hide (unhide HWB false)
    have HL5 : Hid ((bkC (wiB b false)).toArray.size = 21) := by show _ = _; rw [List.size_toArray, len_bkC _ (wiB_len b false)]
    have HZB := hide (size_bkA (wiB_len b false))
    have HOB := one_bk (wiB b false)
    clear HBT HWB
    go_enter Tryz.func102, Tryz.ntmps102
    go_wp2_with (first | (refine wpList_box_big rfl _ _ rfl (fsC ks).toArray rfl ?_) | (refine wpList_alloc_big rfl 66 rfl zf (unhide HZ) ?_))
    generalize (w.alloc (.cells (fsC ks).toArray 66)).alloc (.cells zf 66) = w2 at *
    refine wp_region_noPanic ?_
    refine wp_region_held_drew (S := fun w' => (w'.there w.heap.size (k * 21) 21 ∧ w'.there (w.heap.size + 1) 0 84) ∧ Below w.heap.size w w' ∧ w.heap.size + 1 < w'.heap.size) (by kernel_rfl) (⟨⟨by simpa using tk, by simpa using tR⟩, BK.drew, by simpa using sk⟩) (fun hHeld => ?_)
    have d20 : w2.drew.cell? ⟨w.heap.size, k * 21 + 20, none⟩ = some (.int .i64 b.wn) := by simpa using c20
    have rk2 : w2.drew.rangeAt w.heap.size 0 (fsC ks) := by simpa using rk
    clear c20 rk tk BK sk tR
    generalize w2.drew = w3 at *
    refine takeL 0 (.int .i64 k) rfl (by kernel_rfl) (by kernel_rfl) (by kernel_rfl) (fun _ _ _ h => h) (Or.inl ⟨rfl, fun _ _ => rfl⟩) hHeld ?_
    try simp only [Act.put, List.setIfInBounds_toArray, List.set_cons_zero, List.set_cons_succ]
    refine takeL 1 (.int .i64 0) rfl (by kernel_rfl) (by kernel_rfl) (by kernel_rfl) (fun _ _ _ h => h) (Or.inl ⟨rfl, fun _ _ => rfl⟩) hHeld ?_
    try simp only [Act.put, List.setIfInBounds_toArray, List.set_cons_zero, List.set_cons_succ]
    refine takeL 2 (.agg #[.int .i64 0, .int .i64 0, .int .i64 0, .int .i64 0, .int .i64 0]) rfl (by kernel_rfl) (by kernel_rfl) (by kernel_rfl) (fun _ _ _ h => h) (Or.inl ⟨rfl, fun w9 hSw => by go_simp⟩) hHeld ?_
    try simp only [Act.put, List.setIfInBounds_toArray, List.set_cons_zero, List.set_cons_succ]
    refine takeL 4 (.int .i64 k) rfl (by kernel_rfl) (by kernel_rfl) (by kernel_rfl) (fun _ _ _ h => h) (Or.inl ⟨rfl, fun _ _ => rfl⟩) hHeld ?_
    try simp only [Act.put, List.setIfInBounds_toArray, List.set_cons_zero, List.set_cons_succ]
    refine takeL 5 (.pointer (some ⟨w.heap.size, k * 21, none⟩)) rfl (by kernel_rfl) (by kernel_rfl) (by kernel_rfl) (fun _ _ _ h => h) (Or.inl ⟨rfl, fun w9 hSw => by go_simp⟩) hHeld ?_
    try simp only [Act.put, List.setIfInBounds_toArray, List.set_cons_zero, List.set_cons_succ]
    refine takeL 6 (.pointer (some ⟨w.heap.size, k * 21 + 20, none⟩)) rfl (by kernel_rfl) (by kernel_rfl) (by kernel_rfl) (fun _ _ _ h => h) (Or.inl ⟨rfl, fun w9 hSw => by go_simp⟩) hHeld ?_
    try simp only [Act.put, List.setIfInBounds_toArray, List.set_cons_zero, List.set_cons_succ]
    refine twoL 3 7 rfl rfl (by kernel_rfl) rfl rfl (fun K hK => ?_) (fun K hK => ?_)
    · go_simp
      refine (rowAll_any (pgS false) _).mono ?_
      rintro e w4 ⟨rfl, b4⟩
      go_wp2_with fail
      have rk4 := rangeAt_below rk2 b4 (Nat.lt_of_succ_lt hHeld.2.2)
      have d24 := (b4.cell (p := ⟨w.heap.size, k * 21 + 20, none⟩) (Nat.lt_of_succ_lt hHeld.2.2)).trans d20
      refine hK.out _ _ ⟨⟨there_below hHeld.1.1 b4 (Nat.lt_of_succ_lt hHeld.2.2), there_below hHeld.1.2 b4 hHeld.2.2⟩, hHeld.2.1.trans (b4.mono hHeld.2.1.size), Nat.lt_of_lt_of_le hHeld.2.2 b4.size⟩ (fun hHeld4 => ?_)
      clear hK K hHeld b4 rk2 d20
      have hHeld := hHeld4
      clear hHeld4
      try simp only [Act.put, List.setIfInBounds_toArray, List.set_cons_zero, List.set_cons_succ]
      refine oneL 7 rfl (by kernel_rfl) rfl (fun K hK => ?_)
      go_simp
      refine hK.out _ _ hHeld (fun hHeld => ?_)
      clear hK K
      try simp only [Act.put, List.setIfInBounds_toArray, List.set_cons_zero, List.set_cons_succ]
      refine takeL 8 (.int .i64 (b.wn + 1)) rfl (by kernel_rfl) (by kernel_rfl) (by kernel_rfl) (fun _ _ _ h => h) (Or.inl ⟨rfl, fun w9 hSw => by have he := unhide HWR; go_simp⟩) hHeld ?_
      try simp only [Act.put, List.setIfInBounds_toArray, List.set_cons_zero, List.set_cons_succ]
      refine oneL 9 rfl (by kernel_rfl) rfl (fun K hK => ?_)
      refine wp_build_two 64 _ _ rfl (.agg (psC (List.replicate 4 (pgS false))).toArray) (.int .i64 (b.wn + 1)) rfl rfl (bkC (wiB b false)).toArray (unhide HB) ?_
      refine hK.out _ _ hHeld (fun hHeld => ?_)
      clear hK K
      try simp only [Act.put, List.setIfInBounds_toArray, List.set_cons_zero, List.set_cons_succ]
      refine takeL 10 (.pointer (some ⟨w.heap.size, k * 21, none⟩)) rfl (by kernel_rfl) (by kernel_rfl) (by kernel_rfl) (fun _ _ _ h => h) (Or.inl ⟨rfl, fun w9 hSw => by go_simp⟩) hHeld ?_
      try simp only [Act.put, List.setIfInBounds_toArray, List.set_cons_zero, List.set_cons_succ]
      have rs := range_set bkC 21 (fun x hx => len_bkC x (hkF x hx)) k (by omega) (wiB b false) (len_bkC _ (wiB_len b false)) rk4 (by rw [Nat.zero_add]; exact hHeld.1.1)
      rw [Nat.zero_add] at rs
      have tk5 : w4.there w.heap.size (k * 21) (bkC (wiB b false)).toArray.size := by rw [unhide HL5]; exact hHeld.1.1
      have BS := below_setCells w.heap.size (Nat.le_refl _) (bkC (wiB b false)) (k * 21) _ hHeld.2.1
      have TS := World.there_setCells hHeld.1.1 w.heap.size (k * 21) (bkC (wiB b false))
      have TR5 := World.there_setCells hHeld.1.2 w.heap.size (k * 21) (bkC (wiB b false))
      have SS := hHeld.2.2
      rw [← size_setCells w.heap.size (bkC (wiB b false)) (k * 21) w4] at SS
      have RS := hide (show (w4.setCells w.heap.size (k * 21) (bkC (wiB b false))).rangeAt w.heap.size 0 (fsC (wiL ks k false)) by rw [unhide HWL]; exact rs)
      clear rs rk4 d24
      generalize bkC (wiB b false) = nb at *
      refine oneL 11 rfl (by kernel_rfl) rfl (fun K hK => ?_)
      refine wp_store_mid 64 _ _ rfl w.heap.size (k * 21) nb.toArray rfl rfl tk5 (unhide HZB) HOB ?_
      refine hK.out _ _ ⟨⟨TS, TR5⟩, BS, SS⟩ (fun _ => ?_)
      clear hK K hHeld TS tk5
      try simp only [Act.put, List.setIfInBounds_toArray, List.set_cons_zero, List.set_cons_succ]
      refine wpAnyH_done (by kernel_rfl) ?_ _
      refine NoPanic.normal ?_
      generalize w4.setCells w.heap.size (k * 21) nb = w5 at *
      have hFs := wiL_fours (t := false) hkF (k := k)
      have h4s : (wiL ks k false).length = 4 := by rw [wiL_len]; exact hk4
      generalize wiL ks k false = rs at *
      have HZ7 := hide (size_fsl hFs h4s)
      have RS' := unhide RS
      clear RS
      have tz : w5.there (w.heap.size + 1) 0 (fsC rs).toArray.size := by rw [show (fsC rs).toArray.size = 84 by rw [List.size_toArray, len_fsC _ hFs, h4s]]; exact TR5
      have pz := World.rangeAt_setCells_same w5 (w.heap.size + 1) 0 (fsC rs) tz
      have Bz := below_setCells (w.heap.size + 1) (show w.heap.size ≤ w.heap.size + 1 by omega) (fsC rs) 0 _ BS
      clear TR5 BS
      go_wp2_with (first | (refine wpList_load_mid rfl 66 _ rfl w.heap.size 0 rfl (fsC rs) _ RS' Tryz.underlying66 rfl (unhide HZ7) ?_) | (refine wpList_store_mid rfl 66 _ _ rfl (w.heap.size + 1) 0 (fsC rs).toArray rfl rfl tz (size_fsa hFs h4s) (one_fs rs) ?_) | (refine bodyPost_ret (res_cell_tmp Tryz.results102 _ _ (w.heap.size + 1) (fsC rs) _ rfl pz Tryz.underlying66 rfl (unhide HZ7)) rfl (unhide ?_)))
      exact hide ⟨by rw [unhide HR, unhide HNT]; rfl, Bz⟩
    · go_simp
      refine hK.out _ _ hHeld (fun hHeld => ?_)
      clear hK K
      try simp only [Act.put, List.setIfInBounds_toArray, List.set_cons_zero, List.set_cons_succ]
      refine takeL 8 (.int .i64 (b.wn + 1)) rfl (by kernel_rfl) (by kernel_rfl) (by kernel_rfl) (fun _ _ _ h => h) (Or.inl ⟨rfl, fun w9 hSw => by have he := unhide HWR; go_simp⟩) hHeld ?_
      try simp only [Act.put, List.setIfInBounds_toArray, List.set_cons_zero, List.set_cons_succ]
      refine oneL 3 rfl (by kernel_rfl) rfl (fun K hK => ?_)
      go_simp
      refine (rowAll_any (pgS false) _).mono ?_
      rintro e w4 ⟨rfl, b4⟩
      go_wp2_with fail
      have rk4 := rangeAt_below rk2 b4 (Nat.lt_of_succ_lt hHeld.2.2)
      have d24 := (b4.cell (p := ⟨w.heap.size, k * 21 + 20, none⟩) (Nat.lt_of_succ_lt hHeld.2.2)).trans d20
      refine hK.out _ _ ⟨⟨there_below hHeld.1.1 b4 (Nat.lt_of_succ_lt hHeld.2.2), there_below hHeld.1.2 b4 hHeld.2.2⟩, hHeld.2.1.trans (b4.mono hHeld.2.1.size), Nat.lt_of_lt_of_le hHeld.2.2 b4.size⟩ (fun hHeld4 => ?_)
      clear hK K hHeld b4 rk2 d20
      have hHeld := hHeld4
      clear hHeld4
      try simp only [Act.put, List.setIfInBounds_toArray, List.set_cons_zero, List.set_cons_succ]
      refine oneL 9 rfl (by kernel_rfl) rfl (fun K hK => ?_)
      refine wp_build_two 64 _ _ rfl (.agg (psC (List.replicate 4 (pgS false))).toArray) (.int .i64 (b.wn + 1)) rfl rfl (bkC (wiB b false)).toArray (unhide HB) ?_
      refine hK.out _ _ hHeld (fun hHeld => ?_)
      clear hK K
      try simp only [Act.put, List.setIfInBounds_toArray, List.set_cons_zero, List.set_cons_succ]
      refine takeL 10 (.pointer (some ⟨w.heap.size, k * 21, none⟩)) rfl (by kernel_rfl) (by kernel_rfl) (by kernel_rfl) (fun _ _ _ h => h) (Or.inl ⟨rfl, fun w9 hSw => by go_simp⟩) hHeld ?_
      try simp only [Act.put, List.setIfInBounds_toArray, List.set_cons_zero, List.set_cons_succ]
      have rs := range_set bkC 21 (fun x hx => len_bkC x (hkF x hx)) k (by omega) (wiB b false) (len_bkC _ (wiB_len b false)) rk4 (by rw [Nat.zero_add]; exact hHeld.1.1)
      rw [Nat.zero_add] at rs
      have tk5 : w4.there w.heap.size (k * 21) (bkC (wiB b false)).toArray.size := by rw [unhide HL5]; exact hHeld.1.1
      have BS := below_setCells w.heap.size (Nat.le_refl _) (bkC (wiB b false)) (k * 21) _ hHeld.2.1
      have TS := World.there_setCells hHeld.1.1 w.heap.size (k * 21) (bkC (wiB b false))
      have TR5 := World.there_setCells hHeld.1.2 w.heap.size (k * 21) (bkC (wiB b false))
      have SS := hHeld.2.2
      rw [← size_setCells w.heap.size (bkC (wiB b false)) (k * 21) w4] at SS
      have RS := hide (show (w4.setCells w.heap.size (k * 21) (bkC (wiB b false))).rangeAt w.heap.size 0 (fsC (wiL ks k false)) by rw [unhide HWL]; exact rs)
      clear rs rk4 d24
      generalize bkC (wiB b false) = nb at *
      refine oneL 11 rfl (by kernel_rfl) rfl (fun K hK => ?_)
      refine wp_store_mid 64 _ _ rfl w.heap.size (k * 21) nb.toArray rfl rfl tk5 (unhide HZB) HOB ?_
      refine hK.out _ _ ⟨⟨TS, TR5⟩, BS, SS⟩ (fun _ => ?_)
      clear hK K hHeld TS tk5
      try simp only [Act.put, List.setIfInBounds_toArray, List.set_cons_zero, List.set_cons_succ]
      refine wpAnyH_done (by kernel_rfl) ?_ _
      refine NoPanic.normal ?_
      generalize w4.setCells w.heap.size (k * 21) nb = w5 at *
      have hFs := wiL_fours (t := false) hkF (k := k)
      have h4s : (wiL ks k false).length = 4 := by rw [wiL_len]; exact hk4
      generalize wiL ks k false = rs at *
      have HZ7 := hide (size_fsl hFs h4s)
      have RS' := unhide RS
      clear RS
      have tz : w5.there (w.heap.size + 1) 0 (fsC rs).toArray.size := by rw [show (fsC rs).toArray.size = 84 by rw [List.size_toArray, len_fsC _ hFs, h4s]]; exact TR5
      have pz := World.rangeAt_setCells_same w5 (w.heap.size + 1) 0 (fsC rs) tz
      have Bz := below_setCells (w.heap.size + 1) (show w.heap.size ≤ w.heap.size + 1 by omega) (fsC rs) 0 _ BS
      clear TR5 BS
      go_wp2_with (first | (refine wpList_load_mid rfl 66 _ rfl w.heap.size 0 rfl (fsC rs) _ RS' Tryz.underlying66 rfl (unhide HZ7) ?_) | (refine wpList_store_mid rfl 66 _ _ rfl (w.heap.size + 1) 0 (fsC rs).toArray rfl rfl tz (size_fsa hFs h4s) (one_fs rs) ?_) | (refine bodyPost_ret (res_cell_tmp Tryz.results102 _ _ (w.heap.size + 1) (fsC rs) _ rfl pz Tryz.underlying66 rfl (unhide HZ7)) rfl (unhide ?_)))
      exact hide ⟨by rw [unhide HR, unhide HNT]; rfl, Bz⟩
  · have HB := hide (unhide HBT true)
    have HWL := hide (unhide HWB true)
    have HL5 : Hid ((bkC (wiB b true)).toArray.size = 21) := by show _ = _; rw [List.size_toArray, len_bkC _ (wiB_len b true)]
    have HZB := hide (size_bkA (wiB_len b true))
    have HOB := one_bk (wiB b true)
    clear HBT HWB
    go_enter Tryz.func102, Tryz.ntmps102
    go_wp2_with (first | (refine wpList_box_big rfl _ _ rfl (fsC ks).toArray rfl ?_) | (refine wpList_alloc_big rfl 66 rfl zf (unhide HZ) ?_))
    generalize (w.alloc (.cells (fsC ks).toArray 66)).alloc (.cells zf 66) = w2 at *
    refine wp_region_noPanic ?_
    refine wp_region_held_drew (S := fun w' => (w'.there w.heap.size (k * 21) 21 ∧ w'.there (w.heap.size + 1) 0 84) ∧ Below w.heap.size w w' ∧ w.heap.size + 1 < w'.heap.size) (by kernel_rfl) (⟨⟨by simpa using tk, by simpa using tR⟩, BK.drew, by simpa using sk⟩) (fun hHeld => ?_)
    have d20 : w2.drew.cell? ⟨w.heap.size, k * 21 + 20, none⟩ = some (.int .i64 b.wn) := by simpa using c20
    have rk2 : w2.drew.rangeAt w.heap.size 0 (fsC ks) := by simpa using rk
    clear c20 rk tk BK sk tR
    generalize w2.drew = w3 at *
    refine takeL 0 (.int .i64 k) rfl (by kernel_rfl) (by kernel_rfl) (by kernel_rfl) (fun _ _ _ h => h) (Or.inl ⟨rfl, fun _ _ => rfl⟩) hHeld ?_
    try simp only [Act.put, List.setIfInBounds_toArray, List.set_cons_zero, List.set_cons_succ]
    refine takeL 1 (.int .i64 2) rfl (by kernel_rfl) (by kernel_rfl) (by kernel_rfl) (fun _ _ _ h => h) (Or.inl ⟨rfl, fun _ _ => rfl⟩) hHeld ?_
    try simp only [Act.put, List.setIfInBounds_toArray, List.set_cons_zero, List.set_cons_succ]
    refine takeL 2 (.agg #[.int .i64 2, .int .i64 0, .int .i64 0, .int .i64 0, .int .i64 0]) rfl (by kernel_rfl) (by kernel_rfl) (by kernel_rfl) (fun _ _ _ h => h) (Or.inl ⟨rfl, fun w9 hSw => by go_simp⟩) hHeld ?_
    try simp only [Act.put, List.setIfInBounds_toArray, List.set_cons_zero, List.set_cons_succ]
    refine takeL 4 (.int .i64 k) rfl (by kernel_rfl) (by kernel_rfl) (by kernel_rfl) (fun _ _ _ h => h) (Or.inl ⟨rfl, fun _ _ => rfl⟩) hHeld ?_
    try simp only [Act.put, List.setIfInBounds_toArray, List.set_cons_zero, List.set_cons_succ]
    refine takeL 5 (.pointer (some ⟨w.heap.size, k * 21, none⟩)) rfl (by kernel_rfl) (by kernel_rfl) (by kernel_rfl) (fun _ _ _ h => h) (Or.inl ⟨rfl, fun w9 hSw => by go_simp⟩) hHeld ?_
    try simp only [Act.put, List.setIfInBounds_toArray, List.set_cons_zero, List.set_cons_succ]
    refine takeL 6 (.pointer (some ⟨w.heap.size, k * 21 + 20, none⟩)) rfl (by kernel_rfl) (by kernel_rfl) (by kernel_rfl) (fun _ _ _ h => h) (Or.inl ⟨rfl, fun w9 hSw => by go_simp⟩) hHeld ?_
    try simp only [Act.put, List.setIfInBounds_toArray, List.set_cons_zero, List.set_cons_succ]
    refine twoL 3 7 rfl rfl (by kernel_rfl) rfl rfl (fun K hK => ?_) (fun K hK => ?_)
    · go_simp
      refine (rowAll_any (pgS true) _).mono ?_
      rintro e w4 ⟨rfl, b4⟩
      go_wp2_with fail
      have rk4 := rangeAt_below rk2 b4 (Nat.lt_of_succ_lt hHeld.2.2)
      have d24 := (b4.cell (p := ⟨w.heap.size, k * 21 + 20, none⟩) (Nat.lt_of_succ_lt hHeld.2.2)).trans d20
      refine hK.out _ _ ⟨⟨there_below hHeld.1.1 b4 (Nat.lt_of_succ_lt hHeld.2.2), there_below hHeld.1.2 b4 hHeld.2.2⟩, hHeld.2.1.trans (b4.mono hHeld.2.1.size), Nat.lt_of_lt_of_le hHeld.2.2 b4.size⟩ (fun hHeld4 => ?_)
      clear hK K hHeld b4 rk2 d20
      have hHeld := hHeld4
      clear hHeld4
      try simp only [Act.put, List.setIfInBounds_toArray, List.set_cons_zero, List.set_cons_succ]
      refine oneL 7 rfl (by kernel_rfl) rfl (fun K hK => ?_)
      go_simp
      refine hK.out _ _ hHeld (fun hHeld => ?_)
      clear hK K
      try simp only [Act.put, List.setIfInBounds_toArray, List.set_cons_zero, List.set_cons_succ]
      refine takeL 8 (.int .i64 (b.wn + 1)) rfl (by kernel_rfl) (by kernel_rfl) (by kernel_rfl) (fun _ _ _ h => h) (Or.inl ⟨rfl, fun w9 hSw => by have he := unhide HWR; go_simp⟩) hHeld ?_
      try simp only [Act.put, List.setIfInBounds_toArray, List.set_cons_zero, List.set_cons_succ]
      refine oneL 9 rfl (by kernel_rfl) rfl (fun K hK => ?_)
      refine wp_build_two 64 _ _ rfl (.agg (psC (List.replicate 4 (pgS true))).toArray) (.int .i64 (b.wn + 1)) rfl rfl (bkC (wiB b true)).toArray (unhide HB) ?_
      refine hK.out _ _ hHeld (fun hHeld => ?_)
      clear hK K
      try simp only [Act.put, List.setIfInBounds_toArray, List.set_cons_zero, List.set_cons_succ]
      refine takeL 10 (.pointer (some ⟨w.heap.size, k * 21, none⟩)) rfl (by kernel_rfl) (by kernel_rfl) (by kernel_rfl) (fun _ _ _ h => h) (Or.inl ⟨rfl, fun w9 hSw => by go_simp⟩) hHeld ?_
      try simp only [Act.put, List.setIfInBounds_toArray, List.set_cons_zero, List.set_cons_succ]
      have rs := range_set bkC 21 (fun x hx => len_bkC x (hkF x hx)) k (by omega) (wiB b true) (len_bkC _ (wiB_len b true)) rk4 (by rw [Nat.zero_add]; exact hHeld.1.1)
      rw [Nat.zero_add] at rs
      have tk5 : w4.there w.heap.size (k * 21) (bkC (wiB b true)).toArray.size := by rw [unhide HL5]; exact hHeld.1.1
      have BS := below_setCells w.heap.size (Nat.le_refl _) (bkC (wiB b true)) (k * 21) _ hHeld.2.1
      have TS := World.there_setCells hHeld.1.1 w.heap.size (k * 21) (bkC (wiB b true))
      have TR5 := World.there_setCells hHeld.1.2 w.heap.size (k * 21) (bkC (wiB b true))
      have SS := hHeld.2.2
      rw [← size_setCells w.heap.size (bkC (wiB b true)) (k * 21) w4] at SS
      have RS := hide (show (w4.setCells w.heap.size (k * 21) (bkC (wiB b true))).rangeAt w.heap.size 0 (fsC (wiL ks k true)) by rw [unhide HWL]; exact rs)
      clear rs rk4 d24
      generalize bkC (wiB b true) = nb at *
      refine oneL 11 rfl (by kernel_rfl) rfl (fun K hK => ?_)
      refine wp_store_mid 64 _ _ rfl w.heap.size (k * 21) nb.toArray rfl rfl tk5 (unhide HZB) HOB ?_
      refine hK.out _ _ ⟨⟨TS, TR5⟩, BS, SS⟩ (fun _ => ?_)
      clear hK K hHeld TS tk5
      try simp only [Act.put, List.setIfInBounds_toArray, List.set_cons_zero, List.set_cons_succ]
      refine wpAnyH_done (by kernel_rfl) ?_ _
      refine NoPanic.normal ?_
      generalize w4.setCells w.heap.size (k * 21) nb = w5 at *
      have hFs := wiL_fours (t := true) hkF (k := k)
      have h4s : (wiL ks k true).length = 4 := by rw [wiL_len]; exact hk4
      generalize wiL ks k true = rs at *
      have HZ7 := hide (size_fsl hFs h4s)
      have RS' := unhide RS
      clear RS
      have tz : w5.there (w.heap.size + 1) 0 (fsC rs).toArray.size := by rw [show (fsC rs).toArray.size = 84 by rw [List.size_toArray, len_fsC _ hFs, h4s]]; exact TR5
      have pz := World.rangeAt_setCells_same w5 (w.heap.size + 1) 0 (fsC rs) tz
      have Bz := below_setCells (w.heap.size + 1) (show w.heap.size ≤ w.heap.size + 1 by omega) (fsC rs) 0 _ BS
      clear TR5 BS
      go_wp2_with (first | (refine wpList_load_mid rfl 66 _ rfl w.heap.size 0 rfl (fsC rs) _ RS' Tryz.underlying66 rfl (unhide HZ7) ?_) | (refine wpList_store_mid rfl 66 _ _ rfl (w.heap.size + 1) 0 (fsC rs).toArray rfl rfl tz (size_fsa hFs h4s) (one_fs rs) ?_) | (refine bodyPost_ret (res_cell_tmp Tryz.results102 _ _ (w.heap.size + 1) (fsC rs) _ rfl pz Tryz.underlying66 rfl (unhide HZ7)) rfl (unhide ?_)))
      exact hide ⟨by rw [unhide HR, unhide HNT]; rfl, Bz⟩
    · go_simp
      refine hK.out _ _ hHeld (fun hHeld => ?_)
      clear hK K
      try simp only [Act.put, List.setIfInBounds_toArray, List.set_cons_zero, List.set_cons_succ]
      refine takeL 8 (.int .i64 (b.wn + 1)) rfl (by kernel_rfl) (by kernel_rfl) (by kernel_rfl) (fun _ _ _ h => h) (Or.inl ⟨rfl, fun w9 hSw => by have he := unhide HWR; go_simp⟩) hHeld ?_
      try simp only [Act.put, List.setIfInBounds_toArray, List.set_cons_zero, List.set_cons_succ]
      refine oneL 3 rfl (by kernel_rfl) rfl (fun K hK => ?_)
      go_simp
      refine (rowAll_any (pgS true) _).mono ?_
      rintro e w4 ⟨rfl, b4⟩
      go_wp2_with fail
      have rk4 := rangeAt_below rk2 b4 (Nat.lt_of_succ_lt hHeld.2.2)
      have d24 := (b4.cell (p := ⟨w.heap.size, k * 21 + 20, none⟩) (Nat.lt_of_succ_lt hHeld.2.2)).trans d20
      refine hK.out _ _ ⟨⟨there_below hHeld.1.1 b4 (Nat.lt_of_succ_lt hHeld.2.2), there_below hHeld.1.2 b4 hHeld.2.2⟩, hHeld.2.1.trans (b4.mono hHeld.2.1.size), Nat.lt_of_lt_of_le hHeld.2.2 b4.size⟩ (fun hHeld4 => ?_)
      clear hK K hHeld b4 rk2 d20
      have hHeld := hHeld4
      clear hHeld4
      try simp only [Act.put, List.setIfInBounds_toArray, List.set_cons_zero, List.set_cons_succ]
      refine oneL 9 rfl (by kernel_rfl) rfl (fun K hK => ?_)
      refine wp_build_two 64 _ _ rfl (.agg (psC (List.replicate 4 (pgS true))).toArray) (.int .i64 (b.wn + 1)) rfl rfl (bkC (wiB b true)).toArray (unhide HB) ?_
      refine hK.out _ _ hHeld (fun hHeld => ?_)
      clear hK K
      try simp only [Act.put, List.setIfInBounds_toArray, List.set_cons_zero, List.set_cons_succ]
      refine takeL 10 (.pointer (some ⟨w.heap.size, k * 21, none⟩)) rfl (by kernel_rfl) (by kernel_rfl) (by kernel_rfl) (fun _ _ _ h => h) (Or.inl ⟨rfl, fun w9 hSw => by go_simp⟩) hHeld ?_
      try simp only [Act.put, List.setIfInBounds_toArray, List.set_cons_zero, List.set_cons_succ]
      have rs := range_set bkC 21 (fun x hx => len_bkC x (hkF x hx)) k (by omega) (wiB b true) (len_bkC _ (wiB_len b true)) rk4 (by rw [Nat.zero_add]; exact hHeld.1.1)
      rw [Nat.zero_add] at rs
      have tk5 : w4.there w.heap.size (k * 21) (bkC (wiB b true)).toArray.size := by rw [unhide HL5]; exact hHeld.1.1
      have BS := below_setCells w.heap.size (Nat.le_refl _) (bkC (wiB b true)) (k * 21) _ hHeld.2.1
      have TS := World.there_setCells hHeld.1.1 w.heap.size (k * 21) (bkC (wiB b true))
      have TR5 := World.there_setCells hHeld.1.2 w.heap.size (k * 21) (bkC (wiB b true))
      have SS := hHeld.2.2
      rw [← size_setCells w.heap.size (bkC (wiB b true)) (k * 21) w4] at SS
      have RS := hide (show (w4.setCells w.heap.size (k * 21) (bkC (wiB b true))).rangeAt w.heap.size 0 (fsC (wiL ks k true)) by rw [unhide HWL]; exact rs)
      clear rs rk4 d24
      generalize bkC (wiB b true) = nb at *
      refine oneL 11 rfl (by kernel_rfl) rfl (fun K hK => ?_)
      refine wp_store_mid 64 _ _ rfl w.heap.size (k * 21) nb.toArray rfl rfl tk5 (unhide HZB) HOB ?_
      refine hK.out _ _ ⟨⟨TS, TR5⟩, BS, SS⟩ (fun _ => ?_)
      clear hK K hHeld TS tk5
      try simp only [Act.put, List.setIfInBounds_toArray, List.set_cons_zero, List.set_cons_succ]
      refine wpAnyH_done (by kernel_rfl) ?_ _
      refine NoPanic.normal ?_
      generalize w4.setCells w.heap.size (k * 21) nb = w5 at *
      have hFs := wiL_fours (t := true) hkF (k := k)
      have h4s : (wiL ks k true).length = 4 := by rw [wiL_len]; exact hk4
      generalize wiL ks k true = rs at *
      have HZ7 := hide (size_fsl hFs h4s)
      have RS' := unhide RS
      clear RS
      have tz : w5.there (w.heap.size + 1) 0 (fsC rs).toArray.size := by rw [show (fsC rs).toArray.size = 84 by rw [List.size_toArray, len_fsC _ hFs, h4s]]; exact TR5
      have pz := World.rangeAt_setCells_same w5 (w.heap.size + 1) 0 (fsC rs) tz
      have Bz := below_setCells (w.heap.size + 1) (show w.heap.size ≤ w.heap.size + 1 by omega) (fsC rs) 0 _ BS
      clear TR5 BS
      go_wp2_with (first | (refine wpList_load_mid rfl 66 _ rfl w.heap.size 0 rfl (fsC rs) _ RS' Tryz.underlying66 rfl (unhide HZ7) ?_) | (refine wpList_store_mid rfl 66 _ _ rfl (w.heap.size + 1) 0 (fsC rs).toArray rfl rfl tz (size_fsa hFs h4s) (one_fs rs) ?_) | (refine bodyPost_ret (res_cell_tmp Tryz.results102 _ _ (w.heap.size + 1) (fsC rs) _ rfl pz Tryz.underlying66 rfl (unhide HZ7)) rfl (unhide ?_)))
      exact hide ⟨by rw [unhide HR, unhide HNT]; rfl, Bz⟩

theorem here : True := trivial
end Go.Proofs.YtcmklcfedeeahaaGreat.ImplW

/-
  The specification's FlashWrite, for every list of blocks.
-/
namespace Go.Proofs.YtcmklcfedeeahaaGreat.SpecY
open Go.ChangeShapes Go.WideShapes Go.ChangeAt Go.RowKit OkA Big Fl ImplB ImplF ImplS Own ImplT ImplU SpecA SpecB SpecC SpecD SpecW SpecX
set_option linter.unusedVariables false
set_option linter.unusedSimpArgs false
attribute [local go_sem ↓] Go.wp_at_zero Go.wp_at_succ

theorem wrL_len {bs : List Bk} {k : Nat} {p : Pg} : (wrL bs k p).length = bs.length := by simp [wrL]
theorem wrL_fours {bs : List Bk} (h : Fours bs) {k : Nat} (hk : k < bs.length) {p : Pg} : Fours (wrL bs k p) := fun b hb => by
  have hgd : bs.getD k zBk = bs[k] := by rw [List.getD_eq_getElem?_getD, List.getElem?_eq_getElem hk]; rfl
  rcases List.mem_or_eq_of_mem_set hb with h' | rfl
  · exact h b h'
  · simp only [List.length_set, hgd]; exact h.at k hk

theorem here : True := trivial
end Go.Proofs.YtcmklcfedeeahaaGreat.SpecY

/-
  The program's FlashWrite, for every list of blocks.
-/
namespace Go.Proofs.YtcmklcfedeeahaaGreat.ImplX
open Go.ChangeShapes Go.WideShapes Go.ChangeAt Go.RowKit OkA Big Fl ImplB ImplF ImplS Own ImplT ImplU SpecA SpecB SpecC SpecD SpecW SpecX SpecY ImplW
set_option linter.unusedVariables false
set_option linter.unusedSimpArgs false
attribute [local go_sem ↓] Go.wp_at_zero Go.wp_at_succ

theorem range_set' {α : Type} (f : α → List Value) (n : Nat) {w w' : World} {g o : Nat} {xs : List α} (hf : ∀ x ∈ xs, (f x).length = n) (k : Nat) (hk : k < xs.length) (y : α) (hy : (f y).length = n)
    (h : w.rangeAt g o (xs.flatMap f)) (hm : w'.rangeAt g (o + k * n) (f y)) (ho : ∀ o' cs, w.rangeAt g o' cs → (o' + cs.length ≤ o + k * n ∨ o + k * n + n ≤ o') → w'.rangeAt g o' cs) : w'.rangeAt g o ((xs.set k y).flatMap f) := by
  have e : xs = xs.take k ++ (xs[k] :: xs.drop (k + 1)) := by rw [← List.drop_eq_getElem_cons hk]; exact (List.take_append_drop k xs).symm
  have e2 : xs.set k y = xs.take k ++ (y :: xs.drop (k + 1)) := by rw [List.set_eq_take_append_cons_drop, if_pos hk]
  have hl : ((xs.take k).flatMap f).length = k * n := by
    have : ∀ l : List α, (∀ x ∈ l, (f x).length = n) → (l.flatMap f).length = l.length * n := by
      intro l; induction l with
      | nil => simp
      | cons x r ih => intro hh; simp only [List.flatMap_cons, List.length_append, ih (fun z hz => hh z (by simp [hz])), hh x (by simp), List.length_cons, Nat.add_mul]; omega
    rw [this _ (fun x hx => hf x (List.mem_of_mem_take hx)), List.length_take, Nat.min_eq_left (by omega)]
  have h' : w.rangeAt g o ((xs.take k).flatMap f ++ (f xs[k] ++ (xs.drop (k + 1)).flatMap f)) := by
    have q := h
    rw [e] at q
    simpa only [List.flatMap_append, List.flatMap_cons] using q
  rw [e2]
  simp only [List.flatMap_append, List.flatMap_cons]
  rw [range_app, range_app, hl] at h' ⊢
  have hxk : (f xs[k]).length = n := hf _ (List.getElem_mem hk)
  refine ⟨ho _ _ h'.1 (by rw [hl]; omega), hm, ?_⟩
  have h3 := h'.2.2
  rw [hxk] at h3
  rw [hy]
  exact ho _ _ h3 (.inr (Nat.le_refl _))
theorem wp_world {P : Program} {c : Code} {Q : Exit → Act → World → Prop} {a : Act} {w : World} {φ : World → Prop} (h : φ w) (k : ∀ w', φ w' → c.wp P Q a w') : c.wp P Q a w := k w h
/-- A page is laid over a page of kept blocks. -/
theorem store_page {w : World} {kb : Nat} {ks : List Bk} (hF : Fours ks) (h4 : ks.length = 4) (h : w.rangeAt kb 0 (fsC ks)) (ht : w.there kb 0 84) (k : Nat) (hk : k < 4) (u : Nat) (hu : u < 4) (p : Pg) :
    (w.setCells kb (k * 21 + u * 5) (pgC p)).rangeAt kb 0 (fsC (ks.set k ⟨(ks.getD k zBk).ps.set u p, (ks.getD k zBk).wn⟩)) := by
  have hkb : k < ks.length := by omega
  have hgd : ks.getD k zBk = ks[k] := by rw [List.getD_eq_getElem?_getD, List.getElem?_eq_getElem hkb]; rfl
  rw [hgd]
  have hb4 := hF.at k hkb
  have r2 := sub_fs hF h k hkb
  have rp := range_bk r2
  have cw := worn_bk hb4 r2
  have tk : w.there kb (k * 21 + u * 5) 5 := by have := there_sub ht (k * 21 + u * 5) 5 (by omega); rwa [Nat.zero_add] at this
  have rp' := range_set pgC 5 (fun _ _ => rfl) u (by omega) p rfl rp tk
  refine range_set' bkC 21 (fun x hx => len_bkC x (hF x hx)) k hkb ⟨ks[k].ps.set u p, ks[k].wn⟩ (len_bkC _ (by simp [hb4])) h ?_ (fun o' cs hr hc => World.rangeAt_setCells_apart hr _ _ _ (.inr (by rw [len_pgC]; omega)))
  rw [Nat.zero_add]
  show (w.setCells kb (k * 21 + u * 5) (pgC p)).rangeAt kb (k * 21) (psC (ks[k].ps.set u p) ++ [.int .i64 ks[k].wn])
  rw [range_app]
  refine ⟨rp', ?_⟩
  rw [len_psC, List.length_set, hb4]
  intro j v hv
  have hj : j = 0 := by
    have := (List.getElem?_eq_some_iff.1 hv).1
    simp at this; exact this
  subst hj
  simp at hv
  subst hv
  rw [cell_setCells_ne (.inr (.inr (by rw [len_pgC]; omega)))]
  exact cw

def wrK (ks : List Bk) (k : Nat) (rk rs ra rv : Int) (torn : Bool) : List Bk := if wrN ks k rs then ks else wrL ks k (pgW torn rk rs ra rv)
theorem wrK_len {ks : List Bk} (h4 : ks.length = 4) (k : Nat) (rk rs ra rv : Int) (torn : Bool) : (wrK ks k rk rs ra rv torn).length = 4 := by
  unfold wrK; split
  · exact h4
  · rw [wrL_len]; exact h4
theorem wrK_fours {ks : List Bk} (h4 : ks.length = 4) (hF : Fours ks) (k : Nat) (hk : k < 4) (rk rs ra rv : Int) (torn : Bool) : Fours (wrK ks k rk rs ra rv torn) := by
  unfold wrK; split
  · exact hF
  · exact wrL_fours hF (by omega)

set_option maxRecDepth 100000 in
set_option maxHeartbeats 4000000 in
theorem writeK_any (ks : List Bk) (hk4 : ks.length = 4) (hkF : Fours ks) (k : Nat) (hk : k < 4) (rk rs ra rv : Int) (torn : Bool) (w : World) :
    Calls Tryz.prog 104 #[.agg (fsC ks).toArray, .int .i64 (k : Nat), .agg #[.int .i64 rk, .int .i64 rs, .int .i64 ra, .int .i64 rv], .bool torn] w fun e w' => KpPost w (wrK ks k rk rs ra rv torn) (!wrN ks k rs) e w' := by
  obtain ⟨zf, hz, hz84⟩ := zrow
  have HZ := hide hz
  clear hz
  have K3 := World.rangeAt_alloc (World.rangeAt_alloc (rangeAt_new w (fsC ks) 66) (.cells #[.int .i64 rk, .int .i64 rs, .int .i64 ra, .int .i64 rv] 46)) (.cells zf 66)
  have T3 := World.there_alloc (World.there_alloc (there_new w (fsC ks) 66) (.cells #[.int .i64 rk, .int .i64 rs, .int .i64 ra, .int .i64 rv] 46)) (.cells zf 66)
  rw [len_fsC _ hkF, hk4] at T3
  have R3 := World.rangeAt_alloc (rangeAt_new (w.alloc (.cells (fsC ks).toArray 66)) [.int .i64 rk, .int .i64 rs, .int .i64 ra, .int .i64 rv] 46) (.cells zf 66)
  rw [World.size_alloc] at R3
  have V3 := there_new ((w.alloc (.cells (fsC ks).toArray 66)).alloc (.cells #[.int .i64 rk, .int .i64 rs, .int .i64 ra, .int .i64 rv] 46)) zf.toList 66
  rw [Array.toArray_toList, Array.length_toList, hz84, World.size_alloc, World.size_alloc] at V3
  have B3 : Below w.heap.size w (((w.alloc (.cells (fsC ks).toArray 66)).alloc (.cells #[.int .i64 rk, .int .i64 rs, .int .i64 ra, .int .i64 rv] 46)).alloc (.cells zf 66)) := (((Below.refl _ _).alloc (Nat.le_refl _) _).alloc (by simp) _).alloc (by simp; omega) _
  have s3 : w.heap.size + 2 < (((w.alloc (.cells (fsC ks).toArray 66)).alloc (.cells #[.int .i64 rk, .int .i64 rs, .int .i64 ra, .int .i64 rv] 46)).alloc (.cells zf 66)).heap.size := by simp
  have hkb : k < ks.length := by omega
  have hb4 : ks[k].ps.length = 4 := hkF.at k hkb
  have hgd : ks.getD k zBk = ks[k] := by rw [List.getD_eq_getElem?_getD, List.getElem?_eq_getElem hkb]; rfl
  have HR0 : Hid (wrK ks k rk rs ra rv torn = if wrN ks k rs then ks else wrL ks k (pgW torn rk rs ra rv)) := rfl
  have HN : Hid (wrN ks k rs = (usedN ks[k].ps == 4 || hasB ks rs)) := by show _ = _; unfold wrN; rw [hgd]
  have HWL : Hid (∀ p, wrL ks k p = ks.set k ⟨(ks.getD k zBk).ps.set (usedN ks[k].ps) p, (ks.getD k zBk).wn⟩) := fun p => by unfold wrL; rw [hgd]
  clear hgd
  have hlo : (0 : Int) ≤ (k : Int) := by omega
  have hhi : (k : Int) < 4 := by omega
  have k2 := sub_fs hkF K3 k hkb
  have HU := hide (used_any ks[k] hb4)
  have hu := usedN_le ks[k].ps
  have HBL := hide (size_bkl hb4)
  generalize wrK ks k rk rs ra rv torn = Rs at *
  generalize bkC ks[k] = bcs at *
  generalize usedN ks[k].ps = u at *
  rw [hb4] at hu
  have hui : (u : Int) ≤ 4 := by omega
  go_enter Tryz.func104, Tryz.ntmps104
  go_wp2_with (first | (refine wpList_box_big rfl 66 _ rfl (fsC ks).toArray rfl ?_) | (refine wpList_alloc_big rfl 66 rfl zf (unhide HZ) ?_) | (refine wpList_load_mid rfl 64 _ rfl w.heap.size (k * 21) rfl bcs _ k2 Tryz.underlying64 rfl (unhide HBL) ?_))
  generalize ((w.alloc (.cells (fsC ks).toArray 66)).alloc (.cells #[.int .i64 rk, .int .i64 rs, .int .i64 ra, .int .i64 rv] 46)).alloc (.cells zf 66) = w3 at *
  refine (unhide HU _).mono ?_
  rintro e w4 ⟨rfl, b4⟩
  have B4 := B3.trans (b4.mono B3.size)
  have K4 := rangeAt_below K3 b4 (by omega)
  have T4 := there_below T3 b4 (by omega)
  have R4 := rangeAt_below R3 b4 (by omega)
  have V4 := there_below V3 b4 (by omega)
  have s4 := Nat.lt_of_lt_of_le s3 b4.size
  clear b4 B3 K3 T3 R3 V3 s3 k2 HU HBL
  by_cases hz : u = 4
  · subst hz
    have HNT : Hid (wrN ks k rs = true) := by show _ = _; rw [unhide HN]; rfl
    have HR : Hid (Rs = ks) := by show _ = _; rw [unhide HR0, unhide HNT]; rfl
    clear HR0 HN HWL T4 R4
    have h4s : ks.length = 4 := hk4
    have hFs : Fours ks := hkF
    have HZ8 := hide (size_fsl hFs h4s)
    have tz : w4.there (w.heap.size + 2) 0 (fsC ks).toArray.size := by rw [show (fsC ks).toArray.size = 84 by rw [List.size_toArray, len_fsC _ hFs, h4s]]; exact V4
    have pz := World.rangeAt_setCells_same w4 (w.heap.size + 2) 0 (fsC ks) tz
    have Bz := below_setCells (w.heap.size + 2) (show w.heap.size ≤ w.heap.size + 2 by omega) (fsC ks) 0 _ B4
    go_wp2_with (first | (refine wpList_load_mid rfl 66 _ rfl w.heap.size 0 rfl (fsC ks) _ K4 Tryz.underlying66 rfl (unhide HZ8) ?_) | (refine wpList_store_mid rfl 66 _ _ rfl (w.heap.size + 2) 0 (fsC ks).toArray rfl rfl tz (size_fsa hFs h4s) (one_fs ks) ?_) | (refine bodyPost_ret (res_cell_tmp Tryz.results104 _ _ (w.heap.size + 2) (fsC ks) _ rfl pz Tryz.underlying66 rfl (unhide HZ8)) rfl (unhide ?_)))
    exact hide ⟨by rw [unhide HR, unhide HNT]; rfl, Bz⟩
  have hu4 : u < 4 := by omega
  have hz' : ((u : Int) == 4) = false := by simp; omega
  have HH := hide (has_any ks rs hk4 hkF)
  have HZ7 := hide (size_fsl hkF hk4)
  have e1 := R4 1 _ rfl
  simp only [Nat.zero_add] at e1
  cases hh : hasB ks rs
  rotate_left
  · have HNT : Hid (wrN ks k rs = true) := by show _ = _; rw [unhide HN, hh, Bool.or_true]
    have HR : Hid (Rs = ks) := by show _ = _; rw [unhide HR0, unhide HNT]; rfl
    rw [show (seqs ks).contains rs = true from hh] at HH
    clear HR0 HN HWL T4 R4 hh hz
    go_wp2_with (first | (refine wpList_load_want 66 _ rfl rfl w.heap.size 0 rfl (fsC ks) _ K4 Tryz.underlying66 rfl (unhide HZ7) ?_))
    refine (unhide HH _).mono ?_
    rintro e w5 ⟨rfl, b5⟩
    have B5 := B4.trans (b5.mono B4.size)
    have K5 := rangeAt_below K4 b5 (by omega)
    have V5 := there_below V4 b5 (by omega)
    clear b5 B4 K4 V4 e1
    have h4s : ks.length = 4 := hk4
    have hFs : Fours ks := hkF
    have HZ8 := hide (size_fsl hFs h4s)
    have tz : w5.there (w.heap.size + 2) 0 (fsC ks).toArray.size := by rw [show (fsC ks).toArray.size = 84 by rw [List.size_toArray, len_fsC _ hFs, h4s]]; exact V5
    have pz := World.rangeAt_setCells_same w5 (w.heap.size + 2) 0 (fsC ks) tz
    have Bz := below_setCells (w.heap.size + 2) (show w.heap.size ≤ w.heap.size + 2 by omega) (fsC ks) 0 _ B5
    go_wp2_with (first | (refine wpList_load_mid rfl 66 _ rfl w.heap.size 0 rfl (fsC ks) _ K5 Tryz.underlying66 rfl (unhide HZ8) ?_) | (refine wpList_store_mid rfl 66 _ _ rfl (w.heap.size + 2) 0 (fsC ks).toArray rfl rfl tz (size_fsa hFs h4s) (one_fs ks) ?_) | (refine bodyPost_ret (res_cell_tmp Tryz.results104 _ _ (w.heap.size + 2) (fsC ks) _ rfl pz Tryz.underlying66 rfl (unhide HZ8)) rfl (unhide ?_)))
    exact hide ⟨by rw [unhide HR, unhide HNT]; rfl, Bz⟩
  have HNT : Hid (wrN ks k rs = false) := by show _ = _; rw [unhide HN, hh, Bool.or_false]; simpa using hz
  have HR : Hid (Rs = wrL ks k (pgW torn rk rs ra rv)) := by show _ = _; rw [unhide HR0, unhide HNT]; rfl
  rw [show (seqs ks).contains rs = false from hh] at HH
  clear HR0 HN hh hz
  go_wp2_with (first | (refine wpList_load_want 66 _ rfl rfl w.heap.size 0 rfl (fsC ks) _ K4 Tryz.underlying66 rfl (unhide HZ7) ?_))
  refine (unhide HH _).mono ?_
  rintro e w5 ⟨rfl, b5⟩
  have B5 := (B4.trans (b5.mono B4.size)).drew
  have K5 : w5.drew.rangeAt w.heap.size 0 (fsC ks) := by simpa using rangeAt_below K4 b5 (by omega)
  have T5 : w5.drew.there w.heap.size 0 84 := (World.there_drew _ _ _ _).2 (there_below T4 b5 (by omega))
  have V5 : w5.drew.there (w.heap.size + 2) 0 84 := (World.there_drew _ _ _ _).2 (there_below V4 b5 (by omega))
  have R5 : w5.drew.rangeAt (w.heap.size + 1) 0 [.int .i64 rk, .int .i64 rs, .int .i64 ra, .int .i64 rv] := by simpa using rangeAt_below R4 b5 (by omega)
  have s5 : w.heap.size + 2 < w5.drew.heap.size := by simpa using Nat.lt_of_lt_of_le s4 b5.size
  clear b5 B4 K4 T4 R4 V4 s4 e1 HH
  have hu0 : (0 : Int) ≤ (u : Int) := by omega
  have hu5 : (u : Int) < 4 := by omega
  have SP := hide (store_page hkF hk4 K5 T5 k hk u hu4 ⟨1, rk, rs, ra, rv⟩)
  rw [← unhide HWL] at SP
  have tk5 : w5.drew.there w.heap.size (k * 21 + u * 5) (pgC ⟨1, rk, rs, ra, rv⟩).toArray.size := by have := there_sub T5 (k * 21 + u * 5) 5 (by omega); rw [Nat.zero_add] at this; exact this
  have HI5 := hide (size_pga ⟨1, rk, rs, ra, rv⟩)
  have o5 := one_pg ⟨1, rk, rs, ra, rv⟩
  have HGW := hide (wrL_fours hkF hkb (p := ⟨1, rk, rs, ra, rv⟩))
  go_wp2_with fail
  refine wp_region_noPanic ?_
  refine wp_region_held_drew (S := fun w' => w'.rangeAt (w.heap.size + 1) 0 [.int .i64 rk, .int .i64 rs, .int .i64 ra, .int .i64 rv]) (by kernel_rfl) (R5) (fun hHeld => ?_)
  refine takeL 0 (.int .i64 k) rfl (by kernel_rfl) (by kernel_rfl) (by kernel_rfl) (fun _ _ _ h => h) (Or.inl ⟨rfl, fun _ _ => rfl⟩) hHeld ?_
  try simp only [Act.put, List.setIfInBounds_toArray, List.set_cons_zero, List.set_cons_succ]
  refine takeL 1 (.int .i64 (u : Int)) rfl (by kernel_rfl) (by kernel_rfl) (by kernel_rfl) (fun _ _ _ h => h) (Or.inl ⟨rfl, fun _ _ => rfl⟩) hHeld ?_
  try simp only [Act.put, List.setIfInBounds_toArray, List.set_cons_zero, List.set_cons_succ]
  refine takeL 2 (.agg #[.int .i64 rk, .int .i64 rs, .int .i64 ra, .int .i64 rv]) rfl (by kernel_rfl) (by kernel_rfl) (by kernel_rfl) (fun _ _ _ h => h) (yieldsIf_load_mid rfl 46 _ rfl (w.heap.size + 1) 0 rfl [.int .i64 rk, .int .i64 rs, .int .i64 ra, .int .i64 rv] _ (fun _ h => h) Tryz.underlying46 rfl (by kernel_rfl)) hHeld ?_
  try simp only [Act.put, List.setIfInBounds_toArray, List.set_cons_zero, List.set_cons_succ]
  refine takeL 3 (.agg #[.int .i64 1, .int .i64 rk, .int .i64 rs, .int .i64 ra, .int .i64 rv]) rfl (by kernel_rfl) (by kernel_rfl) (by kernel_rfl) (fun _ _ _ h => h) (Or.inl ⟨rfl, fun w9 hSw => by go_simp⟩) hHeld ?_
  try simp only [Act.put, List.setIfInBounds_toArray, List.set_cons_zero, List.set_cons_succ]
  refine takeL 4 (.pointer (some ⟨w.heap.size, k * 21, none⟩)) rfl (by kernel_rfl) (by kernel_rfl) (by kernel_rfl) (fun _ _ _ h => h) (Or.inl ⟨rfl, fun w9 hSw => by go_simp⟩) hHeld ?_
  try simp only [Act.put, List.setIfInBounds_toArray, List.set_cons_zero, List.set_cons_succ]
  refine takeL 5 (.pointer (some ⟨w.heap.size, k * 21, none⟩)) rfl (by kernel_rfl) (by kernel_rfl) (by kernel_rfl) (fun _ _ _ h => h) (Or.inl ⟨rfl, fun w9 hSw => by go_simp⟩) hHeld ?_
  try simp only [Act.put, List.setIfInBounds_toArray, List.set_cons_zero, List.set_cons_succ]
  refine takeL 6 (.pointer (some ⟨w.heap.size, k * 21, none⟩)) rfl (by kernel_rfl) (by kernel_rfl) (by kernel_rfl) (fun _ _ _ h => h) (Or.inl ⟨rfl, fun w9 hSw => by go_simp⟩) hHeld ?_
  try simp only [Act.put, List.setIfInBounds_toArray, List.set_cons_zero, List.set_cons_succ]
  refine takeL 7 (.pointer (some ⟨w.heap.size, k * 21 + u * 5, none⟩)) rfl (by kernel_rfl) (by kernel_rfl) (by kernel_rfl) (fun _ _ _ h => h) (Or.inl ⟨rfl, fun w9 hSw => by go_simp⟩) hHeld ?_
  try simp only [Act.put, List.setIfInBounds_toArray, List.set_cons_zero, List.set_cons_succ]
  refine oneL 8 rfl (by kernel_rfl) rfl (fun K hK => ?_)
  refine wp_store_mid 59 _ _ rfl w.heap.size (k * 21 + u * 5) (pgC ⟨1, rk, rs, ra, rv⟩).toArray rfl rfl tk5 (unhide HI5) o5 ?_
  refine hK.out _ _ (World.rangeAt_setCells_apart hHeld _ _ _ (.inl (by omega))) (fun hHeld => ?_)
  clear hK K
  try simp only [Act.put, List.setIfInBounds_toArray, List.set_cons_zero, List.set_cons_succ]
  refine wpAnyH_done (by kernel_rfl) ?_ _
  refine NoPanic.normal ?_
  have BS := below_setCells w.heap.size (Nat.le_refl _) (pgC ⟨1, rk, rs, ra, rv⟩) (k * 21 + u * 5) _ B5
  have TS := World.there_setCells T5 w.heap.size (k * 21 + u * 5) (pgC ⟨1, rk, rs, ra, rv⟩)
  have VS := World.there_setCells V5 w.heap.size (k * 21 + u * 5) (pgC ⟨1, rk, rs, ra, rv⟩)
  clear B5 T5 K5 R5 V5 hHeld tk5 HI5 o5
  generalize w5.drew.setCells w.heap.size (k * 21 + u * 5) (pgC ⟨1, rk, rs, ra, rv⟩) = w6 at *
  cases torn
  · have HW1 : Hid (pgW false rk rs ra rv = ⟨1, rk, rs, ra, rv⟩) := rfl
    rw [unhide HW1] at HR
    clear HW1 HWL TS
    have hL4 : (wrL ks k ⟨1, rk, rs, ra, rv⟩).length = 4 := by rw [wrL_len]; exact hk4
    generalize wrL ks k ⟨1, rk, rs, ra, rv⟩ = L1 at *
    have RS := unhide SP
    clear SP
    have h4s : L1.length = 4 := hL4
    have hFs : Fours L1 := unhide HGW
    have HZ8 := hide (size_fsl hFs h4s)
    have tz : w6.there (w.heap.size + 2) 0 (fsC L1).toArray.size := by rw [show (fsC L1).toArray.size = 84 by rw [List.size_toArray, len_fsC _ hFs, h4s]]; exact VS
    have pz := World.rangeAt_setCells_same w6 (w.heap.size + 2) 0 (fsC L1) tz
    have Bz := below_setCells (w.heap.size + 2) (show w.heap.size ≤ w.heap.size + 2 by omega) (fsC L1) 0 _ BS
    clear HGW VS BS
    go_wp2_with (first | (refine wpList_load_mid rfl 66 _ rfl w.heap.size 0 rfl (fsC L1) _ RS Tryz.underlying66 rfl (unhide HZ8) ?_) | (refine wpList_store_mid rfl 66 _ _ rfl (w.heap.size + 2) 0 (fsC L1).toArray rfl rfl tz (size_fsa hFs h4s) (one_fs L1) ?_) | (refine bodyPost_ret (res_cell_tmp Tryz.results104 _ _ (w.heap.size + 2) (fsC L1) _ rfl pz Tryz.underlying66 rfl (unhide HZ8)) rfl (unhide ?_)))
    exact hide ⟨by rw [unhide HR, unhide HNT]; rfl, Bz⟩
  · have HW1 : Hid (pgW true rk rs ra rv = ⟨2, 0, 0, 0, 0⟩) := rfl
    rw [unhide HW1] at HR
    have SP2 := hide (store_page (unhide HGW) (by rw [wrL_len]; exact hk4) (unhide SP) TS k hk u hu4 ⟨2, 0, 0, 0, 0⟩)
    have HE : Hid ((wrL ks k ⟨1, rk, rs, ra, rv⟩).set k ⟨((wrL ks k ⟨1, rk, rs, ra, rv⟩).getD k zBk).ps.set u ⟨2, 0, 0, 0, 0⟩, ((wrL ks k ⟨1, rk, rs, ra, rv⟩).getD k zBk).wn⟩ = wrL ks k ⟨2, 0, 0, 0, 0⟩) := by
      show _ = _
      rw [unhide HWL, unhide HWL]
      have hg2 : ∀ b : Bk, (ks.set k b).getD k zBk = b := fun b => by rw [List.getD_eq_getElem?_getD, List.getElem?_set_self hkb]; rfl
      rw [hg2]
      simp only [List.set_set]
    rw [unhide HE] at SP2
    have HGW2 := hide (wrL_fours hkF hkb (p := ⟨2, 0, 0, 0, 0⟩))
    have HSC : Hid (w6.setCells w.heap.size (k * 21 + u * 5) (pgC ⟨2, 0, 0, 0, 0⟩) = ((((w6.setCell ⟨w.heap.size, k * 21 + u * 5, none⟩ (.int .i64 2)).setCell ⟨w.heap.size, k * 21 + u * 5 + 1, none⟩ (.int .i64 0)).setCell ⟨w.heap.size, k * 21 + u * 5 + 2, none⟩ (.int .i64 0)).setCell ⟨w.heap.size, k * 21 + u * 5 + 3, none⟩ (.int .i64 0)).setCell ⟨w.heap.size, k * 21 + u * 5 + 4, none⟩ (.int .i64 0)) := rfl
    have B9 := hide (below_setCells w.heap.size (Nat.le_refl _) (pgC ⟨2, 0, 0, 0, 0⟩) (k * 21 + u * 5) _ BS)
    have V9 := hide (World.there_setCells VS w.heap.size (k * 21 + u * 5) (pgC ⟨2, 0, 0, 0, 0⟩))
    rw [unhide HSC] at SP2 B9 V9
    have T0 := there_sub TS (k * 21 + u * 5) 5 (by omega)
    rw [Nat.zero_add] at T0
    obtain ⟨v0, x0⟩ := Option.isSome_iff_exists.1 (T0 0 (by omega)).1
    obtain ⟨v1, x1⟩ := Option.isSome_iff_exists.1 (T0 1 (by omega)).1
    obtain ⟨v2, x2⟩ := Option.isSome_iff_exists.1 (T0 2 (by omega)).1
    obtain ⟨v3, x3⟩ := Option.isSome_iff_exists.1 (T0 3 (by omega)).1
    obtain ⟨v4, x4⟩ := Option.isSome_iff_exists.1 (T0 4 (by omega)).1
    have f0 := (T0 0 (by omega)).2
    have f1 := (T0 1 (by omega)).2
    have f2 := (T0 2 (by omega)).2
    have f3 := (T0 3 (by omega)).2
    have f4 := (T0 4 (by omega)).2
    simp only [Nat.add_zero] at x0 f0
    have hL4 : (wrL ks k ⟨2, 0, 0, 0, 0⟩).length = 4 := by rw [wrL_len]; exact hk4
    clear HW1 HWL TS SP HE HSC T0 BS HGW VS
    generalize wrL ks k ⟨2, 0, 0, 0, 0⟩ = L1 at *
    go_upto_region 7 with fail
    refine wp_world (φ := fun w' => w'.rangeAt w.heap.size 0 (fsC L1) ∧ Below w.heap.size w w' ∧ w'.there (w.heap.size + 2) 0 84) ⟨unhide SP2, unhide B9, unhide V9⟩ ?_
    clear B9 SP2 V9 x0 x1 x2 x3 x4 f0 f1 f2 f3 f4
    rintro w8 ⟨RS, BS, VS⟩
    have h4s : L1.length = 4 := hL4
    have hFs : Fours L1 := unhide HGW2
    have HZ8 := hide (size_fsl hFs h4s)
    have tz : w8.there (w.heap.size + 2) 0 (fsC L1).toArray.size := by rw [show (fsC L1).toArray.size = 84 by rw [List.size_toArray, len_fsC _ hFs, h4s]]; exact VS
    have pz := World.rangeAt_setCells_same w8 (w.heap.size + 2) 0 (fsC L1) tz
    have Bz := below_setCells (w.heap.size + 2) (show w.heap.size ≤ w.heap.size + 2 by omega) (fsC L1) 0 _ BS
    clear HGW2 VS BS
    go_wp2_with (first | (refine wpList_load_mid rfl 66 _ rfl w.heap.size 0 rfl (fsC L1) _ RS Tryz.underlying66 rfl (unhide HZ8) ?_) | (refine wpList_store_mid rfl 66 _ _ rfl (w.heap.size + 2) 0 (fsC L1).toArray rfl rfl tz (size_fsa hFs h4s) (one_fs L1) ?_) | (refine bodyPost_ret (res_cell_tmp Tryz.results104 _ _ (w.heap.size + 2) (fsC L1) _ rfl pz Tryz.underlying66 rfl (unhide HZ8)) rfl (unhide ?_)))
    exact hide ⟨by rw [unhide HR, unhide HNT]; rfl, Bz⟩

theorem here : True := trivial
end Go.Proofs.YtcmklcfedeeahaaGreat.ImplX
