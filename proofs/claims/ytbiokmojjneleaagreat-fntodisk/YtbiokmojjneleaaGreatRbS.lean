/-
  Texts that belong together, one behind the other: LqI, OrdL, OrdM, Sn9, PlB, PlC, PlD, Px, Py, Pz, Pu.
-/
import Derived.Test.YtbiokmojjneleaaGreatRaH
import Derived.Test.YtbiokmojjneleaaGreatHaU
import Derived.Test.YtbiokmojjneleaaGreatHaA
import Derived.Test.YtbiokmojjneleaaGreatHaN
import Derived.Test.YtbiokmojjneleaaGreatHaX
import Derived.Test.YtbiokmojjneleaaGreatHbL
import Derived.Test.YtbiokmojjneleaaGreatRaP
import Derived.Test.YtbiokmojjneleaaGreatHaL
import Derived.Test.YtbiokmojjneleaaGreatHaF
import Derived.Test.YtbiokmojjneleaaGreatHaS
import Derived.Test.YtbiokmojjneleaaGreatHbQ

/-
  The laws' own comparing of numbers: it says whether they are the same.
-/
namespace Go.Proofs.YtbiokmojjneleaaGreat.LqI
open Go.ChangeShapes Go.WideShapes Go.ChangeAt Go.RowKit OkA Big Fl ImplB ImplF ImplS ImplT ImplU SpecA SpecB LawsA LawsB LawsE StA StB
set_option linter.unusedVariables false
set_option linter.unusedSimpArgs false
attribute [local go_sem ↓] Go.wp_at_zero Go.wp_at_succ

/-- Whether two lists are the same. -/
def sameL (xs ys : List Int) : Bool := decide (xs = ys)
theorem same_iff {xs ys : List Int} : sameL xs ys = true ↔ xs = ys := by simp [sameL]
theorem same_self (xs : List Int) : sameL xs xs = true := by simp [sameL]
theorem same_len {xs ys : List Int} (h : xs.length ≠ ys.length) : sameL xs ys = false := by
  cases hs : sameL xs ys
  · rfl
  · exact absurd (congrArg List.length (same_iff.1 hs)) h
set_option maxHeartbeats 1000000 in
theorem lqInts_any (a1 a2 : Option Addr) (cap1 cap2 : Nat) (xs ys : List Int) (w : World) (h1 : DkAt w a1 xs) (h2 : DkAt w a2 ys) (hl : xs.length ≤ 1048576) (hl2 : ys.length ≤ 1048576) :
    Calls Tryz.prog 25 #[.slice a1 xs.length cap1, .slice a2 ys.length cap2] w fun e w' => e = .returned (.bool (sameL xs ys)) ∧ Below w.heap.size w w' := by
  have H1 := hide h1
  have H2 := hide h2
  clear h1 h2
  have HS : Hid (∀ k, k < xs.length → xs.length = ys.length → xs.getD k 0 ≠ ys.getD k 0 → sameL xs ys = false) := fun k _ _ hne => by
    cases hs : sameL xs ys
    · rfl
    · rw [same_iff.1 hs] at hne; exact absurd rfl hne
  have HT : Hid (xs.length = ys.length → (∀ k, k < xs.length → xs.getD k 0 = ys.getD k 0) → sameL xs ys = true) := fun he hk => same_iff.2 (List.ext_getElem he fun j q1 q2 => by
    have := hk j q1
    rwa [List.getD_eq_getElem?_getD, List.getElem?_eq_getElem q1, List.getD_eq_getElem?_getD, List.getElem?_eq_getElem q2] at this)
  have HL : Hid (xs.length ≠ ys.length → sameL xs ys = false) := fun h => same_len h
  generalize sameL xs ys = R at *
  generalize hn : xs.length = n at *
  generalize hm : ys.length = m at *
  have HN := hide hn
  have HM := hide hm
  clear hn hm
  have hli : (n : Int) ≤ 1048576 := by omega
  have hmi : (m : Int) ≤ 1048576 := by omega
  go_enter Tryz.func25, Tryz.ntmps25
  by_cases hnm : n = m
  · subst hnm
    go_wp2
    go_loopw [5] (fun i w' => ∃ k : Nat, k ≤ n ∧ i = .int .i64 k ∧ Hid (∀ j, j < k → xs.getD j 0 = ys.getD j 0) ∧ Below w.heap.size w w') (fun i _ => n - (intOf i).toNat)
    case atStart => exact ⟨0, by omega, rfl, (fun j hj => by omega), Below.refl _ _⟩
    case round =>
      obtain ⟨k, hk, rfl, HI, bw⟩ := hrel
      by_cases h0 : k = n
      · subst h0
        have HR : Hid (R = true) := unhide HT (by first | rfl | trivial) (unhide HI)
        go_wp2
        go_ret
        exact ⟨by rw [unhide HR]; rfl, bw⟩
      · have hlt : (k : Int) < (n : Int) := by omega
        have hkx : k < xs.length := by have := unhide HN; omega
        have hky : k < ys.length := by have := unhide HM; omega
        have hlo : (0 : Int) ≤ (k : Int) := by omega
        obtain ⟨b1, o1, rfl, g1⟩ : ∃ b o, a1 = some ⟨b, o, none⟩ ∧ wr.rangeAt b o (isC xs) := by
          rcases (unhide H1).below bw with rfl | h
          · simp at hkx
          · exact h
        obtain ⟨b2, o2, rfl, g2⟩ : ∃ b o, a2 = some ⟨b, o, none⟩ ∧ wr.rangeAt b o (isC ys) := by
          rcases (unhide H2).below bw with rfl | h
          · simp at hky
          · exact h
        have x1 := isC_at g1 k hkx
        have x2 := isC_at g2 k hky
        have HX : Hid (xs.getD k 0 ≠ ys.getD k 0 → R = false) := fun q => unhide HS k (by omega) (by first | rfl | trivial) q
        have HI2 : Hid (xs.getD k 0 = ys.getD k 0 → ∀ j, j < k + 1 → xs.getD j 0 = ys.getD j 0) := fun q j hj => by
          by_cases e : j = k
          · subst e; exact q
          · exact unhide HI j (by omega)
        clear g1 g2 HS HT HL HI
        generalize xs.getD k 0 = x at *
        generalize ys.getD k 0 = y at *
        go_wp2_with fail
        refine wp_region_noPanic ?_
        refine wp_region_held_drew (S := fun w' => w'.cell? ⟨b1, o1 + k, none⟩ = some (.int .i64 x) ∧ w'.cell? ⟨b2, o2 + k, none⟩ = some (.int .i64 y)) (by kernel_rfl) (⟨by simpa using x1, by simpa using x2⟩) (fun hHeld => ?_)
        refine takeL 0 (.slice (some ⟨b1, o1, none⟩) n cap1) rfl (by kernel_rfl) (by kernel_rfl) (by kernel_rfl) (fun _ _ _ h => h) (Or.inl ⟨rfl, fun _ _ => rfl⟩) hHeld ?_
        try simp only [Act.put, List.setIfInBounds_toArray, List.set_cons_zero, List.set_cons_succ]
        refine takeL 1 (.int .i64 k) rfl (by kernel_rfl) (by kernel_rfl) (by kernel_rfl) (fun _ _ _ h => h) (Or.inl ⟨rfl, fun _ _ => rfl⟩) hHeld ?_
        try simp only [Act.put, List.setIfInBounds_toArray, List.set_cons_zero, List.set_cons_succ]
        refine takeL 2 (.pointer (some ⟨b1, o1 + k, none⟩)) rfl (by kernel_rfl) (by kernel_rfl) (by kernel_rfl) (fun _ _ _ h => h) (Or.inl ⟨rfl, fun w9 hSw => by go_simp⟩) hHeld ?_
        try simp only [Act.put, List.setIfInBounds_toArray, List.set_cons_zero, List.set_cons_succ]
        refine takeL 3 (.int .i64 x) rfl (by kernel_rfl) (by kernel_rfl) (by kernel_rfl) (fun _ _ _ h => h) (Or.inl ⟨rfl, fun w9 hSw => by have hc := hSw.1; go_simp⟩) hHeld ?_
        try simp only [Act.put, List.setIfInBounds_toArray, List.set_cons_zero, List.set_cons_succ]
        refine takeL 4 (.slice (some ⟨b2, o2, none⟩) n cap2) rfl (by kernel_rfl) (by kernel_rfl) (by kernel_rfl) (fun _ _ _ h => h) (Or.inl ⟨rfl, fun _ _ => rfl⟩) hHeld ?_
        try simp only [Act.put, List.setIfInBounds_toArray, List.set_cons_zero, List.set_cons_succ]
        refine takeL 5 (.int .i64 k) rfl (by kernel_rfl) (by kernel_rfl) (by kernel_rfl) (fun _ _ _ h => h) (Or.inl ⟨rfl, fun _ _ => rfl⟩) hHeld ?_
        try simp only [Act.put, List.setIfInBounds_toArray, List.set_cons_zero, List.set_cons_succ]
        refine takeL 6 (.pointer (some ⟨b2, o2 + k, none⟩)) rfl (by kernel_rfl) (by kernel_rfl) (by kernel_rfl) (fun _ _ _ h => h) (Or.inl ⟨rfl, fun w9 hSw => by go_simp⟩) hHeld ?_
        try simp only [Act.put, List.setIfInBounds_toArray, List.set_cons_zero, List.set_cons_succ]
        refine takeL 7 (.int .i64 y) rfl (by kernel_rfl) (by kernel_rfl) (by kernel_rfl) (fun _ _ _ h => h) (Or.inl ⟨rfl, fun w9 hSw => by have hc := hSw.2; go_simp⟩) hHeld ?_
        try simp only [Act.put, List.setIfInBounds_toArray, List.set_cons_zero, List.set_cons_succ]
        refine takeL 8 (.bool (x != y)) rfl (by kernel_rfl) (by kernel_rfl) (by kernel_rfl) (fun _ _ _ h => h) (Or.inl ⟨rfl, fun w9 hSw => by go_simp⟩) hHeld ?_
        try simp only [Act.put, List.setIfInBounds_toArray, List.set_cons_zero, List.set_cons_succ]
        refine wpAnyH_done (by kernel_rfl) ?_ _
        refine NoPanic.normal ?_
        clear hHeld x1 x2
        by_cases q : x = y
        · have hq : (x != y) = false := by simpa using q
          have HI3 : Hid (∀ j, j < k + 1 → xs.getD j 0 = ys.getD j 0) := unhide HI2 q
          clear q
          go_wp2
          go_roundw
          case rel => exact ⟨k + 1, by omega, by first | rfl | go_num, HI3, bw.drew⟩
          case measure => simp [intOf]; omega
        · have hq : (x != y) = true := by simpa using q
          have HR : Hid (R = false) := unhide HX q
          clear q
          go_wp2
          go_ret
          exact ⟨by rw [unhide HR]; rfl, bw.drew⟩
  · have hne : (n : Int) ≠ (m : Int) := by omega
    have hnb : ((n : Int) != (m : Int)) = true := by simpa using hne
    have HR : Hid (R = false) := unhide HL hnm
    go_wp2
    go_ret
    exact ⟨by rw [unhide HR]; rfl, Below.refl _ _⟩
end Go.Proofs.YtbiokmojjneleaaGreat.LqI

/-
  Of three operations any one may come up.
-/
namespace Go.Proofs.YtbiokmojjneleaaGreat.OrdL
open Go.ChangeShapes Go.WideShapes Go.ChangeAt Go.RowKit Big Kp ImplL
section
variable {P : Program} {Q : Exit → Act → World → Prop} {a : Act} {w : World}
theorem twoL {l : List Oper} {md : Region.Mode} {S : World → Prop} (i j : Nat) {oi oj : Oper} {fuel : Nat} {listed : Array Bool} (hi : nth l i = some oi) (hj : nth l j = some oj) (hr : Region.ready md l.toArray listed = [i, j])
    (hwi : Region.wanted oi (yielded l.toArray a.tmps) = true) (hwj : Region.wanted oj (yielded l.toArray a.tmps) = true)
    (h1 : ∀ K' : Act → World → Prop, Shut (∀ a w, S w → (S w → wpAnyH P md l.toArray Q S fuel (listed.setIfInBounds i true) a w) → K' a w) → Oper.wp P oi a w K' Q)
    (h2 : ∀ K' : Act → World → Prop, Shut (∀ a w, S w → (S w → wpAnyH P md l.toArray Q S fuel (listed.setIfInBounds j true) a w) → K' a w) → Oper.wp P oj a w K' Q) : wpAnyH P md l.toArray Q S (fuel + 1) listed a w :=
  wpAnyH_ready hr (by simp) (AllReadyH.cons (nth_spec l i oi hi) (fun K hK => by rw [if_pos hwi]; exact h1 K hK) (AllReadyH.cons (nth_spec l j oj hj) (fun K hK => by rw [if_pos hwj]; exact h2 K hK) AllReadyH.nil))
theorem threeL {l : List Oper} {md : Region.Mode} {S : World → Prop} (i j k : Nat) {oi oj ok : Oper} {fuel : Nat} {listed : Array Bool} (hi : nth l i = some oi) (hj : nth l j = some oj) (hk : nth l k = some ok) (hr : Region.ready md l.toArray listed = [i, j, k])
    (hwi : Region.wanted oi (yielded l.toArray a.tmps) = true) (hwj : Region.wanted oj (yielded l.toArray a.tmps) = true) (hwk : Region.wanted ok (yielded l.toArray a.tmps) = true)
    (h1 : ∀ K' : Act → World → Prop, Shut (∀ a w, S w → (S w → wpAnyH P md l.toArray Q S fuel (listed.setIfInBounds i true) a w) → K' a w) → Oper.wp P oi a w K' Q)
    (h2 : ∀ K' : Act → World → Prop, Shut (∀ a w, S w → (S w → wpAnyH P md l.toArray Q S fuel (listed.setIfInBounds j true) a w) → K' a w) → Oper.wp P oj a w K' Q)
    (h3 : ∀ K' : Act → World → Prop, Shut (∀ a w, S w → (S w → wpAnyH P md l.toArray Q S fuel (listed.setIfInBounds k true) a w) → K' a w) → Oper.wp P ok a w K' Q) : wpAnyH P md l.toArray Q S (fuel + 1) listed a w :=
  wpAnyH_ready hr (by simp) (AllReadyH.cons (nth_spec l i oi hi) (fun K hK => by rw [if_pos hwi]; exact h1 K hK) (AllReadyH.cons (nth_spec l j oj hj) (fun K hK => by rw [if_pos hwj]; exact h2 K hK) (AllReadyH.cons (nth_spec l k ok hk) (fun K hK => by rw [if_pos hwk]; exact h3 K hK) AllReadyH.nil)))
end
theorem join0 {P : Program} {c : Code} {Q' : Exit → Act → World → Prop} {a : Act} {w : World} {f : Act} {F : World → Prop}
    (h : c.wp P (fun e a' w' => e = Exit.normal ∧ a' = f  ∧ F  w') a w) (k : ∀  w', F  w' → Q' Exit.normal (f ) w') : c.wp P Q' a w :=
  Code.wp_mono (fun e a' w' q => by obtain ⟨rfl, rfl, q⟩ := q; exact k  w' q) h
theorem join1 {P : Program} {c : Code} {Q' : Exit → Act → World → Prop} {a : Act} {w : World} {α0 : Type} {f : α0 → Act} {F : α0 → World → Prop}
    (h : c.wp P (fun e a' w' => e = Exit.normal ∧ ∃ x0, a' = f x0 ∧ F x0 w') a w) (k : ∀ x0 w', F x0 w' → Q' Exit.normal (f x0) w') : c.wp P Q' a w :=
  Code.wp_mono (fun e a' w' q => by obtain ⟨rfl, x0, rfl, q⟩ := q; exact k _ w' q) h
theorem join2 {P : Program} {c : Code} {Q' : Exit → Act → World → Prop} {a : Act} {w : World} {α0 α1 : Type} {f : α0 → α1 → Act} {F : α0 → α1 → World → Prop}
    (h : c.wp P (fun e a' w' => e = Exit.normal ∧ ∃ x0, ∃ x1, a' = f x0 x1 ∧ F x0 x1 w') a w) (k : ∀ x0 x1 w', F x0 x1 w' → Q' Exit.normal (f x0 x1) w') : c.wp P Q' a w :=
  Code.wp_mono (fun e a' w' q => by obtain ⟨rfl, x0, x1, rfl, q⟩ := q; exact k _ _ w' q) h
theorem join3 {P : Program} {c : Code} {Q' : Exit → Act → World → Prop} {a : Act} {w : World} {α0 α1 α2 : Type} {f : α0 → α1 → α2 → Act} {F : α0 → α1 → α2 → World → Prop}
    (h : c.wp P (fun e a' w' => e = Exit.normal ∧ ∃ x0, ∃ x1, ∃ x2, a' = f x0 x1 x2 ∧ F x0 x1 x2 w') a w) (k : ∀ x0 x1 x2 w', F x0 x1 x2 w' → Q' Exit.normal (f x0 x1 x2) w') : c.wp P Q' a w :=
  Code.wp_mono (fun e a' w' q => by obtain ⟨rfl, x0, x1, x2, rfl, q⟩ := q; exact k _ _ _ w' q) h
theorem join4 {P : Program} {c : Code} {Q' : Exit → Act → World → Prop} {a : Act} {w : World} {α0 α1 α2 α3 : Type} {f : α0 → α1 → α2 → α3 → Act} {F : α0 → α1 → α2 → α3 → World → Prop}
    (h : c.wp P (fun e a' w' => e = Exit.normal ∧ ∃ x0, ∃ x1, ∃ x2, ∃ x3, a' = f x0 x1 x2 x3 ∧ F x0 x1 x2 x3 w') a w) (k : ∀ x0 x1 x2 x3 w', F x0 x1 x2 x3 w' → Q' Exit.normal (f x0 x1 x2 x3) w') : c.wp P Q' a w :=
  Code.wp_mono (fun e a' w' q => by obtain ⟨rfl, x0, x1, x2, x3, rfl, q⟩ := q; exact k _ _ _ _ w' q) h
theorem kcells (w : World) (b o : Nat) (vs : List Value) : Kept [b] w (w.setCells b o vs) := (Kept.refl [b] w).setCells (.inl (by simp)) o vs
theorem ckept {w w' : World} {b : Nat} {cs : List Value} (h : CsAt w b cs) {L : List Nat} (k : Kept L w w') (hb : b < w.heap.size) (hL : b ∉ L) : CsAt w' b cs := ⟨k.range h.cells hb hL, k.there h.free hb hL⟩
end Go.Proofs.YtbiokmojjneleaaGreat.OrdL

/-
  Joins of five and six letters, as OrdL's.
-/
namespace Go.Proofs.YtbiokmojjneleaaGreat.OrdM
theorem join5 {P : Program} {c : Code} {Q' : Exit → Act → World → Prop} {a : Act} {w : World} {α0 α1 α2 α3 α4 : Type} {f : α0 → α1 → α2 → α3 → α4 → Act} {F : α0 → α1 → α2 → α3 → α4 → World → Prop}
    (h : c.wp P (fun e a' w' => e = Exit.normal ∧ ∃ x0, ∃ x1, ∃ x2, ∃ x3, ∃ x4, a' = f x0 x1 x2 x3 x4 ∧ F x0 x1 x2 x3 x4 w') a w) (k : ∀ x0 x1 x2 x3 x4 w', F x0 x1 x2 x3 x4 w' → Q' Exit.normal (f x0 x1 x2 x3 x4) w') : c.wp P Q' a w :=
  Code.wp_mono (fun e a' w' q => by obtain ⟨rfl, x0, x1, x2, x3, x4, rfl, q⟩ := q; exact k _ _ _ _ _ w' q) h
theorem join6 {P : Program} {c : Code} {Q' : Exit → Act → World → Prop} {a : Act} {w : World} {α0 α1 α2 α3 α4 α5 : Type} {f : α0 → α1 → α2 → α3 → α4 → α5 → Act} {F : α0 → α1 → α2 → α3 → α4 → α5 → World → Prop}
    (h : c.wp P (fun e a' w' => e = Exit.normal ∧ ∃ x0, ∃ x1, ∃ x2, ∃ x3, ∃ x4, ∃ x5, a' = f x0 x1 x2 x3 x4 x5 ∧ F x0 x1 x2 x3 x4 x5 w') a w) (k : ∀ x0 x1 x2 x3 x4 x5 w', F x0 x1 x2 x3 x4 x5 w' → Q' Exit.normal (f x0 x1 x2 x3 x4 x5) w') : c.wp P Q' a w :=
  Code.wp_mono (fun e a' w' q => by obtain ⟨rfl, x0, x1, x2, x3, x4, x5, rfl, q⟩ := q; exact k _ _ _ _ _ _ w' q) h
theorem join7 {P : Program} {c : Code} {Q' : Exit → Act → World → Prop} {a : Act} {w : World} {α0 α1 α2 α3 α4 α5 α6 : Type} {f : α0 → α1 → α2 → α3 → α4 → α5 → α6 → Act} {F : α0 → α1 → α2 → α3 → α4 → α5 → α6 → World → Prop}
    (h : c.wp P (fun e a' w' => e = Exit.normal ∧ ∃ x0, ∃ x1, ∃ x2, ∃ x3, ∃ x4, ∃ x5, ∃ x6, a' = f x0 x1 x2 x3 x4 x5 x6 ∧ F x0 x1 x2 x3 x4 x5 x6 w') a w) (k : ∀ x0 x1 x2 x3 x4 x5 x6 w', F x0 x1 x2 x3 x4 x5 x6 w' → Q' Exit.normal (f x0 x1 x2 x3 x4 x5 x6) w') : c.wp P Q' a w :=
  Code.wp_mono (fun e a' w' q => by obtain ⟨rfl, x0, x1, x2, x3, x4, x5, x6, rfl, q⟩ := q; exact k _ _ _ _ _ _ _ w' q) h
end Go.Proofs.YtbiokmojjneleaaGreat.OrdM

/-
  A new store, as the laws that draw ask it.
-/
namespace Go.Proofs.YtbiokmojjneleaaGreat.Sn9
open Go.ChangeShapes Go.WideShapes Go.ChangeAt Go.RowKit Go.Shelf Big Fl ImplB ImplF ImplL ImplT ImplU ImplW Kp StA DoA NwA StB StG
set_option linter.unusedVariables false
set_option linter.unusedSimpArgs false
attribute [local go_sem ↓] Go.wp_at_zero Go.wp_at_succ

set_option maxRecDepth 100000 in
set_option maxHeartbeats 2000000 in
theorem newS_any (w : World) : Calls Tryz.prog 42 #[] w fun e w' => ∃ g d, e = .returned (.agg #[.slice (some ⟨g, 0, none⟩) 4 4, .slice (some ⟨d, 0, none⟩) 6 6]) ∧ SAt w' (some ⟨g, 0, none⟩) zFs (some ⟨d, 0, none⟩) zDk ∧ Below w.heap.size w w' := by
  have HM := hide (show (Tryz.prog.info? 3).map (fun i => (i.zero, i.size, i.bytes)) = some (some (.int .i64 0), 1, 8) by kernel_rfl)
  have HSS := hide (show (Tryz.prog.info? 26).map (·.size) = some 2 by kernel_rfl)
  have b1 : Below w.heap.size w (w.alloc (.cells #[.slice none 0 0, .slice none 0 0] 26)) := (Below.refl _ _).alloc (Nat.le_refl _) _
  have cR := CsAt.new w [.slice none 0 0, .slice none 0 0] 26
  have s1 : w.heap.size < (w.alloc (.cells #[.slice none 0 0, .slice none 0 0] 26)).heap.size := by simp
  go_enter Tryz.func42, Tryz.ntmps42
  go_upto_region 1 with fail
  generalize w.alloc (.cells #[.slice none 0 0, .slice none 0 0] 26) = w1 at *
  apply OrdL.join2 (F := fun (g : Nat) (d : Nat) w' => CsAt w' w.heap.size [.slice (some ⟨g, 0, none⟩) 4 4, .slice (some ⟨d, 0, none⟩) 6 6] ∧ FsAt w' (some ⟨g, 0, none⟩) zFs ∧ CsAt w' d (isC zDk) ∧ Kept [w.heap.size] w1 w')
  case h =>
    refine wp_region_noPanic ?_
    refine wp_region_held_drew (S := fun w' => Kept [w.heap.size] w1 w') (by kernel_rfl) (Kept.refl _ _).drew (fun hHeld => ?_)
    replace cR := OrdL.ckept cR (L := []) (Kept.refl [] w1).drew (CsAt.lt cR (by simp)) (by simp)
    generalize w1.drew = y0 at *
    have z0 := hHeld.size
    refine OrdL.twoL 0 1 rfl rfl (by kernel_rfl) rfl rfl  (fun K hK => ?_) (fun K hK => ?_) 
    · go_simp
      refine (flashNew_any _).mono ?_
      rintro e y1 ⟨g, G, rfl, O, b⟩
      go_wp2_with fail
      replace cR := CsAt.below cR b (CsAt.lt cR (by simp))
      refine hK.out _ _ (hHeld.trans (Kept.of b)) (fun hHeld => ?_)
      clear hK K
      try simp only [Act.put, List.setIfInBounds_toArray, List.set_cons_zero, List.set_cons_succ]
      have z1 := b.size
      clear b
      refine oneL 1 rfl (by kernel_rfl) rfl (fun K hK => ?_)
      refine wp_make_big 24 _ _ rfl 6 rfl rfl 3 1 8 (.int .i64 0) Tryz.underlying24 (unhide HM) (by omega) (by omega) ?_
      rw [NwA.made6]
      have b : Below y1.heap.size y1 (y1.alloc (.cells (isC zDk).toArray 3)) := (Below.refl _ _).alloc (Nat.le_refl _) _
      have cD := CsAt.new y1 (isC zDk) 3
      have lcD := hHeld.size
      replace cR := CsAt.below cR b (CsAt.lt cR (by simp))
      replace O := own_kept O (L := []) (Kept.of b) (by simp)
      refine hK.out _ _ (hHeld.trans (Kept.of b)) (fun hHeld => ?_)
      clear hK K
      try simp only [Act.put, List.setIfInBounds_toArray, List.set_cons_zero, List.set_cons_succ]
      have z2 := b.size
      generalize y1.alloc (.cells (isC zDk).toArray 3) = y2 at *
      generalize y1.heap.size = d at *
      clear b
      refine takeL 2 (.agg #[.slice (some ⟨g, 0, none⟩) 4 4, .slice (some ⟨d, 0, none⟩) 6 6]) rfl (by kernel_rfl) (by kernel_rfl) (by kernel_rfl) (fun _ _ _ h => h) (Or.inl ⟨rfl, fun w9 hSw => by go_simp⟩) hHeld ?_
      try simp only [Act.put, List.setIfInBounds_toArray, List.set_cons_zero, List.set_cons_succ]
      refine oneL 3 rfl (by kernel_rfl) rfl (fun K hK => ?_)
      have pcR := cR.put [.slice (some ⟨g, 0, none⟩) 4 4, .slice (some ⟨d, 0, none⟩) 6 6] rfl
      have kz := OrdL.kcells y2 w.heap.size 0 [.slice (some ⟨g, 0, none⟩) 4 4, .slice (some ⟨d, 0, none⟩) 6 6]
      refine wp_store_mid 26 _ _ rfl w.heap.size 0 [.slice (some ⟨g, 0, none⟩) 4 4, .slice (some ⟨d, 0, none⟩) 6 6].toArray rfl rfl cR.free (unhide HSS) (by kernel_rfl) ?_
      refine hK.out _ _ (hHeld.then kz (fun y hy => by simp at hy; subst hy; first | (left; simp; done) | (right; omega))) (fun hHeld => ?_)
      clear hK K
      try simp only [Act.put, List.setIfInBounds_toArray, List.set_cons_zero, List.set_cons_succ]
      replace O := own_kept O kz (fun x hx hm => by simp at hm; subst hm; have := O.lo _ hx; omega)
      replace cD := csAt_kept cD kz (CsAt.lt cD (by simp [isC, zDk])) (by simp; omega)
      clear cR kz
      generalize y2.setCells w.heap.size 0 [.slice (some ⟨g, 0, none⟩) 4 4, .slice (some ⟨d, 0, none⟩) 6 6] = y3 at *
      have cR := pcR
      clear pcR
      refine wpAnyH_done (by kernel_rfl) ?_ _
      refine NoPanic.normal ?_
      exact ⟨rfl, g, d, rfl, cR, O.fs, cD, hHeld⟩
    · refine wp_make_big 24 _ _ rfl 6 rfl rfl 3 1 8 (.int .i64 0) Tryz.underlying24 (unhide HM) (by omega) (by omega) ?_
      rw [NwA.made6]
      have b : Below y0.heap.size y0 (y0.alloc (.cells (isC zDk).toArray 3)) := (Below.refl _ _).alloc (Nat.le_refl _) _
      have cD := CsAt.new y0 (isC zDk) 3
      have lcD := hHeld.size
      replace cR := CsAt.below cR b (CsAt.lt cR (by simp))
      refine hK.out _ _ (hHeld.trans (Kept.of b)) (fun hHeld => ?_)
      clear hK K
      try simp only [Act.put, List.setIfInBounds_toArray, List.set_cons_zero, List.set_cons_succ]
      have z1 := b.size
      generalize y0.alloc (.cells (isC zDk).toArray 3) = y1 at *
      generalize y0.heap.size = d at *
      clear b
      refine oneL 0 rfl (by kernel_rfl) rfl (fun K hK => ?_)
      go_simp
      refine (flashNew_any _).mono ?_
      rintro e y2 ⟨g, G, rfl, O, b⟩
      go_wp2_with fail
      replace cR := CsAt.below cR b (CsAt.lt cR (by simp))
      replace cD := CsAt.below cD b (CsAt.lt cD (by simp [isC, zDk]))
      refine hK.out _ _ (hHeld.trans (Kept.of b)) (fun hHeld => ?_)
      clear hK K
      try simp only [Act.put, List.setIfInBounds_toArray, List.set_cons_zero, List.set_cons_succ]
      have z2 := b.size
      clear b
      refine takeL 2 (.agg #[.slice (some ⟨g, 0, none⟩) 4 4, .slice (some ⟨d, 0, none⟩) 6 6]) rfl (by kernel_rfl) (by kernel_rfl) (by kernel_rfl) (fun _ _ _ h => h) (Or.inl ⟨rfl, fun w9 hSw => by go_simp⟩) hHeld ?_
      try simp only [Act.put, List.setIfInBounds_toArray, List.set_cons_zero, List.set_cons_succ]
      refine oneL 3 rfl (by kernel_rfl) rfl (fun K hK => ?_)
      have pcR := cR.put [.slice (some ⟨g, 0, none⟩) 4 4, .slice (some ⟨d, 0, none⟩) 6 6] rfl
      have kz := OrdL.kcells y2 w.heap.size 0 [.slice (some ⟨g, 0, none⟩) 4 4, .slice (some ⟨d, 0, none⟩) 6 6]
      refine wp_store_mid 26 _ _ rfl w.heap.size 0 [.slice (some ⟨g, 0, none⟩) 4 4, .slice (some ⟨d, 0, none⟩) 6 6].toArray rfl rfl cR.free (unhide HSS) (by kernel_rfl) ?_
      refine hK.out _ _ (hHeld.then kz (fun y hy => by simp at hy; subst hy; first | (left; simp; done) | (right; omega))) (fun hHeld => ?_)
      clear hK K
      try simp only [Act.put, List.setIfInBounds_toArray, List.set_cons_zero, List.set_cons_succ]
      replace cD := csAt_kept cD kz (CsAt.lt cD (by simp [isC, zDk])) (by simp; omega)
      replace O := own_kept O kz (fun x hx hm => by simp at hm; subst hm; have := O.lo _ hx; omega)
      clear cR kz
      generalize y2.setCells w.heap.size 0 [.slice (some ⟨g, 0, none⟩) 4 4, .slice (some ⟨d, 0, none⟩) 6 6] = y3 at *
      have cR := pcR
      clear pcR
      refine wpAnyH_done (by kernel_rfl) ?_ _
      refine NoPanic.normal ?_
      exact ⟨rfl, g, d, rfl, cR, O.fs, cD, hHeld⟩
  case k =>
    rintro g d w' ⟨cR, hz, cD, K⟩
    have BZ := ((Kept.of (L := [w.heap.size]) b1).trans K).all (by simp)
    go_wp2
    refine bodyPost_ret (res_cell_mid Tryz.results42 _ _ w.heap.size [.slice (some ⟨g, 0, none⟩) 4 4, .slice (some ⟨d, 0, none⟩) 6 6] _ rfl cR.cells Tryz.underlying26 rfl (by kernel_rfl)) rfl ?_
    exact ⟨g, d, rfl, ⟨hz, .inr ⟨d, 0, rfl, cD.cells⟩⟩, BZ⟩
end Go.Proofs.YtbiokmojjneleaaGreat.Sn9

/-
  Plain facts of numbers on pages, of the block that is to be written and of the one that is to be wiped, for the laws that draw.
-/
namespace Go.Proofs.YtbiokmojjneleaaGreat.PlB
open Go.ChangeShapes Go.WideShapes Go.ChangeAt Go.RowKit OkA Big Fl ImplB ImplF ImplS ImplU SpecB SpecD SpecW SpecX SpecF SpecG SpecH FindP FindN FindD FindO Ok2
set_option linter.unusedVariables false
set_option linter.unusedSimpArgs false

theorem fold_le {α : Type} (f : α → Int) : ∀ (l : List α) (a m : Int), l.foldl (fun m x => mx m (f x)) a ≤ m ↔ a ≤ m ∧ ∀ x ∈ l, f x ≤ m
  | [], a, m => by simp
  | x :: r, a, m => by
    rw [List.foldl_cons, fold_le f r]
    have : mx a (f x) ≤ m ↔ a ≤ m ∧ f x ≤ m := by unfold mx; split <;> omega
    rw [this]; simp [and_assoc]
theorem fold_at {α : Type} (f : α → Int) : ∀ (l : List α) (a : Int), l.foldl (fun m x => mx m (f x)) a = a ∨ ∃ x ∈ l, f x = l.foldl (fun m x => mx m (f x)) a
  | [], a => .inl rfl
  | x :: r, a => by
    rw [List.foldl_cons]
    rcases fold_at f r (mx a (f x)) with h | ⟨y, hy, h⟩
    · rw [h]
      unfold mx
      split
      · exact .inr ⟨x, by simp, rfl⟩
      · exact .inl rfl
    · exact .inr ⟨y, by simp [hy], h⟩
theorem mostN_iff (ps : List Pg) (m : Int) : mostN ps ≤ m ↔ 0 ≤ m ∧ ∀ p ∈ ps, p.s ≤ m := fold_le (fun p : Pg => p.s) ps 0 m
theorem mostB_iff (bs : List Bk) (m : Int) : mostB bs ≤ m ↔ 0 ≤ m ∧ ∀ b ∈ bs, mostN b.ps ≤ m := fold_le (fun b : Bk => mostN b.ps) bs 0 m
theorem mostN_ge (ps : List Pg) : ∀ p ∈ ps, p.s ≤ mostN ps := ((mostN_iff ps _).1 (Int.le_refl _)).2
theorem mostB_ge (bs : List Bk) : ∀ b ∈ bs, mostN b.ps ≤ mostB bs := ((mostB_iff bs _).1 (Int.le_refl _)).2
theorem mostN_0 (ps : List Pg) : 0 ≤ mostN ps := ((mostN_iff ps _).1 (Int.le_refl _)).1
theorem mostB_0 (bs : List Bk) : 0 ≤ mostB bs := ((mostB_iff bs _).1 (Int.le_refl _)).1
theorem most_page (bs : List Bk) : ∀ b ∈ bs, ∀ p ∈ b.ps, p.s ≤ mostB bs := fun b hb p hp => Int.le_trans (mostN_ge _ p hp) (mostB_ge bs b hb)
theorem mostN_at (ps : List Pg) : mostN ps = 0 ∨ ∃ p ∈ ps, p.s = mostN ps := fold_at (fun p : Pg => p.s) ps 0
theorem mostB_at (bs : List Bk) : mostB bs = 0 ∨ ∃ b ∈ bs, ∃ p ∈ b.ps, p.s = mostB bs := by
  rcases fold_at (fun b : Bk => mostN b.ps) bs 0 with h | ⟨b, hb, h⟩
  · exact .inl h
  · rcases mostN_at b.ps with h' | ⟨p, hp, h'⟩
    · left; show List.foldl _ _ _ = _; rw [← h]; exact h'
    · right; exact ⟨b, hb, p, hp, by rw [h']; exact h⟩
theorem mostN_wi (torn : Bool) : mostN (List.replicate 4 (pgS torn)) = 0 := by cases torn <;> rfl
theorem mostB_wi (bs : List Bk) (k : Nat) (torn : Bool) : mostB (wiL bs k torn) ≤ mostB bs := by
  rw [mostB_iff]
  refine ⟨mostB_0 bs, fun b hb => ?_⟩
  rcases List.mem_or_eq_of_mem_set hb with h | rfl
  · exact mostB_ge bs b h
  · show mostN (List.replicate 4 (pgS torn)) ≤ _
    rw [mostN_wi]; exact mostB_0 bs
theorem wiR_yes {bs : List Bk} {b : Int} {torn : Bool} (h : wiO bs b = true) : wiR bs b torn = wiL bs b.toNat torn ∧ okB (wiL bs b.toNat torn) = true ∧ okB bs = true ∧ b.toNat < 4 ∧ 0 ≤ b ∧ b ≤ 3 ∧ wiN bs b.toNat = false := by
  unfold wiO at h
  simp only [Bool.and_eq_true, Bool.not_eq_true'] at h
  obtain ⟨⟨hok, hin⟩, hw⟩ := h
  obtain ⟨k, rfl, hk⟩ := in_range hin
  refine ⟨by simp only [wiR, hok, hin, hw]; simp, okB_wi bs _ (by simpa using hk) hok torn hw, hok, by simpa using hk, by omega, by omega, hw⟩
theorem wiR_no {bs : List Bk} {b : Int} {torn : Bool} (hok : okB bs = true) (h0 : 0 ≤ b) (h1 : b ≤ 3) (h : wiO bs b = false) : wiR bs b torn = bs ∧ wiN bs b.toNat = true := by
  have hin : inB b 0 3 = true := by simp [inB]; omega
  unfold wiO at h
  simp only [hok, hin, Bool.true_and, Bool.not_eq_false'] at h
  exact ⟨by simp only [wiR, hok, hin, h]; simp, h⟩
theorem next_wi {bs : List Bk} {b : Int} {torn : Bool} (h : wiO bs b = true) : nextR (wiR bs b torn) ≤ nextR bs ∧ 1 ≤ nextR (wiR bs b torn) := by
  obtain ⟨e, h1, h2, _⟩ := wiR_yes (torn := torn) h
  rw [e]
  simp only [nextR, h1, h2, if_true]
  have := mostB_wi bs b.toNat torn
  have := mostB_0 (wiL bs b.toNat torn)
  omega
theorem next_new : nextR zFs = 1 := by kernel_rfl

/-- How many pages of the j-th block are clean; how worn it is. -/
def cN (bs : List Bk) (j : Nat) : Nat := cleanN (bs.getD j zBk).ps
def wN (bs : List Bk) (j : Nat) : Int := (bs.getD j zBk).wn
def OpenS (bs : List Bk) (r : Int × Bool) : Prop :=
  (r = (0, false) ∧ ∀ j < bs.length, cN bs j = 0) ∨ ∃ k : Nat, k < bs.length ∧ r = ((k : Int), true) ∧ 0 < cN bs k ∧
    ((cN bs k < 4 ∧ ∀ j < k, ¬ (0 < cN bs j ∧ cN bs j < 4)) ∨ ((∀ j < bs.length, ¬ (0 < cN bs j ∧ cN bs j < 4)) ∧ ∀ j < bs.length, 0 < cN bs j → wN bs k ≤ wN bs j ∧ (j < k → wN bs k < wN bs j)))
theorem openF_spec (bs : List Bk) : ∀ (l : List Bk) (i : Nat) (out : Int), bs.drop i = l → i + l.length = bs.length → (∀ j < i, ¬ (0 < cN bs j ∧ cN bs j < 4)) →
    ((out = -1 ∧ ∀ j < i, cN bs j = 0) ∨ ∃ k : Nat, k < i ∧ out = (k : Int) ∧ 0 < cN bs k ∧ ∀ j < i, 0 < cN bs j → wN bs k ≤ wN bs j ∧ (j < k → wN bs k < wN bs j)) → OpenS bs (openF bs l i out)
  | [], i, out, _, hn, hp, h => by
    simp only [List.length_nil, Nat.add_zero] at hn
    subst hn
    rcases h with ⟨rfl, h⟩ | ⟨k, hk, rfl, h0, h1⟩
    · exact .inl ⟨rfl, h⟩
    · refine .inr ⟨k, hk, ?_, h0, .inr ⟨hp, h1⟩⟩
      simp only [openF]
      rw [if_neg (by omega)]
      simp
  | b :: r, i, out, hd, hn, hp, h => by
    have hi : i < bs.length := by simp at hn; omega
    have hb : bs.getD i zBk = b := by
      have : bs[i]? = some b := by rw [← List.head?_drop, hd]; rfl
      rw [List.getD_eq_getElem?_getD, this]; rfl
    have hc : cN bs i = cleanN b.ps := by unfold cN; rw [hb]
    have hw : wN bs i = b.wn := by unfold wN; rw [hb]
    have hd' : bs.drop (i + 1) = r := by rw [← List.drop_drop, hd]; rfl
    have hn' : i + 1 + r.length = bs.length := by simp at hn; omega
    unfold openF
    by_cases hq : 0 < cleanN b.ps ∧ cleanN b.ps < 4
    · rw [if_pos hq]
      exact .inr ⟨i, hi, rfl, by omega, .inl ⟨by omega, hp⟩⟩
    rw [if_neg hq]
    refine openF_spec bs r (i + 1) _ hd' hn' (fun j hj => ?_) ?_
    · by_cases e : j = i
      · subst e; rw [hc]; exact hq
      · exact hp j (by omega)
    by_cases hs : 0 < cleanN b.ps ∧ (out < 0 ∨ b.wn < (bs.getD out.toNat zBk).wn)
    · rw [if_pos hs]
      refine .inr ⟨i, by omega, rfl, by omega, fun j hj hj0 => ?_⟩
      by_cases e : j = i
      · subst e; exact ⟨Int.le_refl _, fun h => by omega⟩
      have hji : j < i := by omega
      rcases h with ⟨rfl, h⟩ | ⟨k, hk, rfl, h0, h1⟩
      · have := h j hji; omega
      · have h2 := h1 j hji hj0
        have h3 : b.wn < wN bs k := by
          rcases hs.2 with h | h
          · omega
          · unfold wN; simpa using h
        rw [hw]
        exact ⟨by omega, fun _ => by omega⟩
    · rw [if_neg hs]
      rcases h with ⟨rfl, h⟩ | ⟨k, hk, rfl, h0, h1⟩
      · refine .inl ⟨rfl, fun j hj => ?_⟩
        by_cases e : j = i
        · subst e
          rw [hc]
          have : ¬ 0 < cleanN b.ps := fun hh => hs ⟨hh, .inl (by omega)⟩
          omega
        · exact h j (by omega)
      · refine .inr ⟨k, by omega, rfl, h0, fun j hj hj0 => ?_⟩
        by_cases e : j = i
        · subst e
          rw [hc] at hj0
          have : ¬ b.wn < (bs.getD k zBk).wn := fun hh => hs ⟨hj0, .inr (by simpa using hh)⟩
          rw [hw]
          exact ⟨by unfold wN; omega, fun h => by omega⟩
        · exact h1 j (by omega) hj0
theorem open_spec (bs : List Bk) : OpenS bs (openR bs) := openF_spec bs bs 0 (-1) rfl (by simp) (fun _ h => by omega) (.inl ⟨rfl, fun _ h => by omega⟩)
theorem clean_eq {bs : List Bk} (hok : okB bs = true) (k : Nat) (hk : k < 4) : cleanR bs (k : Int) = (cN bs k : Int) ∧ cN bs k ≤ 4 ∧ cN bs k + usedN (bs.getD k zBk).ps = 4 := by
  have hl := ok_len hok
  have hg : bs.getD k zBk = bs[k]'(by omega) := getD_in bs k (by omega)
  have h4 : (bs[k]'(by omega)).ps.length = 4 := (ok_fours hok).at k (by omega)
  have hc := clean_used (bs[k]'(by omega)).ps (ok_tail hok k (by omega))
  have hin : inB (k : Int) 0 3 = true := by simp [inB]; omega
  unfold cleanR cN
  rw [hok, hin]
  simp only [Bool.and_self, if_true, Int.toNat_natCast, hg]
  omega
theorem fop_ok {bs : List Bk} (hok : okB bs = true) : fopR bs = openR bs := by unfold fopR; rw [if_pos hok]

/-- The block that is wiped next: none has a less number, and none ahead of it the same. -/
theorem old_spec (bs : List Bk) (k : Nat) : ∀ j ≤ k, mostN (bs.getD (oldN bs k) zBk).ps ≤ mostN (bs.getD j zBk).ps ∧ (j < oldN bs k → mostN (bs.getD (oldN bs k) zBk).ps < mostN (bs.getD j zBk).ps) := by
  induction k with
  | zero =>
    intro j hj
    obtain rfl : j = 0 := by omega
    refine ⟨Int.le_refl _, fun h => ?_⟩
    simp [oldN] at h
  | succ k ih =>
    intro j hj
    have hle := oldN_le bs k
    unfold oldN
    by_cases hq : mostN (bs.getD (k + 1) zBk).ps < mostN (bs.getD (oldN bs k) zBk).ps
    · rw [if_pos hq]
      by_cases e : j = k + 1
      · subst e; exact ⟨Int.le_refl _, fun h => by omega⟩
      · have := ih j (by omega); exact ⟨by omega, fun _ => by omega⟩
    · rw [if_neg hq]
      by_cases e : j = k + 1
      · subst e; exact ⟨by omega, fun h => by omega⟩
      · exact ih j (by omega)
theorem old_ok {bs : List Bk} (hok : okB bs = true) : oldR bs = ((oldN bs 3 : Nat) : Int) ∧ oldN bs 3 < 4 := by
  have := oldN_le bs 3
  exact ⟨by unfold oldR; rw [if_pos hok], by omega⟩
theorem mem_seqs {bs : List Bk} {q : Int} (h : q ∈ seqs bs) : ∃ b ∈ bs, ∃ p ∈ b.ps, p.st = 1 ∧ p.s = q := by
  unfold seqs at h
  rw [List.mem_flatMap] at h
  obtain ⟨b, hb, h⟩ := h
  unfold seqsP at h
  rw [List.mem_filterMap] at h
  obtain ⟨p, hp, h⟩ := h
  unfold seqP at h
  split at h
  · exact ⟨b, hb, p, hp, ‹_›, by simpa using h⟩
  · simp at h
theorem has_no {bs : List Bk} {q : Int} (h : ∀ b ∈ bs, ∀ p ∈ b.ps, p.s < q) : hasB bs q = false := by
  unfold hasB
  cases hc : (seqs bs).contains q
  · rfl
  · obtain ⟨b, hb, p, hp, _, e⟩ := mem_seqs (List.contains_iff_mem.1 hc)
    have := h b hb p hp
    omega
theorem wr_open {bs : List Bk} (hok : okB bs = true) (b : Nat) (hb : b < 4) (hc : 0 < cN bs b) (k s a v : Int) (hs : ∀ b ∈ bs, ∀ p ∈ b.ps, p.s < s) (hr : recB k s a v = true) : SpecD.wrB bs (b : Int) k s a v = true ∧ wrN bs b s = false := by
  have hin : inB (b : Int) 0 3 = true := by simp [inB]; omega
  have hu := (clean_eq hok b hb).2.2
  have hw : wrN bs b s = false := by
    unfold wrN
    have h9 : (usedN (bs.getD b zBk).ps == 4) = false := by rw [beq_eq_false_iff_ne]; omega
    rw [has_no hs, h9]
    rfl
  exact ⟨by unfold SpecD.wrB; rw [hok, hin, hr]; simp [hw], hw⟩
theorem wrR_yes {bs : List Bk} {b k s a v : Int} {torn : Bool} (h : SpecD.wrB bs b k s a v = true) : wrR bs b k s a v torn = wrL bs b.toNat (pgW torn k s a v) ∧ okB (wrL bs b.toNat (pgW torn k s a v)) = true ∧ okB bs = true ∧ b.toNat < 4 ∧ 0 ≤ b ∧ b ≤ 3 ∧ recB k s a v = true ∧ wrN bs b.toNat s = false := by
  unfold SpecD.wrB at h
  simp only [Bool.and_eq_true, Bool.not_eq_true'] at h
  obtain ⟨⟨⟨hok, hin⟩, hr⟩, hw⟩ := h
  obtain ⟨n, rfl, hk⟩ := in_range hin
  refine ⟨by simp only [wrR, hok, hin, hw, hr]; simp, okB_wr bs _ (by simpa using hk) hok torn k s a v hr hw, hok, by simpa using hk, by omega, by omega, hr, hw⟩
theorem fop_cases {bs : List Bk} (hok : okB bs = true) : (fopR bs = (0, false) ∧ ∀ j < 4, cN bs j = 0) ∨ ∃ k : Nat, k < 4 ∧ fopR bs = ((k : Int), true) ∧ 0 < cN bs k := by
  rw [fop_ok hok]
  have hl := ok_len hok
  rcases open_spec bs with ⟨h1, h2⟩ | ⟨k, h1, h2, h3, _⟩
  · exact .inl ⟨h1, fun j hj => h2 j (by omega)⟩
  · exact .inr ⟨k, by omega, h2, h3⟩
theorem page_lt {bs : List Bk} : ∀ b ∈ bs, ∀ p ∈ b.ps, p.s < mostB bs + 1 := fun b hb p hp => by have := most_page bs b hb p hp; omega
theorem next_ok {bs : List Bk} (hok : okB bs = true) : nextR bs = mostB bs + 1 ∧ 1 ≤ nextR bs ∧ nextR bs ≤ 601 := by
  have h1 := mostB_le bs (ok_pages hok)
  unfold nextR
  rw [if_pos hok]
  omega
theorem cN_wi {bs : List Bk} (hl : bs.length = 4) (k : Nat) (hk : k < 4) (torn : Bool) (j : Nat) : cN (wiL bs k torn) j = if j = k then (if torn then 0 else 4) else cN bs j := by
  unfold cN wiL
  by_cases e : j = k
  · subst e
    rw [if_pos rfl, List.getD_eq_getElem?_getD, List.getElem?_set_self (by omega)]
    cases torn <;> rfl
  · rw [if_neg e, List.getD_eq_getElem?_getD, List.getElem?_set_ne (fun h => e h.symm), List.getD_eq_getElem?_getD]
theorem fop_wi {bs : List Bk} (k : Nat) (h : wiO bs (k : Int) = true) (h0 : ∀ j < 4, cN bs j = 0) : fopR (wiR bs (k : Int) false) = ((k : Int), true) := by
  obtain ⟨e, hok, hok0, hk, _⟩ := wiR_yes (torn := false) h
  rw [e]
  simp only [Int.toNat_natCast] at hok hk ⊢
  have hl := ok_len hok0
  rcases fop_cases hok with ⟨_, h2⟩ | ⟨k', h1, h2, h3⟩
  · have := h2 k hk
    rw [cN_wi hl k hk] at this
    simp at this
  · rw [cN_wi hl k hk] at h3
    by_cases e : k' = k
    · rw [h2, e]
    · rw [if_neg e, h0 k' h1] at h3; omega
end Go.Proofs.YtbiokmojjneleaaGreat.PlB

/-
  Plain facts of the last record of an address, over all pages one behind the other, for the laws that draw.
-/
namespace Go.Proofs.YtbiokmojjneleaaGreat.PlC
open OkA Big Fl ImplB ImplF ImplS ImplU SpecB SpecD SpecW SpecX Pl FindP FindL PlB Ok2
set_option linter.unusedVariables false
set_option linter.unusedSimpArgs false

def pgs (bs : List Bk) : List Pg := bs.flatMap (·.ps)
theorem mem_pgs {bs : List Bk} {p : Pg} : p ∈ pgs bs ↔ ∃ b ∈ bs, p ∈ b.ps := List.mem_flatMap
theorem lastF_flat (addr : Int) : ∀ (bs : List Bk) (o : Rc), lastF addr o bs = (pgs bs).foldl (lastS addr) o
  | [], o => rfl
  | b :: r, o => by
    show lastF addr (lastP addr o b.ps) r = _
    rw [lastF_flat addr r]
    simp only [pgs, List.flatMap_cons, List.foldl_append]
    rfl
theorem lastR_flat (bs : List Bk) (addr : Int) : lastR bs addr = (pgs bs).foldl (lastS addr) zRc := lastF_flat addr bs zRc
theorem lastS_cases (addr : Int) (o : Rc) (p : Pg) : (lastS addr o p = o ∧ (p.st = 1 → p.a = addr → p.s ≤ o.s)) ∨ (lastS addr o p = pgRc p ∧ p.st = 1 ∧ p.a = addr ∧ o.s < p.s) := by
  unfold lastS laterB
  by_cases h : p.st = 1 ∧ p.a = addr ∧ o.s < p.s
  · obtain ⟨h1, h2, h3⟩ := h
    right
    refine ⟨?_, h1, h2, h3⟩
    rw [if_pos (by simp [h1, h2, h3])]
  · left
    refine ⟨?_, fun h1 h2 => ?_⟩
    · rw [if_neg (fun hh => h ?_)]
      simp at hh
      exact ⟨hh.1.1, hh.1.2, hh.2⟩
    · by_cases h3 : o.s < p.s
      · exact absurd ⟨h1, h2, h3⟩ h
      · omega
/-- The last record: none is later; and it is what was there, or one that is written. -/
theorem fold_spec (addr : Int) : ∀ (l : List Pg) (o : Rc), o.s ≤ (l.foldl (lastS addr) o).s ∧ (∀ p ∈ l, p.st = 1 → p.a = addr → p.s ≤ (l.foldl (lastS addr) o).s) ∧
    (l.foldl (lastS addr) o = o ∨ ∃ p ∈ l, p.st = 1 ∧ p.a = addr ∧ l.foldl (lastS addr) o = pgRc p)
  | [], o => ⟨Int.le_refl _, fun p hp => by simp at hp, .inl rfl⟩
  | p :: r, o => by
    rw [List.foldl_cons]
    obtain ⟨h1, h2, h3⟩ := fold_spec addr r (lastS addr o p)
    rcases lastS_cases addr o p with ⟨e, hle⟩ | ⟨e, hs, ha, hlt⟩
    · rw [e] at h1 h2 h3 ⊢
      refine ⟨h1, fun q hq hq1 hq2 => ?_, ?_⟩
      · rcases List.mem_cons.1 hq with rfl | hq
        · have := hle hq1 hq2; omega
        · exact h2 q hq hq1 hq2
      · rcases h3 with h3 | ⟨q, hq, h3⟩
        · exact .inl h3
        · exact .inr ⟨q, by simp [hq], h3⟩
    · rw [e] at h1 h2 h3 ⊢
      have hp : (pgRc p).s = p.s := rfl
      refine ⟨by omega, fun q hq hq1 hq2 => ?_, ?_⟩
      · rcases List.mem_cons.1 hq with rfl | hq
        · omega
        · exact h2 q hq hq1 hq2
      · rcases h3 with h3 | ⟨q, hq, h3⟩
        · exact .inr ⟨p, by simp, hs, ha, h3⟩
        · exact .inr ⟨q, by simp [hq], h3⟩
theorem last_spec (bs : List Bk) (addr : Int) : (∀ b ∈ bs, ∀ p ∈ b.ps, p.st = 1 → p.a = addr → p.s ≤ (lastR bs addr).s) ∧ (lastR bs addr = zRc ∨ ∃ b ∈ bs, ∃ p ∈ b.ps, p.st = 1 ∧ p.a = addr ∧ lastR bs addr = pgRc p) := by
  rw [lastR_flat]
  obtain ⟨_, h2, h3⟩ := fold_spec addr (pgs bs) zRc
  refine ⟨fun b hb p hp => h2 p (mem_pgs.2 ⟨b, hb, hp⟩), ?_⟩
  rcases h3 with h3 | ⟨p, hp, h3⟩
  · exact .inl h3
  · obtain ⟨b, hb, hp⟩ := mem_pgs.1 hp
    exact .inr ⟨b, hb, p, hp, h3⟩
/-- A page is laid over a page: all others stay where they are. -/
theorem flat_set (bs : List Bk) (k u : Nat) (hk : k < bs.length) (hu : u < bs[k].ps.length) (p : Pg) (wn : Int) : ∃ L1 L2, pgs bs = L1 ++ bs[k].ps[u] :: L2 ∧ pgs (bs.set k ⟨bs[k].ps.set u p, wn⟩) = L1 ++ p :: L2 := by
  refine ⟨pgs (bs.take k) ++ bs[k].ps.take u, bs[k].ps.drop (u + 1) ++ pgs (bs.drop (k + 1)), ?_, ?_⟩
  · have e1 : bs = bs.take k ++ bs[k] :: bs.drop (k + 1) := by rw [← List.drop_eq_getElem_cons hk, List.take_append_drop]
    have e2 : bs[k].ps = bs[k].ps.take u ++ bs[k].ps[u] :: bs[k].ps.drop (u + 1) := by rw [← List.drop_eq_getElem_cons hu, List.take_append_drop]
    conv => lhs; rw [e1]
    simp only [pgs, List.flatMap_append, List.flatMap_cons, List.append_assoc]
    conv => lhs; rw [e2]
    simp only [List.append_assoc, List.cons_append]
  · have e1 : bs.set k ⟨bs[k].ps.set u p, wn⟩ = bs.take k ++ ⟨bs[k].ps.set u p, wn⟩ :: bs.drop (k + 1) := List.set_eq_take_append_cons_drop.trans (by rw [if_pos hk])
    have e2 : bs[k].ps.set u p = bs[k].ps.take u ++ p :: bs[k].ps.drop (u + 1) := List.set_eq_take_append_cons_drop.trans (by rw [if_pos hu])
    rw [e1]
    simp only [pgs, List.flatMap_append, List.flatMap_cons, List.append_assoc, e2, List.cons_append]
theorem fold_skip (addr : Int) (L1 L2 : List Pg) (p : Pg) (h : ¬ (p.st = 1 ∧ p.a = addr)) (o : Rc) : (L1 ++ p :: L2).foldl (lastS addr) o = (L1 ++ L2).foldl (lastS addr) o := by
  simp only [List.foldl_append, List.foldl_cons]
  rcases lastS_cases addr (L1.foldl (lastS addr) o) p with ⟨e, _⟩ | ⟨_, h1, h2, _⟩
  · rw [e]
  · exact absurd ⟨h1, h2⟩ h
theorem fold_new (addr : Int) (L1 L2 : List Pg) (p : Pg) (h1 : p.st = 1) (h2 : p.a = addr) (h0 : 0 < p.s) (hL1 : ∀ q ∈ L1, q.s < p.s) (hL2 : ∀ q ∈ L2, q.s < p.s) : (L1 ++ p :: L2).foldl (lastS addr) zRc = pgRc p := by
  simp only [List.foldl_append, List.foldl_cons]
  have ha : (L1.foldl (lastS addr) zRc).s < p.s := by
    rcases (fold_spec addr L1 zRc).2.2 with e | ⟨q, hq, _, _, e⟩
    · rw [e]; exact h0
    · rw [e]; exact hL1 q hq
  have e : lastS addr (L1.foldl (lastS addr) zRc) p = pgRc p := by
    rcases lastS_cases addr (L1.foldl (lastS addr) zRc) p with ⟨_, h⟩ | ⟨e, _⟩
    · have := h h1 h2; omega
    · exact e
  rw [e]
  have hs := fold_spec addr L2 (pgRc p)
  rcases hs.2.2 with e | ⟨q, hq, _, _, e⟩
  · exact e
  · have := hs.1
    rw [e] at this
    have h3 := hL2 q hq
    have h4 : (pgRc p).s = p.s := rfl
    have h5 : (pgRc q).s = q.s := rfl
    omega
theorem wr_flat {bs : List Bk} (hok : okB bs = true) (k : Nat) (hk : k < 4) (hu : usedN (bs.getD k zBk).ps ≠ 4) (p : Pg) : ∃ L1 c L2, pgs bs = L1 ++ c :: L2 ∧ c.st = 0 ∧ pgs (wrL bs k p) = L1 ++ p :: L2 := by
  have hkl : k < bs.length := by rw [ok_len hok]; exact hk
  have hg := getD_in bs k hkl
  rw [hg] at hu
  have h4 : bs[k].ps.length = 4 := (ok_fours hok).at k hkl
  have hle := usedN_le bs[k].ps
  have hul : usedN bs[k].ps < bs[k].ps.length := by omega
  obtain ⟨L1, L2, e1, e2⟩ := flat_set bs k (usedN bs[k].ps) hkl hul p bs[k].wn
  refine ⟨L1, _, L2, e1, ?_, ?_⟩
  · have := used_clean bs[k].ps hul
    simpa [clB] using this
  · unfold wrL
    rw [hg]
    exact e2
/-- What is written last is the last; a page that is torn changes nothing. -/
theorem last_wr {bs : List Bk} (hok : okB bs = true) (k : Nat) (hk : k < 4) (hu : usedN (bs.getD k zBk).ps ≠ 4) (rk rs ra rv : Int) (hs : ∀ b ∈ bs, ∀ p ∈ b.ps, p.s < rs) (h0 : 0 < rs) (torn : Bool) (addr : Int) :
    lastR (wrL bs k (pgW torn rk rs ra rv)) addr = if torn = false ∧ ra = addr then ⟨rk, rs, ra, rv⟩ else lastR bs addr := by
  obtain ⟨L1, c, L2, e1, hc, e2⟩ := wr_flat hok k hk hu (pgW torn rk rs ra rv)
  have hall : ∀ q ∈ L1 ++ c :: L2, q.s < rs := fun q hq => by
    rw [← e1] at hq
    obtain ⟨b, hb, hp⟩ := mem_pgs.1 hq
    exact hs b hb q hp
  rw [lastR_flat, lastR_flat, e1, e2, fold_skip addr L1 L2 c (fun h => by rw [hc] at h; exact absurd h.1 (by omega))]
  by_cases h : torn = false ∧ ra = addr
  · obtain ⟨rfl, rfl⟩ := h
    rw [if_pos ⟨rfl, rfl⟩]
    exact fold_new ra L1 L2 _ rfl rfl h0 (fun q hq => hall q (by simp [hq])) (fun q hq => hall q (by simp [hq]))
  · rw [if_neg h, fold_skip]
    intro hh
    apply h
    cases torn
    · exact ⟨rfl, hh.2⟩
    · exact absurd hh.1 (by show ¬ ((2 : Int) = 1); omega)
end Go.Proofs.YtbiokmojjneleaaGreat.PlC

/-
  Plain facts of the order of blocks: what is written where one is to write leaves them in order.
-/
namespace Go.Proofs.YtbiokmojjneleaaGreat.PlD
open OkA Big Fl ImplB ImplF ImplS ImplU SpecB SpecD SpecW SpecX SpecF SpecG SpecH SpecO Pl FindP FindN FindO FindQ PlB PlC Ok2
set_option linter.unusedVariables false
set_option linter.unusedSimpArgs false

theorem least_fold : ∀ (l : List Pg) (n : Int), (∀ p ∈ l, 0 ≤ p.s) → 0 ≤ n →
    (l.foldl (fun n p => lsS n p.s) n = 0 ∧ n = 0 ∧ ∀ p ∈ l, p.s = 0) ∨ (0 < l.foldl (fun n p => lsS n p.s) n ∧ (l.foldl (fun n p => lsS n p.s) n = n ∨ ∃ p ∈ l, p.s = l.foldl (fun n p => lsS n p.s) n) ∧ (0 < n → l.foldl (fun n p => lsS n p.s) n ≤ n) ∧ ∀ p ∈ l, 0 < p.s → l.foldl (fun n p => lsS n p.s) n ≤ p.s)
  | [], n, _, hn => by
    by_cases h : n = 0
    · exact .inl ⟨h, h, fun p hp => by simp at hp⟩
    · exact .inr ⟨by show 0 < n; omega, .inl rfl, fun _ => Int.le_refl _, fun p hp => by simp at hp⟩
  | p :: r, n, h, hn => by
    rw [List.foldl_cons]
    have hp := h p (by simp)
    have hr : ∀ q ∈ r, 0 ≤ q.s := fun q hq => h q (by simp [hq])
    have hc : (lsS n p.s = p.s ∧ 0 < p.s ∧ (n = 0 ∨ p.s < n)) ∨ (lsS n p.s = n ∧ ¬ (0 < p.s ∧ (n = 0 ∨ p.s < n))) := by
      unfold lsS
      split
      · exact .inl ⟨rfl, by assumption⟩
      · exact .inr ⟨rfl, by assumption⟩
    have ih := least_fold r (lsS n p.s) hr (by rcases hc with ⟨e, h1, _⟩ | ⟨e, _⟩ <;> rw [e] <;> omega)
    generalize List.foldl (fun n p => lsS n p.s) (lsS n p.s) r = m at *
    rcases hc with ⟨e, h1, h2⟩ | ⟨e, h1⟩
    · rw [e] at ih
      rcases ih with ⟨_, h3, _⟩ | ⟨i1, i2, i3, i4⟩
      · omega
      · refine .inr ⟨i1, ?_, fun h9 => by have := i3 h1; omega, fun q hq hq0 => ?_⟩
        · rcases i2 with i2 | ⟨q, hq, i2⟩
          · exact .inr ⟨p, by simp, i2.symm⟩
          · exact .inr ⟨q, by simp [hq], i2⟩
        · rcases List.mem_cons.1 hq with rfl | hq
          · exact i3 h1
          · exact i4 q hq hq0
    · rw [e] at ih
      rcases ih with ⟨i1, i2, i3⟩ | ⟨i1, i2, i3, i4⟩
      · refine .inl ⟨i1, i2, fun q hq => ?_⟩
        rcases List.mem_cons.1 hq with rfl | hq
        · by_cases h9 : 0 < q.s
          · exact absurd ⟨h9, .inl i2⟩ h1
          · omega
        · exact i3 q hq
      · refine .inr ⟨i1, ?_, i3, fun q hq hq0 => ?_⟩
        · rcases i2 with i2 | ⟨q, hq, i2⟩
          · exact .inl i2
          · exact .inr ⟨q, by simp [hq], i2⟩
        · rcases List.mem_cons.1 hq with rfl | hq
          · by_cases h9 : n = 0
            · exact absurd ⟨hq0, .inl h9⟩ h1
            · have h10 := i3 (by omega)
              by_cases h11 : q.s < n
              · exact absurd ⟨hq0, .inr h11⟩ h1
              · omega
          · exact i4 q hq hq0
/-- The least number: none, or the least of those that there are. -/
theorem least_spec (ps : List Pg) (h : ∀ p ∈ ps, 0 ≤ p.s) : (leastN ps = 0 ∧ ∀ p ∈ ps, p.s = 0) ∨ (0 < leastN ps ∧ (∃ p ∈ ps, p.s = leastN ps) ∧ ∀ p ∈ ps, 0 < p.s → leastN ps ≤ p.s) := by
  rcases least_fold ps 0 h (Int.le_refl _) with ⟨h1, _, h3⟩ | ⟨h1, h2, _, h4⟩
  · exact .inl ⟨h1, h3⟩
  · refine .inr ⟨h1, ?_, h4⟩
    rcases h2 with h2 | h2
    · exact absurd h1 (by show ¬ 0 < leastN ps; unfold leastN; omega)
    · exact h2
theorem mem_set_ne {ps : List Pg} {u : Nat} (hu : u < ps.length) {p q : Pg} (hq : q ∈ ps) (hne : q.s ≠ ps[u].s) : q ∈ ps.set u p := by
  obtain ⟨i, hi, rfl⟩ := List.getElem_of_mem hq
  have hiu : u ≠ i := fun e => hne (by subst e; rfl)
  have : (ps.set u p)[i]'(by simpa using hi) = ps[i] := List.getElem_set_ne hiu _
  rw [← this]
  exact List.getElem_mem _
theorem mem_set_self {ps : List Pg} {u : Nat} (hu : u < ps.length) {p : Pg} : p ∈ ps.set u p := by
  have hl : u < (ps.set u p).length := by simpa using hu
  have hm := List.getElem_mem hl
  rwa [List.getElem_set_self] at hm
/-- A page without a number over a page without one. -/
theorem nums_zero {ps : List Pg} {u : Nat} (hu : u < ps.length) (h0 : ps[u].s = 0) (h : ∀ p ∈ ps, 0 ≤ p.s) {p : Pg} (hp : p.s = 0) : mostN (ps.set u p) = mostN ps ∧ leastN (ps.set u p) = leastN ps := by
  have h' : ∀ q ∈ ps.set u p, 0 ≤ q.s := fun q hq => by
    rcases List.mem_or_eq_of_mem_set hq with hq | rfl
    · exact h q hq
    · omega
  constructor
  · apply Int.le_antisymm
    · rw [mostN_iff]
      refine ⟨mostN_0 ps, fun q hq => ?_⟩
      rcases List.mem_or_eq_of_mem_set hq with hq | rfl
      · exact mostN_ge ps q hq
      · rw [hp]; exact mostN_0 ps
    · rw [mostN_iff]
      refine ⟨mostN_0 _, fun q hq => ?_⟩
      by_cases e : q.s = 0
      · rw [e]; exact mostN_0 _
      · exact mostN_ge _ q (mem_set_ne hu hq (by omega))
  · rcases least_spec ps h with ⟨e, h1⟩ | ⟨h1, ⟨q, hq, h2⟩, h3⟩
    · rcases least_spec _ h' with ⟨e', _⟩ | ⟨h1', ⟨q, hq, h2'⟩, _⟩
      · rw [e, e']
      · rcases List.mem_or_eq_of_mem_set hq with hq | rfl
        · have := h1 q hq; omega
        · omega
    · have hq' : q ∈ ps.set u p := mem_set_ne hu hq (by omega)
      rcases least_spec _ h' with ⟨_, h1'⟩ | ⟨h1', ⟨q2, hq2, h2'⟩, h3'⟩
      · have := h1' q hq'; omega
      · have a1 := h3' q hq' (by omega)
        rcases List.mem_or_eq_of_mem_set hq2 with hq2 | rfl
        · have a2 := h3 q2 hq2 (by omega); omega
        · omega
/-- A number that is greater than all over a page without one. -/
theorem nums_new {ps : List Pg} {u : Nat} (hu : u < ps.length) (h0 : ps[u].s = 0) (h : ∀ p ∈ ps, 0 ≤ p.s) {p : Pg} (hp : ∀ q ∈ ps, q.s < p.s) : mostN (ps.set u p) = p.s ∧ (leastN (ps.set u p) = if leastN ps = 0 then p.s else leastN ps) := by
  have hp0 : 0 < p.s := by have := hp _ (List.getElem_mem hu); omega
  have h' : ∀ q ∈ ps.set u p, 0 ≤ q.s := fun q hq => by
    rcases List.mem_or_eq_of_mem_set hq with hq | rfl
    · exact h q hq
    · omega
  have hm : p ∈ ps.set u p := mem_set_self hu
  constructor
  · apply Int.le_antisymm
    · rw [mostN_iff]
      refine ⟨by omega, fun q hq => ?_⟩
      rcases List.mem_or_eq_of_mem_set hq with hq | rfl
      · have := hp q hq; omega
      · exact Int.le_refl _
    · exact mostN_ge _ p hm
  · rcases least_spec _ h' with ⟨_, h1'⟩ | ⟨h1', ⟨q2, hq2, h2'⟩, h3'⟩
    · have := h1' p hm; omega
    · rcases least_spec ps h with ⟨e, h1⟩ | ⟨h1, ⟨q, hq, h2⟩, h3⟩
      · rw [if_pos e]
        rcases List.mem_or_eq_of_mem_set hq2 with hq2 | rfl
        · have := h1 q2 hq2; omega
        · omega
      · rw [if_neg (by omega)]
        have a1 := h3' q (mem_set_ne hu hq (by omega)) (by omega)
        rcases List.mem_or_eq_of_mem_set hq2 with hq2 | rfl
        · have a2 := h3 q2 hq2 (by omega); omega
        · have := hp q hq; omega
theorem ord_parts {bs : List Bk} (h : ordB bs = true) {i k : Nat} (hi : i < 4) (hk : k < 4) (hne : i ≠ k) : ovB (bs.getD i zBk) (bs.getD k zBk) = false ∧ lateB (bs.getD i zBk) (bs.getD k zBk) = false := by
  have := (ordB_iff bs).1 h i hi k hk
  unfold badB at this
  have e : (i != k) = true := by simpa using hne
  rw [e, Bool.true_and, Bool.or_eq_false_iff] at this
  exact this
theorem ord_of {bs : List Bk} (h : ∀ i < 4, ∀ k < 4, i ≠ k → ovB (bs.getD i zBk) (bs.getD k zBk) = false ∧ lateB (bs.getD i zBk) (bs.getD k zBk) = false) : ordB bs = true := by
  rw [ordB_iff]
  intro i hi k hk
  unfold badB
  by_cases e : i = k
  · subst e; simp
  · obtain ⟨h1, h2⟩ := h i hi k hk e
    rw [h1, h2]; simp
theorem late_no {a b : Bk} (h : bgS a = false) : lateB a b = false := by unfold lateB; rw [h]; rfl
theorem ov_iff (a b : Bk) : ovB a b = false ↔ ¬ (0 < mostN a.ps ∧ 0 < mostN b.ps ∧ leastN a.ps < mostN b.ps ∧ leastN b.ps < mostN a.ps) := by
  rw [← Bool.not_eq_true]
  simp only [ovB, Bool.and_eq_true, decide_eq_true_eq, and_assoc]
theorem bg_iff (a : Bk) : bgS a = true ↔ 0 < cleanN a.ps ∧ cleanN a.ps < 4 := by
  simp only [bgS, Bool.and_eq_true, decide_eq_true_eq]
  omega
theorem late_iff (a b : Bk) : lateB a b = false ↔ ¬ (bgS a = true ∧ (bgS b = true ∨ (0 < mostN a.ps ∧ mostN a.ps < mostN b.ps))) := by
  rw [← Bool.not_eq_true]
  simp only [lateB, Bool.and_eq_true, Bool.or_eq_true, decide_eq_true_eq]
/-- What is written where one is to write is in order. -/
theorem ord_wr {bs : List Bk} (hok : okB bs = true) (ho : ordB bs = true) (kb : Nat) (hop : fopR bs = ((kb : Int), true)) (hk : kb < 4) (rk rs ra rv : Int) (hs : ∀ b ∈ bs, ∀ p ∈ b.ps, p.s < rs) (torn : Bool) : ordB (wrL bs kb (pgW torn rk rs ra rv)) = true := by
  have hl := ok_len hok
  have hkl : kb < bs.length := by omega
  have hg := getD_in bs kb hkl
  -- nobody else is begun
  have hspec := open_spec bs
  rw [← fop_ok hok, hop] at hspec
  obtain ⟨hc0, hnb⟩ : 0 < cN bs kb ∧ ∀ i < 4, i ≠ kb → bgS (bs.getD i zBk) = false := by
    rcases hspec with ⟨e, _⟩ | ⟨k, hk1, e, hc, hal⟩
    · exact absurd (Prod.mk.inj e).2 (by simp)
    · have hkk : k = kb := by have := (Prod.mk.inj e).1; omega
      subst hkk
      refine ⟨hc, fun i hi hne => ?_⟩
      rcases hal with ⟨h1, _⟩ | ⟨h1, _⟩
      · have hb : bgS (bs.getD k zBk) = true := (bg_iff _).2 ⟨hc, h1⟩
        have hlt := (ord_parts ho hk hi (fun e => hne e.symm)).2
        cases hx : bgS (bs.getD i zBk)
        · rfl
        · exact absurd ⟨hb, .inl hx⟩ ((late_iff _ _).1 hlt)
      · cases hx : bgS (bs.getD i zBk)
        · rfl
        · exact absurd ((bg_iff _).1 hx) (h1 i (by omega))
  -- the pages of the block
  have hu := (clean_eq hok kb hk).2.2
  have h4 : bs[kb].ps.length = 4 := (ok_fours hok).at kb hkl
  rw [hg] at hu
  have hul : usedN bs[kb].ps < bs[kb].ps.length := by omega
  have hpg : ∀ p ∈ bs[kb].ps, pgB p = true := ok_pages hok _ (List.getElem_mem hkl)
  have hnn : ∀ p ∈ bs[kb].ps, 0 ≤ p.s := fun p hp => by rcases pg_seq (hpg p hp) with h | h <;> omega
  have hcl : bs[kb].ps[usedN bs[kb].ps].st = 0 := by simpa [clB] using used_clean bs[kb].ps hul
  have hz : bs[kb].ps[usedN bs[kb].ps].s = 0 := by rcases pg_seq (hpg _ (List.getElem_mem hul)) with h | h <;> omega
  have hX : (wrL bs kb (pgW torn rk rs ra rv)).getD kb zBk = ⟨bs[kb].ps.set (usedN bs[kb].ps) (pgW torn rk rs ra rv), bs[kb].wn⟩ := by
    unfold wrL
    rw [hg, List.getD_eq_getElem?_getD, List.getElem?_set_self hkl]
    rfl
  have hXo : ∀ i, i ≠ kb → (wrL bs kb (pgW torn rk rs ra rv)).getD i zBk = bs.getD i zBk := fun i hi => by
    unfold wrL
    rw [List.getD_eq_getElem?_getD, List.getElem?_set_ne (fun e => hi e.symm), List.getD_eq_getElem?_getD]
  -- if it has numbers it was begun
  have hbeg : 0 < mostN bs[kb].ps → bgS bs[kb] = true := fun h => by
    rw [bg_iff]
    have hc : cN bs kb = cleanN bs[kb].ps := by unfold cN; rw [hg]
    refine ⟨by omega, ?_⟩
    by_cases h9 : usedN bs[kb].ps = 0
    · have hall := (usedN_zero _).1 h9
      rw [List.all_eq_true] at hall
      rcases mostN_at bs[kb].ps with e | ⟨p, hp, e⟩
      · omega
      · have : p.st = 0 := by simpa [clB] using hall p hp
        rcases pg_seq (hpg p hp) with h | h <;> omega
    · omega
  have hmk : ∀ i < 4, mostN (bs.getD i zBk).ps < rs := fun i hi => by
    have hil : i < bs.length := by omega
    rw [getD_in bs i hil]
    rcases mostN_at bs[i].ps with e | ⟨p, hp, e⟩
    · rw [e]
      have := hs _ (List.getElem_mem hkl) _ (List.getElem_mem hul)
      omega
    · rw [← e]; exact hs _ (List.getElem_mem hil) p hp
  have hlt : ∀ i < 4, i ≠ kb → 0 < mostN bs[kb].ps → ¬ mostN bs[kb].ps < mostN (bs.getD i zBk).ps := fun i hi hne h h9 => by
    have := (ord_parts ho hk hi (fun e => hne e.symm)).2
    rw [hg] at this
    exact (late_iff _ _).1 this ⟨hbeg h, .inr ⟨h, h9⟩⟩
  have hov : ∀ i < 4, i ≠ kb → ¬ (0 < mostN bs[kb].ps ∧ 0 < mostN (bs.getD i zBk).ps ∧ leastN bs[kb].ps < mostN (bs.getD i zBk).ps ∧ leastN (bs.getD i zBk).ps < mostN bs[kb].ps) := fun i hi hne => by
    have := (ord_parts ho hk hi (fun e => hne e.symm)).1
    rw [hg] at this
    exact (ov_iff _ _).1 this
  -- what the block's numbers are now
  obtain ⟨m', l', em, el, key⟩ : ∃ m' l', mostN (bs[kb].ps.set (usedN bs[kb].ps) (pgW torn rk rs ra rv)) = m' ∧ leastN (bs[kb].ps.set (usedN bs[kb].ps) (pgW torn rk rs ra rv)) = l' ∧
      ∀ i < 4, i ≠ kb → ¬ (0 < m' ∧ 0 < mostN (bs.getD i zBk).ps ∧ l' < mostN (bs.getD i zBk).ps ∧ leastN (bs.getD i zBk).ps < m') ∧ ¬ (0 < m' ∧ m' < mostN (bs.getD i zBk).ps) := by
    cases torn
    · obtain ⟨e1, e2⟩ := nums_new (p := pgW false rk rs ra rv) hul hz hnn (fun q hq => hs _ (List.getElem_mem hkl) q hq)
      have e1 : mostN (bs[kb].ps.set (usedN bs[kb].ps) (pgW false rk rs ra rv)) = rs := e1
      refine ⟨rs, _, e1, e2, fun i hi hne => ⟨fun ⟨_, h2, h3, h4⟩ => ?_, fun h => ?_⟩⟩
      · have h5 := hmk i hi
        have h6 : (pgW false rk rs ra rv).s = rs := rfl
        rw [h6] at h3
        by_cases h7 : leastN bs[kb].ps = 0
        · rw [if_pos h7] at h3; omega
        · rw [if_neg h7] at h3
          have hsp := spB_eq (b := bs[kb]) hpg
          have h8 : 0 < mostN bs[kb].ps := by omega
          have h9 := hlt i hi hne h8
          have h10 := hov i hi hne
          by_cases h11 : leastN (bs.getD i zBk).ps < mostN bs[kb].ps
          · exact h10 ⟨h8, h2, h3, h11⟩
          · have hil : i < bs.length := by omega
            have hsi := spB_eq (b := bs[i]) (ok_pages hok _ (List.getElem_mem hil))
            rw [getD_in bs i hil] at h11 h9 h2
            have hne' := apart_nums hok hil hkl hne (by rw [← getD_in bs i hil] at h2 ⊢; exact h2) h8
            omega
      · have := hmk i hi; omega
    · obtain ⟨e1, e2⟩ := nums_zero (p := pgW true rk rs ra rv) hul hz hnn rfl
      refine ⟨_, _, e1, e2, fun i hi hne => ⟨hov i hi hne, fun h => hlt i hi hne h.1 h.2⟩⟩
  refine ord_of fun i hi k hk' hne => ?_
  by_cases e1 : i = kb
  · subst e1
    have hki : k ≠ i := fun e => hne e.symm
    rw [hX, hXo k hki]
    obtain ⟨a1, a2⟩ := key k hk' hki
    refine ⟨(ov_iff _ _).2 ?_, (late_iff _ _).2 ?_⟩
    · show ¬ (0 < mostN (bs[i].ps.set _ _) ∧ _)
      rw [em, el]; exact a1
    · rintro ⟨_, h | h⟩
      · rw [hnb k hk' hki] at h; simp at h
      · have h : 0 < mostN (bs[i].ps.set (usedN bs[i].ps) (pgW torn rk rs ra rv)) ∧ mostN (bs[i].ps.set (usedN bs[i].ps) (pgW torn rk rs ra rv)) < mostN (bs.getD k zBk).ps := h
        rw [em] at h
        exact a2 h
  · rw [hXo i e1]
    refine ⟨?_, late_no (hnb i hi e1)⟩
    by_cases e2 : k = kb
    · subst e2
      rw [hX, ov_iff]
      obtain ⟨a1, _⟩ := key i hi e1
      show ¬ (0 < mostN (bs.getD i zBk).ps ∧ 0 < mostN (bs[k].ps.set _ _) ∧ leastN (bs.getD i zBk).ps < mostN (bs[k].ps.set _ _) ∧ leastN (bs[k].ps.set _ _) < mostN (bs.getD i zBk).ps)
      rw [em, el]
      exact fun ⟨b1, b2, b3, b4⟩ => a1 ⟨b2, b1, b4, b3⟩
    · rw [hXo k e2]
      exact (ord_parts ho hi hk' hne).1
/-- A wipe, when no page is clean, leaves blocks in order. -/
theorem ord_wi {bs : List Bk} (hok : okB bs = true) (ho : ordB bs = true) (h0 : ∀ j < 4, cN bs j = 0) (kb : Nat) (hk : kb < 4) (torn : Bool) : ordB (wiL bs kb torn) = true := by
  have hl := ok_len hok
  have hkl : kb < bs.length := by omega
  have hX : (wiL bs kb torn).getD kb zBk = wiB (bs.getD kb zBk) torn := by
    unfold wiL
    rw [List.getD_eq_getElem?_getD, List.getElem?_set_self hkl]
    rfl
  have hXo : ∀ i, i ≠ kb → (wiL bs kb torn).getD i zBk = bs.getD i zBk := fun i hi => by
    unfold wiL
    rw [List.getD_eq_getElem?_getD, List.getElem?_set_ne (fun e => hi e.symm), List.getD_eq_getElem?_getD]
  have hbg : ∀ i < 4, bgS ((wiL bs kb torn).getD i zBk) = false := fun i hi => by
    cases hb : bgS ((wiL bs kb torn).getD i zBk)
    · rfl
    · have h1 := (bg_iff _).1 hb
      by_cases e : i = kb
      · subst e
        rw [hX] at h1
        cases torn
        · exact absurd h1.2 (by show ¬ ((4 : Nat) < 4); omega)
        · exact absurd h1.1 (by show ¬ ((0 : Nat) < 0); omega)
      · rw [hXo i e] at h1
        have := h0 i hi
        unfold cN at this
        omega
  have hm : mostN (wiB (bs.getD kb zBk) torn).ps = 0 := mostN_wi torn
  refine ord_of fun i hi k hk' hne => ⟨?_, late_no (hbg i hi)⟩
  by_cases e1 : i = kb
  · subst e1
    rw [hX, ov_iff, hm]
    omega
  · by_cases e2 : k = kb
    · subst e2
      rw [hX, ov_iff, hm]
      omega
    · rw [hXo i e1, hXo k e2]
      exact (ord_parts ho hi hk' hne).1
end Go.Proofs.YtbiokmojjneleaaGreat.PlD

/-
  What the laws of stores ask besides: lists that are answered, a new store, boxes.
-/
namespace Go.Proofs.YtbiokmojjneleaaGreat.Px
open Go.ChangeShapes Go.WideShapes Go.ChangeAt Go.RowKit Go.Shelf OkA Big Fl ImplB ImplF ImplS ImplT ImplU SpecA SpecB SpecC SpecD SpecW SpecF SpecG SpecH FindP ImplL FindN FindL Pl Kp StA StB StC StD StE StF StG SpS SpT Sv NwA LqI
set_option linter.unusedVariables false
set_option linter.unusedSimpArgs false

theorem rng2 {w : World} {s : Nat} {x y : Value} (h : Bx w s x y) : w.rangeAt s 0 [x, y] := fun j v hv => by
  rw [Nat.zero_add]
  match j, hv with
  | 0, hv => simp at hv; subst hv; exact h.c0
  | 1, hv => simp at hv; subst hv; exact h.c1
/-- A list that is answered. -/
def LsPost (w : World) (l : List Int) (e : Ending) (w' : World) : Prop := ∃ a cap, e = .returned (.slice a l.length cap) ∧ DkAt w' a l ∧ Below w.heap.size w w'
theorem isForm {w : World} {l : List Int} {e : Ending} {w' : World} (h : IsPost w l e w') : LsPost w l e w' := by
  obtain ⟨v, rfl, hv, b⟩ := h
  obtain ⟨a, cap, rfl, hd⟩ := hv.form
  exact ⟨a, cap, rfl, hd, b⟩
variable {fa da : Option Addr} {fc dc : Nat} {bs : List Bk} {dk : List Int}
theorem iAll2 (w : World) (h : SAt w fa bs da dk) (h4 : bs.length ≤ 4) (h6 : dk.length ≤ 6) :
    Calls Tryz.prog 30 #[.agg #[.slice fa bs.length fc, .slice da dk.length dc]] w fun e w' => LsPost w (alS bs dk) e w' := (iAll w h h4 h6).mono fun _ _ q => isForm q
theorem iDirty2 (w : World) (h : SAt w fa bs da dk) (h4 : bs.length ≤ 4) (h6 : dk.length ≤ 6) :
    Calls Tryz.prog 39 #[.agg #[.slice fa bs.length fc, .slice da dk.length dc]] w fun e w' => LsPost w (dyS bs dk) e w' := (iDirty w h h4 h6).mono fun _ _ q => isForm q
theorem al_le : (alS bs dk).length ≤ 6 := by
  cases h : stB bs dk
  · rw [al_not h]; simp
  · rw [al_len h]; exact Nat.le_refl _
theorem al_new : alS zFs zDk = zDk := by decide
theorem dy_new : dyS zFs zDk = [] := by decide
theorem iAllN (a b : Option Addr) (c1 c2 : Nat) (w : World) (h : SAt w a zFs b zDk) :
    Calls Tryz.prog 30 #[.agg #[.slice a 4 c1, .slice b 6 c2]] w fun e w' => ∃ p q, e = .returned (.slice p 6 q) ∧ DkAt w' p zDk ∧ Below w.heap.size w w' := by
  have := iAll2 (fc := c1) (dc := c2) w h (by decide) (by decide)
  rw [al_new] at this
  exact this
/-- Of two lists that are the same. -/
theorem lqSame (a1 a2 : Option Addr) (c1 c2 : Nat) (xs : List Int) (w : World) (h1 : DkAt w a1 xs) (h2 : DkAt w a2 xs) (hl : xs.length ≤ 6) :
    Calls Tryz.prog 25 #[.slice a1 xs.length c1, .slice a2 xs.length c2] w fun e w' => e = .returned (.bool true) ∧ Below w.heap.size w w' := by
  have := lqInts_any a1 a2 c1 c2 xs xs w h1 h2 (by omega) (by omega)
  rwa [same_self] at this
theorem here : True := trivial
end Go.Proofs.YtbiokmojjneleaaGreat.Px

/-
  Plain facts of stores: one without any record; one whose slow disk is changed; one on which something is written.
-/
namespace Go.Proofs.YtbiokmojjneleaaGreat.Py
open Go.ChangeShapes Go.WideShapes Go.ChangeAt Go.RowKit Go.Shelf OkA Big Fl ImplB ImplF ImplS ImplT ImplU SpecA SpecB SpecC SpecD SpecW SpecF SpecG SpecH FindP ImplL FindN FindL Pl Kp StA StB StC StD StE StF StG SpS SpT Sv NwA PlB SpecO ImplQ FindQ
set_option linter.unusedVariables false
set_option linter.unusedSimpArgs false
variable {bs : List Bk} {dk : List Int}
theorem last_new (a : Int) : lastR zFs a = zRc := by rfl
theorem lastO_new (a : Int) : lastO zFs a = false := by unfold lastO; rw [last_new]; rfl
theorem ord_new : ordR zFs = true := by decide
theorem st_iff : stB bs dk = true ↔ ordR bs = true ∧ dk.length = 6 ∧ ∀ i, i < 6 → badA bs dk i = false := by
  unfold stB
  rw [Bool.and_eq_true, Bool.and_eq_true, beq_iff_eq, List.all_eq_true, and_assoc]
  refine and_congr Iff.rfl (and_congr Iff.rfl ⟨fun h i hi => ?_, fun h i hi => ?_⟩)
  · have := h i (by simpa using hi); simpa using this
  · have := h i (by simpa using hi); simpa using this
theorem bad_iff {i : Nat} : badA bs dk i = false ↔ (0 ≤ dk.getD i 0 ∧ dk.getD i 0 ≤ 9) ∧ ¬ (lastO bs ((i : Int) + 1) = true ∧ (lastR bs ((i : Int) + 1)).k = 2 ∧ (lastR bs ((i : Int) + 1)).v ≠ dk.getD i 0) := by
  unfold badA
  rw [Bool.or_eq_false_iff]
  refine and_congr ?_ ?_
  · simp [inB]
  · rw [Bool.and_eq_false_iff, Bool.and_eq_false_iff]
    constructor
    · rintro h ⟨h1, h2, h3⟩
      rcases h with (h | h) | h
      · rw [h1] at h; cases h
      · simp [h2] at h
      · simp at h; exact h3 h
    · intro h
      cases e1 : lastO bs ((i : Int) + 1)
      · exact .inl (.inl rfl)
      · by_cases e2 : (lastR bs ((i : Int) + 1)).k = 2
        · right
          have : (lastR bs ((i : Int) + 1)).v = dk.getD i 0 := Classical.byContradiction fun q => h ⟨e1, e2, q⟩
          simpa using this
        · exact .inl (.inr (by simpa using e2))
theorem st_wiped (h : stB bs dk = true) : stB zFs dk = true := by
  obtain ⟨_, h6, hb⟩ := st_iff.1 h
  refine st_iff.2 ⟨ord_new, h6, fun i hi => bad_iff.2 ⟨(bad_iff.1 (hb i hi)).1, fun q => ?_⟩⟩
  rw [lastO_new] at q; cases q.1
theorem al_wiped (h : stB bs dk = true) : alS zFs dk = dk := by
  have h6 := (st_iff.1 h).2.1
  unfold alS
  rw [if_pos (st_wiped h)]
  have e : alK zFs dk 6 = (List.range 6).map fun i => dk.getD i 0 := List.map_congr_left fun i _ => by
    unfold readI
    rw [lastO_new, if_neg (by simp), show ((i : Int) + 1 - 1).toNat = i by omega]
  rw [e]
  match dk, h6 with
  | [_, _, _, _, _, _], _ => rfl
theorem dy_wiped : dyS zFs dk = [] := by
  unfold dyS
  split
  · rfl
  · rfl
/-- How many of the first k addresses are dirty. -/
def dyN (bs : List Bk) (k : Nat) : Nat := (dyK bs k).length
theorem dyN_succ (k : Nat) : dyN bs (k + 1) = dyN bs k + if dirtyB bs ((k : Int) + 1) then 1 else 0 := by
  unfold dyN
  rw [dyK_succ, List.length_append]
  split <;> rfl
theorem dyK_pre (bs : List Bk) : ∀ n k, ∃ t, dyK bs (k + n) = dyK bs k ++ t
  | 0, k => ⟨[], by simp⟩
  | n + 1, k => by
    obtain ⟨t, ht⟩ := dyK_pre bs n k
    exact ⟨_, by rw [← Nat.add_assoc, dyK_succ, ht, List.append_assoc]⟩
theorem dy_ok (h : stB bs dk = true) : dyS bs dk = dyK bs 6 := by unfold dyS; rw [if_pos h]
theorem dy_at (h : stB bs dk = true) (j : Nat) (hj : j < 6) (hd : dirtyB bs ((j : Int) + 1) = true) : dyN bs j < (dyS bs dk).length ∧ (dyS bs dk).getD (dyN bs j) 0 = (j : Int) + 1 := by
  obtain ⟨t, ht⟩ := dyK_pre bs (5 - j) (j + 1)
  have e := dyK_succ bs j
  rw [if_pos hd] at e
  rw [show j + 1 + (5 - j) = 6 by omega, e] at ht
  rw [dy_ok h, ht]
  unfold dyN
  refine ⟨by simp, ?_⟩
  rw [List.getD_eq_getElem?_getD, List.append_assoc, List.getElem?_append_right (Nat.le_refl _)]
  simp
theorem dirty_fl {k : Int} (h : stB bs dk = true) (h1 : 1 ≤ k) (h6 : k ≤ 6) : dirtyB bs k = (flO bs k && (flR bs k).k == 1) := by
  have hok := (st_parts h).1
  have hin : inB k 1 6 = true := by simp [inB]; omega
  unfold flO flR dirtyB
  rw [hok, hin]
  simp
theorem clean_rd (h : stB bs dk = true) (j : Nat) (hj : j < 6) (hd : dirtyB bs ((j : Int) + 1) = false) : rdS bs dk ((j : Int) + 1) = dk.getD j 0 := by
  have hok := (st_parts h).1
  rw [rd_ok h (by omega) (by omega)]
  have hin : inB ((j : Int) + 1) 1 6 = true := by simp [inB]; omega
  rw [dirty_fl h (by omega) (by omega)] at hd
  cases ho : flO bs ((j : Int) + 1)
  · rw [if_neg (by simp), show ((j : Int) + 1 - 1).toNat = j by omega]
  · rw [if_pos rfl]
    rw [ho] at hd
    have hl : flR bs ((j : Int) + 1) = lastR bs ((j : Int) + 1) := by unfold flR; rw [hok, hin]; rfl
    have ho2 : lastO bs ((j : Int) + 1) = true := by unfold flO at ho; rw [hok, hin] at ho; simpa using ho
    have hk : (lastR bs ((j : Int) + 1)).k = 2 := by
      rw [hl] at hd
      rcases lastR_ok bs ((j : Int) + 1) hok with e | ⟨e, _⟩
      · unfold lastO at ho2; rw [e] at ho2; simp [zRc] at ho2
      · simp [recB, inB] at e
        simp at hd
        omega
    have hb := (bad_iff.1 ((st_iff.1 h).2.2 j hj)).2
    rw [hl]
    exact Classical.byContradiction fun q => hb ⟨ho2, hk, q⟩
end Go.Proofs.YtbiokmojjneleaaGreat.Py

/-
  Plain facts of a store on which a record is written where one is to write.
-/
namespace Go.Proofs.YtbiokmojjneleaaGreat.Pz
open Go.ChangeShapes Go.WideShapes Go.ChangeAt Go.RowKit Go.Shelf OkA Big Fl ImplB ImplF ImplS ImplT ImplU SpecA SpecB SpecC SpecD SpecW SpecX SpecF SpecG SpecH FindP FindO ImplL FindN FindL Pl Kp StA StB StC StD StE StF StG SpS SpT Sv NwA PlB PlC PlD SpecO ImplQ FindQ Py
set_option linter.unusedVariables false
set_option linter.unusedSimpArgs false
variable {bs : List Bk} {dk : List Int}
/-- A record that may be written: its number is greater than all, its place is where one is to write. -/
structure Wr (bs : List Bk) (kb : Nat) (rk rs ra rv : Int) : Prop where
  ord : ordR bs = true
  op : fopR bs = ((kb : Int), true)
  kb4 : kb < 4
  pos : 0 < cN bs kb
  all : ∀ b ∈ bs, ∀ p ∈ b.ps, p.s < rs
  rc : recB rk rs ra rv = true
variable {kb : Nat} {rk rs ra rv : Int}
theorem Wr.ok (h : Wr bs kb rk rs ra rv) : okB bs = true := by have := h.ord; unfold ordR at this; rw [Bool.and_eq_true] at this; exact this.1
theorem Wr.yes (h : Wr bs kb rk rs ra rv) : SpecD.wrB bs (kb : Int) rk rs ra rv = true ∧ wrN bs kb rs = false := wr_open h.ok kb h.kb4 h.pos rk rs ra rv h.all h.rc
theorem Wr.res (h : Wr bs kb rk rs ra rv) (torn : Bool) : wrR bs (kb : Int) rk rs ra rv torn = wrL bs kb (pgW torn rk rs ra rv) ∧ okB (wrL bs kb (pgW torn rk rs ra rv)) = true := by
  obtain ⟨e, h1, _⟩ := wrR_yes (torn := torn) h.yes.1
  exact ⟨e, h1⟩
theorem Wr.num (h : Wr bs kb rk rs ra rv) : (1 ≤ rk ∧ rk ≤ 2) ∧ (1 ≤ rs ∧ rs ≤ 600) ∧ (1 ≤ ra ∧ ra ≤ 6) ∧ 0 ≤ rv ∧ rv ≤ 9 := by
  have := h.rc
  simp [recB, numB, inB] at this
  omega
theorem Wr.last (h : Wr bs kb rk rs ra rv) (torn : Bool) (a : Int) : lastR (wrL bs kb (pgW torn rk rs ra rv)) a = if torn = false ∧ ra = a then ⟨rk, rs, ra, rv⟩ else lastR bs a :=
  last_wr h.ok kb h.kb4 (Ok2.wrN_no h.yes.2).1 rk rs ra rv h.all (by have := h.num; omega) torn a
theorem Wr.lastO (h : Wr bs kb rk rs ra rv) (torn : Bool) (a : Int) : lastO (wrL bs kb (pgW torn rk rs ra rv)) a = if torn = false ∧ ra = a then true else Pl.lastO bs a := by
  unfold Pl.lastO
  rw [h.last]
  by_cases q : torn = false ∧ ra = a
  · rw [if_pos q, if_pos q]; have := h.num; simp; omega
  · rw [if_neg q, if_neg q]
theorem Wr.ordR (h : Wr bs kb rk rs ra rv) (torn : Bool) : SpecO.ordR (wrL bs kb (pgW torn rk rs ra rv)) = true := by
  have h0 := h.ord
  unfold SpecO.ordR at h0 ⊢
  rw [Bool.and_eq_true] at h0
  rw [(h.res torn).2, ord_wr h0.1 h0.2 kb h.op h.kb4 rk rs ra rv h.all torn]; rfl
/-- The store is ok behind it: of a clean record the slow disk has the value. -/
theorem Wr.st (h : Wr bs kb rk rs ra rv) (hs : stB bs dk = true) (torn : Bool) (hc : rk = 2 → torn = false → rv = dk.getD (ra - 1).toNat 0) : stB (wrL bs kb (pgW torn rk rs ra rv)) dk = true := by
  obtain ⟨_, h6, hb⟩ := st_iff.1 hs
  refine st_iff.2 ⟨h.ordR torn, h6, fun i hi => bad_iff.2 ⟨(bad_iff.1 (hb i hi)).1, ?_⟩⟩
  rintro ⟨q1, q2, q3⟩
  rw [h.last] at q2 q3
  rw [h.lastO] at q1
  by_cases q : torn = false ∧ ra = (i : Int) + 1
  · rw [if_pos q] at q2 q3
    have := hc q2 q.1
    rw [q.2, show ((i : Int) + 1 - 1).toNat = i by omega] at this
    exact q3 this
  · rw [if_neg q] at q1 q2 q3
    exact (bad_iff.1 (hb i hi)).2 ⟨q1, q2, q3⟩
theorem Wr.readI (h : Wr bs kb rk rs ra rv) (torn : Bool) (a : Int) : readI (wrL bs kb (pgW torn rk rs ra rv)) dk a = if torn = false ∧ ra = a then rv else Pl.readI bs dk a := by
  unfold Pl.readI
  rw [h.last, h.lastO]
  by_cases q : torn = false ∧ ra = a
  · rw [if_pos q, if_pos q, if_pos q]; rfl
  · rw [if_neg q, if_neg q, if_neg q]
theorem al_set (bs : List Bk) (dk : List Int) (a v : Int) (h1 : 1 ≤ a) (h6 : a ≤ 6) (f : Int → Int) (hf : ∀ x, f x = if a = x then v else readI bs dk x) :
    ((List.range 6).map fun i => f ((i : Nat) + 1 : Int)) = (alK bs dk 6).set (a - 1).toNat v := by
  refine List.ext_getElem (by simp [alK]) fun j q1 q2 => ?_
  simp at q1
  rw [List.getElem_map, List.getElem_range, hf]
  by_cases e : a = (j : Int) + 1
  · subst e
    rw [if_pos rfl]
    have : ((j : Int) + 1 - 1).toNat = j := by omega
    simp only [this]
    rw [List.getElem_set_self]
  · rw [if_neg e, List.getElem_set_ne (by omega)]
    simp [alK]
/-- What is read of it: the new value, unless it is torn. -/
theorem Wr.al (h : Wr bs kb rk rs ra rv) (hs : stB bs dk = true) (hc : rk = 2 → rv = dk.getD (ra - 1).toNat 0) : alS (wrL bs kb (pgW false rk rs ra rv)) dk = (alS bs dk).set (ra - 1).toNat rv := by
  have hn := h.num
  unfold alS
  rw [if_pos (h.st hs false fun q _ => hc q), if_pos hs]
  unfold alK
  exact al_set bs dk ra rv hn.2.2.1.1 hn.2.2.1.2 _ fun x => by rw [h.readI]; simp
theorem Wr.al_torn (h : Wr bs kb rk rs ra rv) (hs : stB bs dk = true) : alS (wrL bs kb (pgW true rk rs ra rv)) dk = alS bs dk := by
  unfold alS
  rw [if_pos (h.st hs true fun _ q => by cases q), if_pos hs]
  unfold alK
  refine List.map_congr_left fun i _ => ?_
  rw [h.readI]; simp
theorem wr_of (hs : stB bs dk = true) (hop : fopR bs = ((kb : Int), true)) (hk : kb < 4) (hc : 0 < cN bs kb) (hn : nextR bs ≤ 600) {a v : Int} (k : Int) (hk1 : 1 ≤ k) (hk2 : k ≤ 2) (h1 : 1 ≤ a) (h6 : a ≤ 6) (h0 : 0 ≤ v) (h9 : v ≤ 9) : Wr bs kb k (nextR bs) a v := by
  have hok := (st_parts hs).1
  obtain ⟨e, n1, _⟩ := next_ok hok
  exact ⟨(st_iff.1 hs).1, hop, hk, hc, fun b hb p hp => by rw [e]; exact page_lt b hb p hp, by simp [recB, numB, inB]; omega⟩
end Go.Proofs.YtbiokmojjneleaaGreat.Pz

/-
  Plain facts of a store of which one number of the slow disk is changed.
-/
namespace Go.Proofs.YtbiokmojjneleaaGreat.Pu
open Go.ChangeShapes Go.WideShapes Go.ChangeAt Go.RowKit Go.Shelf OkA Big Fl ImplB ImplF ImplS ImplT ImplU SpecA SpecB SpecC SpecD SpecW SpecF SpecG SpecH FindP ImplL FindN FindL Pl Kp StA StB StC StD StE StF StG SpS SpT Sv NwA PlB SpecO ImplQ FindQ Py
set_option linter.unusedVariables false
set_option linter.unusedSimpArgs false
variable {bs : List Bk} {dk : List Int}
theorem fl_last (hs : stB bs dk = true) {q : Nat} (hq : q < 6) : flO bs ((q : Int) + 1) = lastO bs ((q : Int) + 1) ∧ flR bs ((q : Int) + 1) = lastR bs ((q : Int) + 1) := by
  have hok := (st_parts hs).1
  have hin : inB ((q : Int) + 1) 1 6 = true := by simp [inB]; omega
  unfold flO flR
  rw [hok, hin]; simp
theorem getD_set (dk : List Int) (q j : Nat) (y : Int) (hq : q < dk.length) : (dk.set q y).getD j 0 = if j = q then y else dk.getD j 0 := by
  rw [List.getD_eq_getElem?_getD, List.getD_eq_getElem?_getD, List.getElem?_set]
  by_cases e : q = j
  · subst e; simp [hq]
  · rw [if_neg e, if_neg (fun h => e h.symm)]
theorem sd_bad (hs : stB bs dk = true) {q : Nat} (hq : q < 6) {y : Int} (hy : y ≠ dk.getD q 0) (ho : flO bs ((q : Int) + 1) = true) (hk : (flR bs ((q : Int) + 1)).k = 2) : stB bs (dk.set q y) = false := by
  obtain ⟨h0, h6, hb⟩ := st_iff.1 hs
  obtain ⟨e1, e2⟩ := fl_last hs hq
  rw [e1] at ho
  rw [e2] at hk
  cases h : stB bs (dk.set q y)
  · rfl
  · have b1 := (bad_iff.1 (hb q hq)).2
    have b2 := (bad_iff.1 ((st_iff.1 h).2.2 q hq)).2
    rw [getD_set dk q q y (by omega), if_pos rfl] at b2
    have v1 : (lastR bs ((q : Int) + 1)).v = dk.getD q 0 := Classical.byContradiction fun e => b1 ⟨ho, hk, e⟩
    have v2 : (lastR bs ((q : Int) + 1)).v = y := Classical.byContradiction fun e => b2 ⟨ho, hk, e⟩
    exact absurd (v2.symm.trans v1) hy
theorem sd_ok (hs : stB bs dk = true) {q : Nat} (hq : q < 6) {y : Int} (h0 : 0 ≤ y) (h9 : y ≤ 9) (h : ¬ (flO bs ((q : Int) + 1) = true ∧ (flR bs ((q : Int) + 1)).k = 2)) : stB bs (dk.set q y) = true := by
  obtain ⟨ho, h6, hb⟩ := st_iff.1 hs
  obtain ⟨e1, e2⟩ := fl_last hs hq
  rw [e1, e2] at h
  refine st_iff.2 ⟨ho, by simp [h6], fun i hi => bad_iff.2 ?_⟩
  rw [getD_set dk q i y (by omega)]
  by_cases e : i = q
  · subst e
    rw [if_pos rfl]
    exact ⟨⟨h0, h9⟩, fun t => h ⟨t.1, t.2.1⟩⟩
  · rw [if_neg e]
    exact bad_iff.1 (hb i hi)
theorem sd_al (hs : stB bs dk = true) {q : Nat} (hq : q < 6) {y : Int} (h : stB bs (dk.set q y) = true) (ho : flO bs ((q : Int) + 1) = true) : alS bs (dk.set q y) = alS bs dk := by
  have h6 := (st_iff.1 hs).2.1
  rw [(fl_last hs hq).1] at ho
  unfold alS
  rw [if_pos h, if_pos hs]
  unfold alK
  refine List.map_congr_left fun i hi => ?_
  unfold readI
  rw [show ((i : Int) + 1 - 1).toNat = i by omega, getD_set dk q i y (by omega)]
  by_cases e : i = q
  · subst e; rw [ho]; simp
  · rw [if_neg e]
end Go.Proofs.YtbiokmojjneleaaGreat.Pu
