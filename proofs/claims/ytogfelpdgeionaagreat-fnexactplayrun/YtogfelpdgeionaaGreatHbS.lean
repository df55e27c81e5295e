/-
  Texts that belong together, one behind the other: LqI, OrdL, OrdM, Sn9.
-/
import Derived.Test.YtogfelpdgeionaaGreatHaI
import Derived.Test.YtogfelpdgeionaaGreatHaU
import Derived.Test.YtogfelpdgeionaaGreatHaA
import Derived.Test.YtogfelpdgeionaaGreatHaN
import Derived.Test.YtogfelpdgeionaaGreatHaX
import Derived.Test.YtogfelpdgeionaaGreatHbL

/-
  The laws' own comparing of numbers: it says whether they are the same.
-/
namespace Go.Proofs.YtogfelpdgeionaaGreat.LqI
open Go.ChangeShapes Go.WideShapes Go.ChangeAt Go.RowKit OkA Big Fl ImplB ImplF ImplS ImplT ImplU SpecA SpecB LawsA LawsB LawsE StA StB
set_option linter.unusedVariables false
set_option linter.unusedSimpArgs false
attribute [local go_sem ↓] Go.wp_at_zero Go.wp_at_succ

/-- Whether two lists are the same. -/
def sameL (xs ys : List Int) : Bool := decide (xs = ys)
theorem same_iff {xs ys : List Int} : sameL xs ys = true ↔ xs = ys := by simp [sameL]
theorem same_self (xs : List Int) : sameL xs xs = true := by simp [sameL]
theorem same_len {xs ys : List Int} (h : xs.length ≠ ys.length) : sameL xs ys = false := by
  cases hs : sameL xs ys
  · rfl
  · exact absurd (congrArg List.length (same_iff.1 hs)) h
set_option maxHeartbeats 1000000 in
theorem lqInts_any (a1 a2 : Option Addr) (cap1 cap2 : Nat) (xs ys : List Int) (w : World) (h1 : DkAt w a1 xs) (h2 : DkAt w a2 ys) (hl : xs.length ≤ 1048576) (hl2 : ys.length ≤ 1048576) :
    Calls Tryz.prog 31 #[.slice a1 xs.length cap1, .slice a2 ys.length cap2] w fun e w' => e = .returned (.bool (sameL xs ys)) ∧ Below w.heap.size w w' := by
  have H1 := hide h1
  have H2 := hide h2
  clear h1 h2
  have HS : Hid (∀ k, k < xs.length → xs.length = ys.length → xs.getD k 0 ≠ ys.getD k 0 → sameL xs ys = false) := fun k _ _ hne => by
    cases hs : sameL xs ys
    · rfl
    · rw [same_iff.1 hs] at hne; exact absurd rfl hne
  have HT : Hid (xs.length = ys.length → (∀ k, k < xs.length → xs.getD k 0 = ys.getD k 0) → sameL xs ys = true) := fun he hk => same_iff.2 (List.ext_getElem he fun j q1 q2 => by
    have := hk j q1
    rwa [List.getD_eq_getElem?_getD, List.getElem?_eq_getElem q1, List.getD_eq_getElem?_getD, List.getElem?_eq_getElem q2] at this)
  have HL : Hid (xs.length ≠ ys.length → sameL xs ys = false) := fun h => same_len h
  generalize sameL xs ys = R at *
  generalize hn : xs.length = n at *
  generalize hm : ys.length = m at *
  have HN := hide hn
  have HM := hide hm
  clear hn hm
  have hli : (n : Int) ≤ 1048576 := by omega
  have hmi : (m : Int) ≤ 1048576 := by omega
  go_enter Tryz.func31, Tryz.ntmps31
  by_cases hnm : n = m
  · subst hnm
    go_wp2
    go_loopw [5] (fun i w' => ∃ k : Nat, k ≤ n ∧ i = .int .i64 k ∧ Hid (∀ j, j < k → xs.getD j 0 = ys.getD j 0) ∧ Below w.heap.size w w') (fun i _ => n - (intOf i).toNat)
    case atStart => exact ⟨0, by omega, rfl, (fun j hj => by omega), Below.refl _ _⟩
    case round =>
      obtain ⟨k, hk, rfl, HI, bw⟩ := hrel
      by_cases h0 : k = n
      · subst h0
        have HR : Hid (R = true) := unhide HT (by first | rfl | trivial) (unhide HI)
        go_wp2
        go_ret
        exact ⟨by rw [unhide HR]; rfl, bw⟩
      · have hlt : (k : Int) < (n : Int) := by omega
        have hkx : k < xs.length := by have := unhide HN; omega
        have hky : k < ys.length := by have := unhide HM; omega
        have hlo : (0 : Int) ≤ (k : Int) := by omega
        obtain ⟨b1, o1, rfl, g1⟩ : ∃ b o, a1 = some ⟨b, o, none⟩ ∧ wr.rangeAt b o (isC xs) := by
          rcases (unhide H1).below bw with rfl | h
          · simp at hkx
          · exact h
        obtain ⟨b2, o2, rfl, g2⟩ : ∃ b o, a2 = some ⟨b, o, none⟩ ∧ wr.rangeAt b o (isC ys) := by
          rcases (unhide H2).below bw with rfl | h
          · simp at hky
          · exact h
        have x1 := isC_at g1 k hkx
        have x2 := isC_at g2 k hky
        have HX : Hid (xs.getD k 0 ≠ ys.getD k 0 → R = false) := fun q => unhide HS k (by omega) (by first | rfl | trivial) q
        have HI2 : Hid (xs.getD k 0 = ys.getD k 0 → ∀ j, j < k + 1 → xs.getD j 0 = ys.getD j 0) := fun q j hj => by
          by_cases e : j = k
          · subst e; exact q
          · exact unhide HI j (by omega)
        clear g1 g2 HS HT HL HI
        generalize xs.getD k 0 = x at *
        generalize ys.getD k 0 = y at *
        go_wp2_with fail
        refine wp_region_noPanic ?_
        refine wp_region_held_drew (S := fun w' => w'.cell? ⟨b1, o1 + k, none⟩ = some (.int .i64 x) ∧ w'.cell? ⟨b2, o2 + k, none⟩ = some (.int .i64 y)) (by kernel_rfl) (⟨by simpa using x1, by simpa using x2⟩) (fun hHeld => ?_)
        refine takeL 0 (.slice (some ⟨b1, o1, none⟩) n cap1) rfl (by kernel_rfl) (by kernel_rfl) (by kernel_rfl) (fun _ _ _ h => h) (Or.inl ⟨rfl, fun _ _ => rfl⟩) hHeld ?_
        try simp only [Act.put, List.setIfInBounds_toArray, List.set_cons_zero, List.set_cons_succ]
        refine takeL 1 (.int .i64 k) rfl (by kernel_rfl) (by kernel_rfl) (by kernel_rfl) (fun _ _ _ h => h) (Or.inl ⟨rfl, fun _ _ => rfl⟩) hHeld ?_
        try simp only [Act.put, List.setIfInBounds_toArray, List.set_cons_zero, List.set_cons_succ]
        refine takeL 2 (.pointer (some ⟨b1, o1 + k, none⟩)) rfl (by kernel_rfl) (by kernel_rfl) (by kernel_rfl) (fun _ _ _ h => h) (Or.inl ⟨rfl, fun w9 hSw => by go_simp⟩) hHeld ?_
        try simp only [Act.put, List.setIfInBounds_toArray, List.set_cons_zero, List.set_cons_succ]
        refine takeL 3 (.int .i64 x) rfl (by kernel_rfl) (by kernel_rfl) (by kernel_rfl) (fun _ _ _ h => h) (Or.inl ⟨rfl, fun w9 hSw => by have hc := hSw.1; go_simp⟩) hHeld ?_
        try simp only [Act.put, List.setIfInBounds_toArray, List.set_cons_zero, List.set_cons_succ]
        refine takeL 4 (.slice (some ⟨b2, o2, none⟩) n cap2) rfl (by kernel_rfl) (by kernel_rfl) (by kernel_rfl) (fun _ _ _ h => h) (Or.inl ⟨rfl, fun _ _ => rfl⟩) hHeld ?_
        try simp only [Act.put, List.setIfInBounds_toArray, List.set_cons_zero, List.set_cons_succ]
        refine takeL 5 (.int .i64 k) rfl (by kernel_rfl) (by kernel_rfl) (by kernel_rfl) (fun _ _ _ h => h) (Or.inl ⟨rfl, fun _ _ => rfl⟩) hHeld ?_
        try simp only [Act.put, List.setIfInBounds_toArray, List.set_cons_zero, List.set_cons_succ]
        refine takeL 6 (.pointer (some ⟨b2, o2 + k, none⟩)) rfl (by kernel_rfl) (by kernel_rfl) (by kernel_rfl) (fun _ _ _ h => h) (Or.inl ⟨rfl, fun w9 hSw => by go_simp⟩) hHeld ?_
        try simp only [Act.put, List.setIfInBounds_toArray, List.set_cons_zero, List.set_cons_succ]
        refine takeL 7 (.int .i64 y) rfl (by kernel_rfl) (by kernel_rfl) (by kernel_rfl) (fun _ _ _ h => h) (Or.inl ⟨rfl, fun w9 hSw => by have hc := hSw.2; go_simp⟩) hHeld ?_
        try simp only [Act.put, List.setIfInBounds_toArray, List.set_cons_zero, List.set_cons_succ]
        refine takeL 8 (.bool (x != y)) rfl (by kernel_rfl) (by kernel_rfl) (by kernel_rfl) (fun _ _ _ h => h) (Or.inl ⟨rfl, fun w9 hSw => by go_simp⟩) hHeld ?_
        try simp only [Act.put, List.setIfInBounds_toArray, List.set_cons_zero, List.set_cons_succ]
        refine wpAnyH_done (by kernel_rfl) ?_ _
        refine NoPanic.normal ?_
        clear hHeld x1 x2
        by_cases q : x = y
        · have hq : (x != y) = false := by simpa using q
          have HI3 : Hid (∀ j, j < k + 1 → xs.getD j 0 = ys.getD j 0) := unhide HI2 q
          clear q
          go_wp2
          go_roundw
          case rel => exact ⟨k + 1, by omega, by first | rfl | go_num, HI3, bw.drew⟩
          case measure => simp [intOf]; omega
        · have hq : (x != y) = true := by simpa using q
          have HR : Hid (R = false) := unhide HX q
          clear q
          go_wp2
          go_ret
          exact ⟨by rw [unhide HR]; rfl, bw.drew⟩
  · have hne : (n : Int) ≠ (m : Int) := by omega
    have hnb : ((n : Int) != (m : Int)) = true := by simpa using hne
    have HR : Hid (R = false) := unhide HL hnm
    go_wp2
    go_ret
    exact ⟨by rw [unhide HR]; rfl, Below.refl _ _⟩
end Go.Proofs.YtogfelpdgeionaaGreat.LqI

/-
  Of three operations any one may come up.
-/
namespace Go.Proofs.YtogfelpdgeionaaGreat.OrdL
open Go.ChangeShapes Go.WideShapes Go.ChangeAt Go.RowKit Big Kp ImplL
section
variable {P : Program} {Q : Exit → Act → World → Prop} {a : Act} {w : World}
theorem twoL {l : List Oper} {md : Region.Mode} {S : World → Prop} (i j : Nat) {oi oj : Oper} {fuel : Nat} {listed : Array Bool} (hi : nth l i = some oi) (hj : nth l j = some oj) (hr : Region.ready md l.toArray listed = [i, j])
    (hwi : Region.wanted oi (yielded l.toArray a.tmps) = true) (hwj : Region.wanted oj (yielded l.toArray a.tmps) = true)
    (h1 : ∀ K' : Act → World → Prop, Shut (∀ a w, S w → (S w → wpAnyH P md l.toArray Q S fuel (listed.setIfInBounds i true) a w) → K' a w) → Oper.wp P oi a w K' Q)
    (h2 : ∀ K' : Act → World → Prop, Shut (∀ a w, S w → (S w → wpAnyH P md l.toArray Q S fuel (listed.setIfInBounds j true) a w) → K' a w) → Oper.wp P oj a w K' Q) : wpAnyH P md l.toArray Q S (fuel + 1) listed a w :=
  wpAnyH_ready hr (by simp) (AllReadyH.cons (nth_spec l i oi hi) (fun K hK => by rw [if_pos hwi]; exact h1 K hK) (AllReadyH.cons (nth_spec l j oj hj) (fun K hK => by rw [if_pos hwj]; exact h2 K hK) AllReadyH.nil))
theorem threeL {l : List Oper} {md : Region.Mode} {S : World → Prop} (i j k : Nat) {oi oj ok : Oper} {fuel : Nat} {listed : Array Bool} (hi : nth l i = some oi) (hj : nth l j = some oj) (hk : nth l k = some ok) (hr : Region.ready md l.toArray listed = [i, j, k])
    (hwi : Region.wanted oi (yielded l.toArray a.tmps) = true) (hwj : Region.wanted oj (yielded l.toArray a.tmps) = true) (hwk : Region.wanted ok (yielded l.toArray a.tmps) = true)
    (h1 : ∀ K' : Act → World → Prop, Shut (∀ a w, S w → (S w → wpAnyH P md l.toArray Q S fuel (listed.setIfInBounds i true) a w) → K' a w) → Oper.wp P oi a w K' Q)
    (h2 : ∀ K' : Act → World → Prop, Shut (∀ a w, S w → (S w → wpAnyH P md l.toArray Q S fuel (listed.setIfInBounds j true) a w) → K' a w) → Oper.wp P oj a w K' Q)
    (h3 : ∀ K' : Act → World → Prop, Shut (∀ a w, S w → (S w → wpAnyH P md l.toArray Q S fuel (listed.setIfInBounds k true) a w) → K' a w) → Oper.wp P ok a w K' Q) : wpAnyH P md l.toArray Q S (fuel + 1) listed a w :=
  wpAnyH_ready hr (by simp) (AllReadyH.cons (nth_spec l i oi hi) (fun K hK => by rw [if_pos hwi]; exact h1 K hK) (AllReadyH.cons (nth_spec l j oj hj) (fun K hK => by rw [if_pos hwj]; exact h2 K hK) (AllReadyH.cons (nth_spec l k ok hk) (fun K hK => by rw [if_pos hwk]; exact h3 K hK) AllReadyH.nil)))
end
theorem join0 {P : Program} {c : Code} {Q' : Exit → Act → World → Prop} {a : Act} {w : World} {f : Act} {F : World → Prop}
    (h : c.wp P (fun e a' w' => e = Exit.normal ∧ a' = f  ∧ F  w') a w) (k : ∀  w', F  w' → Q' Exit.normal (f ) w') : c.wp P Q' a w :=
  Code.wp_mono (fun e a' w' q => by obtain ⟨rfl, rfl, q⟩ := q; exact k  w' q) h
theorem join1 {P : Program} {c : Code} {Q' : Exit → Act → World → Prop} {a : Act} {w : World} {α0 : Type} {f : α0 → Act} {F : α0 → World → Prop}
    (h : c.wp P (fun e a' w' => e = Exit.normal ∧ ∃ x0, a' = f x0 ∧ F x0 w') a w) (k : ∀ x0 w', F x0 w' → Q' Exit.normal (f x0) w') : c.wp P Q' a w :=
  Code.wp_mono (fun e a' w' q => by obtain ⟨rfl, x0, rfl, q⟩ := q; exact k _ w' q) h
theorem join2 {P : Program} {c : Code} {Q' : Exit → Act → World → Prop} {a : Act} {w : World} {α0 α1 : Type} {f : α0 → α1 → Act} {F : α0 → α1 → World → Prop}
    (h : c.wp P (fun e a' w' => e = Exit.normal ∧ ∃ x0, ∃ x1, a' = f x0 x1 ∧ F x0 x1 w') a w) (k : ∀ x0 x1 w', F x0 x1 w' → Q' Exit.normal (f x0 x1) w') : c.wp P Q' a w :=
  Code.wp_mono (fun e a' w' q => by obtain ⟨rfl, x0, x1, rfl, q⟩ := q; exact k _ _ w' q) h
theorem join3 {P : Program} {c : Code} {Q' : Exit → Act → World → Prop} {a : Act} {w : World} {α0 α1 α2 : Type} {f : α0 → α1 → α2 → Act} {F : α0 → α1 → α2 → World → Prop}
    (h : c.wp P (fun e a' w' => e = Exit.normal ∧ ∃ x0, ∃ x1, ∃ x2, a' = f x0 x1 x2 ∧ F x0 x1 x2 w') a w) (k : ∀ x0 x1 x2 w', F x0 x1 x2 w' → Q' Exit.normal (f x0 x1 x2) w') : c.wp P Q' a w :=
  Code.wp_mono (fun e a' w' q => by obtain ⟨rfl, x0, x1, x2, rfl, q⟩ := q; exact k _ _ _ w' q) h
theorem join4 {P : Program} {c : Code} {Q' : Exit → Act → World → Prop} {a : Act} {w : World} {α0 α1 α2 α3 : Type} {f : α0 → α1 → α2 → α3 → Act} {F : α0 → α1 → α2 → α3 → World → Prop}
    (h : c.wp P (fun e a' w' => e = Exit.normal ∧ ∃ x0, ∃ x1, ∃ x2, ∃ x3, a' = f x0 x1 x2 x3 ∧ F x0 x1 x2 x3 w') a w) (k : ∀ x0 x1 x2 x3 w', F x0 x1 x2 x3 w' → Q' Exit.normal (f x0 x1 x2 x3) w') : c.wp P Q' a w :=
  Code.wp_mono (fun e a' w' q => by obtain ⟨rfl, x0, x1, x2, x3, rfl, q⟩ := q; exact k _ _ _ _ w' q) h
theorem kcells (w : World) (b o : Nat) (vs : List Value) : Kept [b] w (w.setCells b o vs) := (Kept.refl [b] w).setCells (.inl (by simp)) o vs
theorem ckept {w w' : World} {b : Nat} {cs : List Value} (h : CsAt w b cs) {L : List Nat} (k : Kept L w w') (hb : b < w.heap.size) (hL : b ∉ L) : CsAt w' b cs := ⟨k.range h.cells hb hL, k.there h.free hb hL⟩
end Go.Proofs.YtogfelpdgeionaaGreat.OrdL

/-
  Joins of five and six letters, as OrdL's.
-/
namespace Go.Proofs.YtogfelpdgeionaaGreat.OrdM
theorem join5 {P : Program} {c : Code} {Q' : Exit → Act → World → Prop} {a : Act} {w : World} {α0 α1 α2 α3 α4 : Type} {f : α0 → α1 → α2 → α3 → α4 → Act} {F : α0 → α1 → α2 → α3 → α4 → World → Prop}
    (h : c.wp P (fun e a' w' => e = Exit.normal ∧ ∃ x0, ∃ x1, ∃ x2, ∃ x3, ∃ x4, a' = f x0 x1 x2 x3 x4 ∧ F x0 x1 x2 x3 x4 w') a w) (k : ∀ x0 x1 x2 x3 x4 w', F x0 x1 x2 x3 x4 w' → Q' Exit.normal (f x0 x1 x2 x3 x4) w') : c.wp P Q' a w :=
  Code.wp_mono (fun e a' w' q => by obtain ⟨rfl, x0, x1, x2, x3, x4, rfl, q⟩ := q; exact k _ _ _ _ _ w' q) h
theorem join6 {P : Program} {c : Code} {Q' : Exit → Act → World → Prop} {a : Act} {w : World} {α0 α1 α2 α3 α4 α5 : Type} {f : α0 → α1 → α2 → α3 → α4 → α5 → Act} {F : α0 → α1 → α2 → α3 → α4 → α5 → World → Prop}
    (h : c.wp P (fun e a' w' => e = Exit.normal ∧ ∃ x0, ∃ x1, ∃ x2, ∃ x3, ∃ x4, ∃ x5, a' = f x0 x1 x2 x3 x4 x5 ∧ F x0 x1 x2 x3 x4 x5 w') a w) (k : ∀ x0 x1 x2 x3 x4 x5 w', F x0 x1 x2 x3 x4 x5 w' → Q' Exit.normal (f x0 x1 x2 x3 x4 x5) w') : c.wp P Q' a w :=
  Code.wp_mono (fun e a' w' q => by obtain ⟨rfl, x0, x1, x2, x3, x4, x5, rfl, q⟩ := q; exact k _ _ _ _ _ _ w' q) h
theorem join7 {P : Program} {c : Code} {Q' : Exit → Act → World → Prop} {a : Act} {w : World} {α0 α1 α2 α3 α4 α5 α6 : Type} {f : α0 → α1 → α2 → α3 → α4 → α5 → α6 → Act} {F : α0 → α1 → α2 → α3 → α4 → α5 → α6 → World → Prop}
    (h : c.wp P (fun e a' w' => e = Exit.normal ∧ ∃ x0, ∃ x1, ∃ x2, ∃ x3, ∃ x4, ∃ x5, ∃ x6, a' = f x0 x1 x2 x3 x4 x5 x6 ∧ F x0 x1 x2 x3 x4 x5 x6 w') a w) (k : ∀ x0 x1 x2 x3 x4 x5 x6 w', F x0 x1 x2 x3 x4 x5 x6 w' → Q' Exit.normal (f x0 x1 x2 x3 x4 x5 x6) w') : c.wp P Q' a w :=
  Code.wp_mono (fun e a' w' q => by obtain ⟨rfl, x0, x1, x2, x3, x4, x5, x6, rfl, q⟩ := q; exact k _ _ _ _ _ _ _ w' q) h
end Go.Proofs.YtogfelpdgeionaaGreat.OrdM

/-
  A new store, as the laws that draw ask it.
-/
namespace Go.Proofs.YtogfelpdgeionaaGreat.Sn9
open Go.ChangeShapes Go.WideShapes Go.ChangeAt Go.RowKit Go.Shelf Big Fl ImplB ImplF ImplL ImplT ImplU ImplW Kp StA DoA NwA StB StG
set_option linter.unusedVariables false
set_option linter.unusedSimpArgs false
attribute [local go_sem ↓] Go.wp_at_zero Go.wp_at_succ

set_option maxRecDepth 100000 in
set_option maxHeartbeats 2000000 in
theorem newS_any (w : World) : Calls Tryz.prog 137 #[] w fun e w' => ∃ g d, e = .returned (.agg #[.slice (some ⟨g, 0, none⟩) 4 4, .slice (some ⟨d, 0, none⟩) 6 6]) ∧ SAt w' (some ⟨g, 0, none⟩) zFs (some ⟨d, 0, none⟩) zDk ∧ Below w.heap.size w w' := by
  have HM := hide (show (Tryz.prog.info? 3).map (fun i => (i.zero, i.size, i.bytes)) = some (some (.int .i64 0), 1, 8) by kernel_rfl)
  have HSS := hide (show (Tryz.prog.info? 26).map (·.size) = some 2 by kernel_rfl)
  have b1 : Below w.heap.size w (w.alloc (.cells #[.slice none 0 0, .slice none 0 0] 26)) := (Below.refl _ _).alloc (Nat.le_refl _) _
  have cR := CsAt.new w [.slice none 0 0, .slice none 0 0] 26
  have s1 : w.heap.size < (w.alloc (.cells #[.slice none 0 0, .slice none 0 0] 26)).heap.size := by simp
  go_enter Tryz.func137, Tryz.ntmps137
  go_upto_region 1 with fail
  generalize w.alloc (.cells #[.slice none 0 0, .slice none 0 0] 26) = w1 at *
  apply OrdL.join2 (F := fun (g : Nat) (d : Nat) w' => CsAt w' w.heap.size [.slice (some ⟨g, 0, none⟩) 4 4, .slice (some ⟨d, 0, none⟩) 6 6] ∧ FsAt w' (some ⟨g, 0, none⟩) zFs ∧ CsAt w' d (isC zDk) ∧ Kept [w.heap.size] w1 w')
  case h =>
    refine wp_region_noPanic ?_
    refine wp_region_held_drew (S := fun w' => Kept [w.heap.size] w1 w') (by kernel_rfl) (Kept.refl _ _).drew (fun hHeld => ?_)
    replace cR := OrdL.ckept cR (L := []) (Kept.refl [] w1).drew (CsAt.lt cR (by simp)) (by simp)
    generalize w1.drew = y0 at *
    have z0 := hHeld.size
    refine OrdL.twoL 0 1 rfl rfl (by kernel_rfl) rfl rfl  (fun K hK => ?_) (fun K hK => ?_) 
    · go_simp
      refine (flashNew_any _).mono ?_
      rintro e y1 ⟨g, G, rfl, O, b⟩
      go_wp2_with fail
      replace cR := CsAt.below cR b (CsAt.lt cR (by simp))
      refine hK.out _ _ (hHeld.trans (Kept.of b)) (fun hHeld => ?_)
      clear hK K
      try simp only [Act.put, List.setIfInBounds_toArray, List.set_cons_zero, List.set_cons_succ]
      have z1 := b.size
      clear b
      refine oneL 1 rfl (by kernel_rfl) rfl (fun K hK => ?_)
      refine wp_make_big 24 _ _ rfl 6 rfl rfl 3 1 8 (.int .i64 0) Tryz.underlying24 (unhide HM) (by omega) (by omega) ?_
      rw [NwA.made6]
      have b : Below y1.heap.size y1 (y1.alloc (.cells (isC zDk).toArray 3)) := (Below.refl _ _).alloc (Nat.le_refl _) _
      have cD := CsAt.new y1 (isC zDk) 3
      have lcD := hHeld.size
      replace cR := CsAt.below cR b (CsAt.lt cR (by simp))
      replace O := own_kept O (L := []) (Kept.of b) (by simp)
      refine hK.out _ _ (hHeld.trans (Kept.of b)) (fun hHeld => ?_)
      clear hK K
      try simp only [Act.put, List.setIfInBounds_toArray, List.set_cons_zero, List.set_cons_succ]
      have z2 := b.size
      generalize y1.alloc (.cells (isC zDk).toArray 3) = y2 at *
      generalize y1.heap.size = d at *
      clear b
      refine takeL 2 (.agg #[.slice (some ⟨g, 0, none⟩) 4 4, .slice (some ⟨d, 0, none⟩) 6 6]) rfl (by kernel_rfl) (by kernel_rfl) (by kernel_rfl) (fun _ _ _ h => h) (Or.inl ⟨rfl, fun w9 hSw => by go_simp⟩) hHeld ?_
      try simp only [Act.put, List.setIfInBounds_toArray, List.set_cons_zero, List.set_cons_succ]
      refine oneL 3 rfl (by kernel_rfl) rfl (fun K hK => ?_)
      have pcR := cR.put [.slice (some ⟨g, 0, none⟩) 4 4, .slice (some ⟨d, 0, none⟩) 6 6] rfl
      have kz := OrdL.kcells y2 w.heap.size 0 [.slice (some ⟨g, 0, none⟩) 4 4, .slice (some ⟨d, 0, none⟩) 6 6]
      refine wp_store_mid 26 _ _ rfl w.heap.size 0 [.slice (some ⟨g, 0, none⟩) 4 4, .slice (some ⟨d, 0, none⟩) 6 6].toArray rfl rfl cR.free (unhide HSS) (by kernel_rfl) ?_
      refine hK.out _ _ (hHeld.then kz (fun y hy => by simp at hy; subst hy; first | (left; simp; done) | (right; omega))) (fun hHeld => ?_)
      clear hK K
      try simp only [Act.put, List.setIfInBounds_toArray, List.set_cons_zero, List.set_cons_succ]
      replace O := own_kept O kz (fun x hx hm => by simp at hm; subst hm; have := O.lo _ hx; omega)
      replace cD := csAt_kept cD kz (CsAt.lt cD (by simp [isC, zDk])) (by simp; omega)
      clear cR kz
      generalize y2.setCells w.heap.size 0 [.slice (some ⟨g, 0, none⟩) 4 4, .slice (some ⟨d, 0, none⟩) 6 6] = y3 at *
      have cR := pcR
      clear pcR
      refine wpAnyH_done (by kernel_rfl) ?_ _
      refine NoPanic.normal ?_
      exact ⟨rfl, g, d, rfl, cR, O.fs, cD, hHeld⟩
    · refine wp_make_big 24 _ _ rfl 6 rfl rfl 3 1 8 (.int .i64 0) Tryz.underlying24 (unhide HM) (by omega) (by omega) ?_
      rw [NwA.made6]
      have b : Below y0.heap.size y0 (y0.alloc (.cells (isC zDk).toArray 3)) := (Below.refl _ _).alloc (Nat.le_refl _) _
      have cD := CsAt.new y0 (isC zDk) 3
      have lcD := hHeld.size
      replace cR := CsAt.below cR b (CsAt.lt cR (by simp))
      refine hK.out _ _ (hHeld.trans (Kept.of b)) (fun hHeld => ?_)
      clear hK K
      try simp only [Act.put, List.setIfInBounds_toArray, List.set_cons_zero, List.set_cons_succ]
      have z1 := b.size
      generalize y0.alloc (.cells (isC zDk).toArray 3) = y1 at *
      generalize y0.heap.size = d at *
      clear b
      refine oneL 0 rfl (by kernel_rfl) rfl (fun K hK => ?_)
      go_simp
      refine (flashNew_any _).mono ?_
      rintro e y2 ⟨g, G, rfl, O, b⟩
      go_wp2_with fail
      replace cR := CsAt.below cR b (CsAt.lt cR (by simp))
      replace cD := CsAt.below cD b (CsAt.lt cD (by simp [isC, zDk]))
      refine hK.out _ _ (hHeld.trans (Kept.of b)) (fun hHeld => ?_)
      clear hK K
      try simp only [Act.put, List.setIfInBounds_toArray, List.set_cons_zero, List.set_cons_succ]
      have z2 := b.size
      clear b
      refine takeL 2 (.agg #[.slice (some ⟨g, 0, none⟩) 4 4, .slice (some ⟨d, 0, none⟩) 6 6]) rfl (by kernel_rfl) (by kernel_rfl) (by kernel_rfl) (fun _ _ _ h => h) (Or.inl ⟨rfl, fun w9 hSw => by go_simp⟩) hHeld ?_
      try simp only [Act.put, List.setIfInBounds_toArray, List.set_cons_zero, List.set_cons_succ]
      refine oneL 3 rfl (by kernel_rfl) rfl (fun K hK => ?_)
      have pcR := cR.put [.slice (some ⟨g, 0, none⟩) 4 4, .slice (some ⟨d, 0, none⟩) 6 6] rfl
      have kz := OrdL.kcells y2 w.heap.size 0 [.slice (some ⟨g, 0, none⟩) 4 4, .slice (some ⟨d, 0, none⟩) 6 6]
      refine wp_store_mid 26 _ _ rfl w.heap.size 0 [.slice (some ⟨g, 0, none⟩) 4 4, .slice (some ⟨d, 0, none⟩) 6 6].toArray rfl rfl cR.free (unhide HSS) (by kernel_rfl) ?_
      refine hK.out _ _ (hHeld.then kz (fun y hy => by simp at hy; subst hy; first | (left; simp; done) | (right; omega))) (fun hHeld => ?_)
      clear hK K
      try simp only [Act.put, List.setIfInBounds_toArray, List.set_cons_zero, List.set_cons_succ]
      replace cD := csAt_kept cD kz (CsAt.lt cD (by simp [isC, zDk])) (by simp; omega)
      replace O := own_kept O kz (fun x hx hm => by simp at hm; subst hm; have := O.lo _ hx; omega)
      clear cR kz
      generalize y2.setCells w.heap.size 0 [.slice (some ⟨g, 0, none⟩) 4 4, .slice (some ⟨d, 0, none⟩) 6 6] = y3 at *
      have cR := pcR
      clear pcR
      refine wpAnyH_done (by kernel_rfl) ?_ _
      refine NoPanic.normal ?_
      exact ⟨rfl, g, d, rfl, cR, O.fs, cD, hHeld⟩
  case k =>
    rintro g d w' ⟨cR, hz, cD, K⟩
    have BZ := ((Kept.of (L := [w.heap.size]) b1).trans K).all (by simp)
    go_wp2
    refine bodyPost_ret (res_cell_mid Tryz.results137 _ _ w.heap.size [.slice (some ⟨g, 0, none⟩) 4 4, .slice (some ⟨d, 0, none⟩) 6 6] _ rfl cR.cells Tryz.underlying26 rfl (by kernel_rfl)) rfl ?_
    exact ⟨g, d, rfl, ⟨hz, .inr ⟨d, 0, rfl, cD.cells⟩⟩, BZ⟩
end Go.Proofs.YtogfelpdgeionaaGreat.Sn9
