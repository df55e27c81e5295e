/-
  Texts that belong together, one behind the other: StD, StE.
-/
import Derived.Test.YtbiokmojjneleaaGreatHaU
import Derived.Test.YtbiokmojjneleaaGreatHaG

/-
  The program's stores: which addresses' last records are dirty, or clean; whether the slow disk has what is clean.
-/
namespace Go.Proofs.YtbiokmojjneleaaGreat.StD
open Go.ChangeShapes Go.WideShapes Go.ChangeAt Go.RowKit Go.Shelf OkA Big Fl ImplB ImplF ImplS _root_.Go.Proofs.YtbiokmojjneleaaGreat.Own ImplT ImplU SpecA SpecB SpecC SpecD SpecW SpecF SpecG SpecH Ok2 Pl FindP SpecX ImplL FindN FindL FindV FindQ Kp StA MpA StB StC
set_option linter.unusedVariables false
set_option linter.unusedSimpArgs false
attribute [local go_sem ↓] Go.wp_at_zero Go.wp_at_succ

/-! A row of numbers that grows. -/
structure Rw (w : World) (lo : Nat) (v : Value) (l : List Int) : Prop where
  row : w.ownsRow lo 3 1 v l.length (isC l)
  lt : ∀ g, v.ownBlock = some g → lo ≤ g ∧ g < w.heap.size
theorem made_int : (Tryz.prog.info? 3).map (fun i => (i.zero, i.size, i.bytes)) = some (some (.int .i64 0), 1, 8) := by kernel_rfl
theorem infoI : ∃ i, Tryz.prog.info? 3 = some i ∧ i.zero = some (.int .i64 0) ∧ i.size = 1 ∧ i.bytes = 8 := by
  have h := made_int
  cases hq : Tryz.prog.info? 3 with
  | none => rw [hq] at h; cases h
  | some i => rw [hq] at h; simp at h; exact ⟨i, rfl, h.1, h.2.1, h.2.2⟩
theorem Rw.below {w w' : World} {lo : Nat} {v : Value} {l : List Int} (h : Rw w lo v l) {B : Nat} (hb : Below B w w') (hB : w.heap.size ≤ B) : Rw w' lo v l :=
  ⟨ownsRow_below h.row hb (fun g hg => Nat.lt_of_lt_of_le (h.lt g hg).2 hB), fun g hg => ⟨(h.lt g hg).1, Nat.lt_of_lt_of_le (h.lt g hg).2 hb.size⟩⟩
theorem Rw.nil (w : World) (lo : Nat) : Rw w lo (.slice none 0 0) [] :=
  ⟨⟨by simp [maxLen, isC], .inl ⟨rfl, rfl⟩⟩, fun g hg => by simp [Value.ownBlock] at hg⟩
theorem Rw.nil' (w : World) (lo : Nat) (hl : lo ≤ w.heap.size) : Rw (w.alloc (.cells #[] 3)) lo (.slice (some ⟨w.heap.size, 0, none⟩) 0 0) [] :=
  ⟨World.ownsRow_lit w #[] 0 hl (by simp [maxLen]) rfl, fun g hg => by simp [Value.ownBlock] at hg; subst hg; exact ⟨hl, by simp⟩⟩
theorem Rw.mono {w : World} {lo lo' : Nat} {v : Value} {l : List Int} (h : Rw w lo v l) (hl : lo' ≤ lo) : Rw w lo' v l := by
  refine ⟨?_, fun g hg => ⟨Nat.le_trans hl (h.lt g hg).1, (h.lt g hg).2⟩⟩
  obtain ⟨h1, h2⟩ := h.row
  refine ⟨h1, ?_⟩
  rcases h2 with h2 | ⟨g, cap, cur, e, hb, r⟩
  · exact .inl h2
  · exact .inr ⟨g, cap, cur, e, Nat.le_trans hl hb, r⟩
theorem isC_one (l : List Int) (x : Int) : isC (l ++ [x]) = isC l ++ [.int .i64 x] := by simp [isC]
theorem Rw.push {w w' : World} {lo : Nat} {v v' : Value} {l : List Int} {x : Int} (h : Rw w lo v l) (hlo : lo ≤ w.heap.size) (ho : w'.ownsRow lo 3 1 v' (l.length + 1) (isC l ++ [.int .i64 x])) (hg : w.grownBy w' v.ownBlock) : Rw w' lo v' (l ++ [x]) ∧ Below lo w w' := by
  refine ⟨⟨by rw [isC_one, List.length_append]; exact ho, fun g e => ?_⟩, (Below.refl _ _).grown hg hlo (fun k e => (h.lt k e).1)⟩
  obtain ⟨_, h2⟩ := ho
  rcases h2 with ⟨_, h2⟩ | ⟨g', cap, cur, rfl, hb, hh, _⟩
  · omega
  · simp [Value.ownBlock] at e
    subst e
    refine ⟨hb, ?_⟩
    by_cases hlt : g' < w'.heap.size
    · exact hlt
    · have : w'.heap[g']? = none := by simp; omega
      rw [this] at hh; cases hh
/-- The row as a slice. -/
theorem Rw.form {w : World} {lo : Nat} {v : Value} {l : List Int} (h : Rw w lo v l) : ∃ a cap, v = .slice a l.length cap ∧ DkAt w a l := by
  obtain ⟨h1, h2⟩ := h.row
  rcases h2 with ⟨rfl, h2⟩ | ⟨g, cap, cur, rfl, hb, hh, r⟩
  · have : l = [] := by cases l; rfl; simp at h2
    subst this
    exact ⟨none, 0, rfl, .inl rfl⟩
  · by_cases hl : l.length = 0
    · exact ⟨_, cap, rfl, .inl (List.length_eq_zero_iff.1 hl)⟩
    · exact ⟨_, cap, rfl, .inr ⟨g, 0, rfl, (row_pages (by omega) h.row).1⟩⟩

/-- A list of numbers in new memory: empty, or a row of its own. -/
def NewIs (w : World) (lo : Nat) (v : Value) (l : List Int) : Prop := (l = [] ∧ ∃ a c, v = .slice a 0 c) ∨ ∃ g cap, v = .slice (some ⟨g, 0, none⟩) l.length cap ∧ lo ≤ g ∧ g < w.heap.size ∧ CsAt w g (isC l)
theorem NewIs.form {w : World} {lo : Nat} {v : Value} {l : List Int} (h : NewIs w lo v l) : ∃ a cap, v = .slice a l.length cap ∧ DkAt w a l := by
  rcases h with ⟨rfl, a, c, rfl⟩ | ⟨g, cap, rfl, _, _, h⟩
  · exact ⟨a, c, rfl, .inl rfl⟩
  · exact ⟨_, cap, rfl, .inr ⟨g, 0, rfl, h.cells⟩⟩
theorem NewIs.below {w w' : World} {lo : Nat} {v : Value} {l : List Int} (h : NewIs w lo v l) {B : Nat} (hb : Below B w w') (hB : w.heap.size ≤ B) : NewIs w' lo v l := by
  rcases h with h | ⟨g, cap, rfl, h1, h2, h⟩
  · exact .inl h
  · exact .inr ⟨g, cap, rfl, h1, Nat.lt_of_lt_of_le h2 hb.size, h.below hb (by omega)⟩
theorem Rw.new {w : World} {lo : Nat} {v : Value} {l : List Int} (h : Rw w lo v l) : NewIs w lo v l := by
  by_cases hl : l = []
  · subst hl
    obtain ⟨a, cap, e, _⟩ := h.form
    exact .inl ⟨rfl, a, cap, e⟩
  · have hp : 0 < l.length := List.length_pos_iff.2 hl
    have hr := h.row
    obtain ⟨h1, h2⟩ := h.row
    rcases h2 with ⟨rfl, h2⟩ | ⟨g, cap, cur, rfl, hb, hh, r⟩
    · omega
    · have := row_pages hp hr
      exact .inr ⟨g, cap, rfl, hb, (h.lt g rfl).2, this.1, by rw [len_isC]; simpa using this.2⟩
def IsPost (w : World) (l : List Int) (e : Ending) (w' : World) : Prop := ∃ v, e = .returned v ∧ NewIs w' w.heap.size v l ∧ Below w.heap.size w w'

/-- Of the first k addresses those whose record that is told. -/
def whK (t : Rc → Bool) (f : Int → Option Rc) (k : Nat) : List Int := ((List.range k).map fun i => ((i : Nat) : Int) + 1).filter fun i => t ((f i).getD zRc)
theorem whK_succ (t : Rc → Bool) (f : Int → Option Rc) (k : Nat) : whK t f (k + 1) = whK t f k ++ (if t ((f ((k : Int) + 1)).getD zRc) then [(k : Int) + 1] else []) := by
  unfold whK
  rw [List.range_succ, List.map_append, List.filter_append]
  congr 1
  simp only [List.map_cons, List.map_nil, List.filter_cons, List.filter_nil]
theorem whK_len (t : Rc → Bool) (f : Int → Option Rc) (k : Nat) : (whK t f k).length ≤ k := by
  unfold whK
  exact Nat.le_trans (List.length_filter_le _ _) (by simp)
theorem whK_mem {t : Rc → Bool} {f : Int → Option Rc} {k : Nat} {x : Int} : x ∈ whK t f k ↔ (1 ≤ x ∧ x ≤ k) ∧ t ((f x).getD zRc) = true := by
  unfold whK
  rw [List.mem_filter, List.mem_map]
  constructor
  · rintro ⟨⟨i, hi, rfl⟩, h⟩
    simp at hi
    exact ⟨by omega, h⟩
  · rintro ⟨⟨h1, h2⟩, h⟩
    exact ⟨⟨(x - 1).toNat, by simp; omega, by omega⟩, h⟩
def WhPost (w : World) (l : List Int) (e : Ending) (w' : World) : Prop := ∃ v, e = .returned v ∧ Rw w' w.heap.size v l ∧ Below w.heap.size w w'

/-- Which kind a record is of. -/
def kindD (r : Rc) : Bool := r.k == 1
def kindC (r : Rc) : Bool := r.k == 2

set_option maxRecDepth 100000 in
set_option maxHeartbeats 1000000 in
theorem whoseD_any (ks : List Bk) (hk4 : ks.length = 4) (hkF : Fours ks) (mb n : Nat) (f : Int → Option Rc) (dk : List Int) (h6 : dk.length = 6) (w : World) (hM : MapAt w mb n f) :
    Calls Tryz.prog 68 #[.agg (skC ks mb dk).toArray, .func (.func 69) #[] #[]] w fun e w' => WhPost w (whK kindD f 6) e w' := by
  have ht : ∀ (r : Rc) (w : World), Calls Tryz.prog 69 #[.agg (rcC r).toArray] w fun e w' => e = .returned (.bool (kindD r)) ∧ Below w.heap.size w w' := rdirty_any
  generalize kindD = t at *
  have cS := CsAt.new w (skC ks mb dk) 78
  have B0 : Below w.heap.size w (w.alloc (.cells (skC ks mb dk).toArray 78)) := (Below.refl _ _).alloc (Nat.le_refl _) _
  have s0 : w.heap.size + 1 ≤ (w.alloc (.cells (skC ks mb dk).toArray 78)).heap.size := by simp
  have hM2 := hM.below B0 hM.lt
  have hml := hM.lt
  have HT := hide ht
  obtain ⟨iI, hiI, hzI, hsI, hbI⟩ := infoI
  have HI := hide hiI
  clear hM ht hiI
  have HW0 : Hid (whK t f 0 = []) := rfl
  go_enter Tryz.func68, Tryz.ntmps68
  go_wp2_with (refine wpList_box_big rfl _ _ rfl (skC ks mb dk).toArray rfl ?_)
  generalize w.alloc (.cells (skC ks mb dk).toArray 78) = w1 at *
  go_loopw [5, 6] (fun v i w' => ∃ k : Nat, k ≤ 6 ∧ i = .int .i64 ((k : Int) + 1) ∧ Rw w' (w.heap.size + 1) v (whK t f k) ∧ CsAt w' w.heap.size (skC ks mb dk) ∧ MapAt w' mb n f ∧ w.heap.size + 1 ≤ w'.heap.size ∧ Below w.heap.size w w') (fun _ i _ => 7 - (intOf i).toNat)
  case atStart => exact ⟨0, by omega, rfl, Rw.nil _ _, cS, hM2, s0, B0⟩
  case round =>
    clear cS hM2 s0 B0
    obtain ⟨k, hk, rfl, hR, hC, hM, hs, hB⟩ := hrel
    by_cases h0 : k = 6
    · subst h0
      go_wp2
      go_ret
      exact ⟨_, rfl, hR.mono (by omega), hB⟩
    · have hlt : (k : Int) + 1 ≤ 6 := by omega
      have hlo : (0 : Int) ≤ (k : Int) := by omega
      have hlk := hM.look (i := (k : Int) + 1) (by omega) (by omega)
      have x0 := hC.cell 84 _ (sk_map hk4 hkF)
      have HWS := hide (whK_succ t f k)
      have HWL := hide (whK_len t f k)
      generalize (f ((k : Int) + 1)).getD zRc = r at *
      go_wp2_with (refine wpList_look rfl _ _ _ false rfl _ _ _ rfl rfl hlk ?_)
      refine (unhide HT r _).mono ?_
      rintro e w2 ⟨rfl, b2⟩
      have hR2 := hR.below b2 (Nat.le_refl _)
      have hC2 := hC.below b2 (by omega)
      have hM2 := hM.below b2 (by omega)
      have hB2 := hB.trans (b2.mono hB.size)
      have hs2 := Nat.le_trans hs b2.size
      clear hR hC hM hB hs b2 hlk x0
      cases hz : t r
      · have HE : Hid (whK t f (k + 1) = whK t f k) := by show _ = _; rw [unhide HWS, hz]; simp
        go_wp2
        go_roundw
        case rel => exact ⟨k + 1, by omega, by first | rfl | go_num, by rw [unhide HE]; exact hR2, hC2, hM2, hs2, hB2⟩
        case measure => simp [intOf]; omega
      · have HE : Hid (whK t f (k + 1) = whK t f k ++ [(k : Int) + 1]) := by show _ = _; rw [unhide HWS, hz]; rfl
        generalize whK t f k = L at *
        have hnw : ∀ j u, [Value.int .i64 ((k : Int) + 1)][j]? = some u → (w2.alloc (.cells #[.int .i64 ((k : Int) + 1)] 3)).cell? ((⟨w2.heap.size, 0, none⟩ : Addr).add j) = some u := src_mid (rangeAt_new w2 [.int .i64 ((k : Int) + 1)] 3)
        have bA : Below w2.heap.size w2 (w2.alloc (.cells #[.int .i64 ((k : Int) + 1)] 3)) := (Below.refl _ _).alloc (Nat.le_refl _) _
        have hR3 := hR2.below bA (Nat.le_refl _)
        have hC3 := hC2.below bA (by omega)
        have hM3 := hM2.below bA (by omega)
        have hB3 := hB2.trans (bA.mono (by omega))
        have hs3 := Nat.le_trans hs2 bA.size
        have hrow := hR3.row
        have hone : ∀ u ∈ [Value.int .i64 ((k : Int) + 1)], u.oneCell' = true := fun u hu => by simp at hu; subst hu; rfl
        clear hR2 hC2 hM2 hB2 hs2 bA
        go_upto_region 4 with (refine wpList_append_own _ rfl _ _ 24 rfl (w.heap.size + 1) 3 iI (.int .i64 0) 1 8 Tryz.underlying24 (unhide HI) hzI hsI hbI rfl (by omega) _ L.length (isC L) rfl hrow ⟨w2.heap.size, 0, none⟩ 1 1 [.int .i64 ((k : Int) + 1)] rfl rfl hnw hone (by have := unhide HWL; simp [maxLen]; omega) (by have := unhide HWL; omega) (by omega) ?_; intro v' w7 ho7 hg7 _)
        obtain ⟨hR7, b7⟩ := hR3.push (x := (k : Int) + 1) (by omega) ho7 hg7
        have hC7 := hC3.below b7 (by omega)
        have hM7 := hM3.below b7 (by omega)
        have hB7 := hB3.trans (b7.mono (by omega))
        have hs7 := Nat.le_trans hs3 b7.size
        rw [← unhide HE] at hR7
        clear hR3 hC3 hM3 hB3 hs3 ho7 hg7 b7 hrow hnw
        generalize w2.alloc (.cells #[.int .i64 ((k : Int) + 1)] 3) = w3 at *
        go_wp2
        go_roundw
        case rel => exact ⟨k + 1, by omega, by first | rfl | go_num, hR7, hC7, hM7, hs7, hB7⟩
        case measure => simp [intOf]; omega
set_option maxRecDepth 100000 in
set_option maxHeartbeats 1000000 in
theorem whoseC_any (ks : List Bk) (hk4 : ks.length = 4) (hkF : Fours ks) (mb n : Nat) (f : Int → Option Rc) (dk : List Int) (h6 : dk.length = 6) (w : World) (hM : MapAt w mb n f) :
    Calls Tryz.prog 68 #[.agg (skC ks mb dk).toArray, .func (.func 112) #[] #[]] w fun e w' => WhPost w (whK kindC f 6) e w' := by
  have ht : ∀ (r : Rc) (w : World), Calls Tryz.prog 112 #[.agg (rcC r).toArray] w fun e w' => e = .returned (.bool (kindC r)) ∧ Below w.heap.size w w' := rclean_any
  generalize kindC = t at *
  have cS := CsAt.new w (skC ks mb dk) 78
  have B0 : Below w.heap.size w (w.alloc (.cells (skC ks mb dk).toArray 78)) := (Below.refl _ _).alloc (Nat.le_refl _) _
  have s0 : w.heap.size + 1 ≤ (w.alloc (.cells (skC ks mb dk).toArray 78)).heap.size := by simp
  have hM2 := hM.below B0 hM.lt
  have hml := hM.lt
  have HT := hide ht
  obtain ⟨iI, hiI, hzI, hsI, hbI⟩ := infoI
  have HI := hide hiI
  clear hM ht hiI
  have HW0 : Hid (whK t f 0 = []) := rfl
  go_enter Tryz.func68, Tryz.ntmps68
  go_wp2_with (refine wpList_box_big rfl _ _ rfl (skC ks mb dk).toArray rfl ?_)
  generalize w.alloc (.cells (skC ks mb dk).toArray 78) = w1 at *
  go_loopw [5, 6] (fun v i w' => ∃ k : Nat, k ≤ 6 ∧ i = .int .i64 ((k : Int) + 1) ∧ Rw w' (w.heap.size + 1) v (whK t f k) ∧ CsAt w' w.heap.size (skC ks mb dk) ∧ MapAt w' mb n f ∧ w.heap.size + 1 ≤ w'.heap.size ∧ Below w.heap.size w w') (fun _ i _ => 7 - (intOf i).toNat)
  case atStart => exact ⟨0, by omega, rfl, Rw.nil _ _, cS, hM2, s0, B0⟩
  case round =>
    clear cS hM2 s0 B0
    obtain ⟨k, hk, rfl, hR, hC, hM, hs, hB⟩ := hrel
    by_cases h0 : k = 6
    · subst h0
      go_wp2
      go_ret
      exact ⟨_, rfl, hR.mono (by omega), hB⟩
    · have hlt : (k : Int) + 1 ≤ 6 := by omega
      have hlo : (0 : Int) ≤ (k : Int) := by omega
      have hlk := hM.look (i := (k : Int) + 1) (by omega) (by omega)
      have x0 := hC.cell 84 _ (sk_map hk4 hkF)
      have HWS := hide (whK_succ t f k)
      have HWL := hide (whK_len t f k)
      generalize (f ((k : Int) + 1)).getD zRc = r at *
      go_wp2_with (refine wpList_look rfl _ _ _ false rfl _ _ _ rfl rfl hlk ?_)
      refine (unhide HT r _).mono ?_
      rintro e w2 ⟨rfl, b2⟩
      have hR2 := hR.below b2 (Nat.le_refl _)
      have hC2 := hC.below b2 (by omega)
      have hM2 := hM.below b2 (by omega)
      have hB2 := hB.trans (b2.mono hB.size)
      have hs2 := Nat.le_trans hs b2.size
      clear hR hC hM hB hs b2 hlk x0
      cases hz : t r
      · have HE : Hid (whK t f (k + 1) = whK t f k) := by show _ = _; rw [unhide HWS, hz]; simp
        go_wp2
        go_roundw
        case rel => exact ⟨k + 1, by omega, by first | rfl | go_num, by rw [unhide HE]; exact hR2, hC2, hM2, hs2, hB2⟩
        case measure => simp [intOf]; omega
      · have HE : Hid (whK t f (k + 1) = whK t f k ++ [(k : Int) + 1]) := by show _ = _; rw [unhide HWS, hz]; rfl
        generalize whK t f k = L at *
        have hnw : ∀ j u, [Value.int .i64 ((k : Int) + 1)][j]? = some u → (w2.alloc (.cells #[.int .i64 ((k : Int) + 1)] 3)).cell? ((⟨w2.heap.size, 0, none⟩ : Addr).add j) = some u := src_mid (rangeAt_new w2 [.int .i64 ((k : Int) + 1)] 3)
        have bA : Below w2.heap.size w2 (w2.alloc (.cells #[.int .i64 ((k : Int) + 1)] 3)) := (Below.refl _ _).alloc (Nat.le_refl _) _
        have hR3 := hR2.below bA (Nat.le_refl _)
        have hC3 := hC2.below bA (by omega)
        have hM3 := hM2.below bA (by omega)
        have hB3 := hB2.trans (bA.mono (by omega))
        have hs3 := Nat.le_trans hs2 bA.size
        have hrow := hR3.row
        have hone : ∀ u ∈ [Value.int .i64 ((k : Int) + 1)], u.oneCell' = true := fun u hu => by simp at hu; subst hu; rfl
        clear hR2 hC2 hM2 hB2 hs2 bA
        go_upto_region 4 with (refine wpList_append_own _ rfl _ _ 24 rfl (w.heap.size + 1) 3 iI (.int .i64 0) 1 8 Tryz.underlying24 (unhide HI) hzI hsI hbI rfl (by omega) _ L.length (isC L) rfl hrow ⟨w2.heap.size, 0, none⟩ 1 1 [.int .i64 ((k : Int) + 1)] rfl rfl hnw hone (by have := unhide HWL; simp [maxLen]; omega) (by have := unhide HWL; omega) (by omega) ?_; intro v' w7 ho7 hg7 _)
        obtain ⟨hR7, b7⟩ := hR3.push (x := (k : Int) + 1) (by omega) ho7 hg7
        have hC7 := hC3.below b7 (by omega)
        have hM7 := hM3.below b7 (by omega)
        have hB7 := hB3.trans (b7.mono (by omega))
        have hs7 := Nat.le_trans hs3 b7.size
        rw [← unhide HE] at hR7
        clear hR3 hC3 hM3 hB3 hs3 ho7 hg7 b7 hrow hnw
        generalize w2.alloc (.cells #[.int .i64 ((k : Int) + 1)] 3) = w3 at *
        go_wp2
        go_roundw
        case rel => exact ⟨k + 1, by omega, by first | rfl | go_num, hR7, hC7, hM7, hs7, hB7⟩
        case measure => simp [intOf]; omega
end Go.Proofs.YtbiokmojjneleaaGreat.StD

/-
  The program's stores as they are kept: whether the slow disk has what is clean; the whole store, if it is ok.
-/
namespace Go.Proofs.YtbiokmojjneleaaGreat.StE
open Go.ChangeShapes Go.WideShapes Go.ChangeAt Go.RowKit Go.Shelf OkA Big Fl ImplB ImplF ImplS _root_.Go.Proofs.YtbiokmojjneleaaGreat.Own ImplT ImplU SpecA SpecB SpecC SpecD SpecW SpecF SpecG SpecH Ok2 Pl FindP ImplO SpecX ImplW ImplL FindN FindL FindV FindQ Kp StA MpA StB StC StD
set_option linter.unusedVariables false
set_option linter.unusedSimpArgs false
attribute [local go_sem ↓] Go.wp_at_zero Go.wp_at_succ

theorem field_rec (r : Rc) (w : World) : (Instr.field 36 (.agg (rcC r).toArray) 3).run Tryz.prog w = .ok (.int .i64 r.v) w := by
  have hagg : (isAgg 3).run Tryz.prog w = .ok false w := by
    unfold isAgg
    rw [Sem.run_bind, run_underlying Tryz.underlying3 w]
    rfl
  have hsz : (Tryz.prog.info? 3).map (·.size) = some 1 := by kernel_rfl
  cases hq : Tryz.prog.info? 3 with
  | none => simp [hq] at hsz
  | some j =>
    have hj : j.size = 1 := by simpa [hq] using hsz
    simp [Instr.field, run_underlying Tryz.underlying36, part, asAgg, hagg, sizeOf, typeInfo, hq, hj, rcC]
/-- The slow disk has what is clean. -/
def hcB (f : Int → Option Rc) (dk : List Int) : Bool := (whK kindC f 6).all fun a => dkV dk a == ((f a).getD zRc).v
set_option maxRecDepth 100000 in
set_option maxHeartbeats 1000000 in
theorem hasClean_any (ks : List Bk) (hk4 : ks.length = 4) (hkF : Fours ks) (mb n : Nat) (f : Int → Option Rc) (dk : List Int) (h6 : dk.length = 6) (w : World) (hM : MapAt w mb n f) :
    Calls Tryz.prog 81 #[.agg (skC ks mb dk).toArray] w fun e w' => e = .returned (.bool (hcB f dk)) ∧ Below w.heap.size w w' := by
  have cS := CsAt.new w (skC ks mb dk) 78
  have rS := cS.cells
  have B0 : Below w.heap.size w (w.alloc (.cells (skC ks mb dk).toArray 78)) := (Below.refl _ _).alloc (Nat.le_refl _) _
  have s0 : w.heap.size + 1 ≤ (w.alloc (.cells (skC ks mb dk).toArray 78)).heap.size := by simp
  have hM2 := hM.below B0 hM.lt
  have hml := hM.lt
  have HR : Hid (hcB f dk = (whK kindC f 6).all fun a => dkV dk a == ((f a).getD zRc).v) := rfl
  have HS := hide (size_sk (mb := mb) hk4 hkF h6)
  have HSD := hide (size_dk h6)
  have HL6 : Hid ((whK kindC f 6).length ≤ 6) := whK_len _ _ _
  have HMEM : Hid (∀ x ∈ whK kindC f 6, 1 ≤ x ∧ x ≤ 6) := fun x hx => by have := (whK_mem.1 hx).1; omega
  have HWH := hide (fun (w' : World) (h : MapAt w' mb n f) => whoseC_any ks hk4 hkF mb n f dk h6 w' h)
  have HDO := hide (fun (addr : Int) (h1 : 1 ≤ addr) (h2 : addr ≤ 6) (w' : World) => dof_any dk h6 addr h1 h2 w')
  generalize hcB f dk = R at *
  clear hM
  go_enter Tryz.func81, Tryz.ntmps81
  go_wp2_with (first | (refine wpList_box_big rfl _ _ rfl (skC ks mb dk).toArray rfl ?_) | (refine wpList_load_mid rfl 78 _ rfl w.heap.size 0 rfl (skC ks mb dk) _ rS Tryz.underlying78 rfl (unhide HS) ?_))
  generalize w.alloc (.cells (skC ks mb dk).toArray 78) = w1 at *
  refine (unhide HWH _ hM2).mono ?_
  rintro e w2 ⟨v, rfl, hRw, b2⟩
  obtain ⟨a, cap, rfl, hA⟩ := hRw.form
  have cS2 := cS.below b2 (by omega)
  have hM3 := hM2.below b2 (by omega)
  have B2 := B0.trans (b2.mono B0.size)
  have s2 := Nat.le_trans s0 b2.size
  clear cS rS hM2 B0 s0 b2 hRw HWH
  generalize whK kindC f 6 = L at *
  have hL6 := unhide HL6
  have hL6i : (L.length : Int) ≤ 6 := by omega
  go_wp2
  go_loopw [8] (fun i w' => ∃ k : Nat, k ≤ L.length ∧ i = .int .i64 k ∧ Hid (∀ j (hj : j < L.length), j < k → (dkV dk L[j] == ((f L[j]).getD zRc).v) = true) ∧ Hid (DkAt w' a L) ∧ CsAt w' w.heap.size (skC ks mb dk) ∧ MapAt w' mb n f ∧ w.heap.size + 1 ≤ w'.heap.size ∧ Below w.heap.size w w') (fun i _ => L.length - (intOf i).toNat)
  case atStart => exact ⟨0, by omega, rfl, (fun j hj h => by omega), hA, cS2, hM3, s2, B2⟩
  case round =>
    clear hA cS2 hM3 s2 B2
    obtain ⟨k, hk, rfl, HI, HA, hC, hM, hs, hB⟩ := hrel
    by_cases h0 : k = L.length
    · subst h0
      have HT : Hid (R = true) := by
        show _ = _
        rw [unhide HR, List.all_eq_true]
        intro x hx
        obtain ⟨j, hj, rfl⟩ := List.getElem_of_mem hx
        exact unhide HI j hj hj
      go_wp2
      go_ret
      exact ⟨by rw [unhide HT]; rfl, hB⟩
    · have hkb : k < L.length := by omega
      have hlt : (k : Int) < (L.length : Int) := by omega
      have hlo : (0 : Int) ≤ (k : Int) := by omega
      obtain ⟨ab, ao, rfl, hr⟩ : ∃ b o, a = some ⟨b, o, none⟩ ∧ wr.rangeAt b o (isC L) := by
        rcases unhide HA with rfl | h
        · simp at hkb
        · exact h
      have xk := isC_at hr k hkb
      have eG : L.getD k 0 = L[k] := by rw [List.getD_eq_getElem?_getD, List.getElem?_eq_getElem hkb]; rfl
      rw [eG] at xk
      have hx := unhide HMEM L[k] (List.getElem_mem hkb)
      have HIN : Hid (∀ b, (dkV dk L[k] == ((f L[k]).getD zRc).v) = b → (b = true → ∀ j (hj : j < L.length), j < k + 1 → (dkV dk L[j] == ((f L[j]).getD zRc).v) = true) ∧ (b = false → R = false)) := fun b hb => ⟨fun e j hj h => by
          by_cases q : j = k
          · subst q; rw [hb]; exact e
          · exact unhide HI j hj (by omega), fun e => by
          rw [unhide HR]
          cases q : L.all fun a => dkV dk a == ((f a).getD zRc).v
          · rfl
          · rw [List.all_eq_true] at q
            have := q L[k] (List.getElem_mem hkb)
            rw [hb, e] at this; cases this⟩
      clear eG hr
      generalize L[k] = ad at *
      have HLK := hide (fun (w' : World) (h : MapAt w' mb n f) => h.look (i := ad) (by omega) (by omega))
      have HDF := hide (fun (w' : World) => unhide HDO ad hx.1 hx.2 w')
      generalize (f ad).getD zRc = r at *
      generalize dkV dk ad = d at *
      go_wp2
      refine wp_region_noPanic ?_
      refine wp_region_held_drew (S := fun w' => CsAt w' w.heap.size (skC ks mb dk) ∧ MapAt w' mb n f) (by kernel_rfl) (⟨⟨fun j v hv => hC.cells j v hv, fun j hj => hC.free j hj⟩, hM⟩) (fun hHeld => ?_)
      refine takeL 0 (.pointer (some ⟨w.heap.size, 85, none⟩)) rfl (by kernel_rfl) (by kernel_rfl) (by kernel_rfl) (fun _ _ _ h => h) (Or.inl ⟨rfl, fun w9 hSw => by go_simp⟩) hHeld ?_
      try simp only [Act.put, List.setIfInBounds_toArray, List.set_cons_zero, List.set_cons_succ]
      refine takeL 1 (_) rfl (by kernel_rfl) (by kernel_rfl) (by kernel_rfl) (fun _ _ _ h => h) (yieldsIf_load_mid rfl 76 _ rfl w.heap.size 85 rfl (isC dk) _ (fun _ h => sk_diskR hk4 hkF h.1.cells) Tryz.underlying76 rfl (unhide HSD)) hHeld ?_
      try simp only [Act.put, List.setIfInBounds_toArray, List.set_cons_zero, List.set_cons_succ]
      refine takeL 2 (.int .i64 ad) rfl (by kernel_rfl) (by kernel_rfl) (by kernel_rfl) (fun _ _ _ h => h) (Or.inl ⟨rfl, fun _ _ => rfl⟩) hHeld ?_
      try simp only [Act.put, List.setIfInBounds_toArray, List.set_cons_zero, List.set_cons_succ]
      refine takeL 4 (.pointer (some ⟨w.heap.size, 84, none⟩)) rfl (by kernel_rfl) (by kernel_rfl) (by kernel_rfl) (fun _ _ _ h => h) (Or.inl ⟨rfl, fun w9 hSw => by go_simp⟩) hHeld ?_
      try simp only [Act.put, List.setIfInBounds_toArray, List.set_cons_zero, List.set_cons_succ]
      refine takeL 5 (.map (some mb)) rfl (by kernel_rfl) (by kernel_rfl) (by kernel_rfl) (fun _ _ _ h => h) (Or.inl ⟨rfl, fun w9 hSw => by have hc := hSw.1.cell 84 _ (sk_map hk4 hkF); go_simp⟩) hHeld ?_
      try simp only [Act.put, List.setIfInBounds_toArray, List.set_cons_zero, List.set_cons_succ]
      refine takeL 6 (.int .i64 ad) rfl (by kernel_rfl) (by kernel_rfl) (by kernel_rfl) (fun _ _ _ h => h) (Or.inl ⟨rfl, fun _ _ => rfl⟩) hHeld ?_
      try simp only [Act.put, List.setIfInBounds_toArray, List.set_cons_zero, List.set_cons_succ]
      refine takeL 7 (.agg (rcC r).toArray) rfl (by kernel_rfl) (by kernel_rfl) (by kernel_rfl) (fun _ _ _ h => h) (Or.inl ⟨rfl, fun w9 hSw => by have hl := unhide HLK w9 hSw.2; go_simp⟩) hHeld ?_
      try simp only [Act.put, List.setIfInBounds_toArray, List.set_cons_zero, List.set_cons_succ]
      refine takeL 8 (.int .i64 r.v) rfl (by kernel_rfl) (by kernel_rfl) (by kernel_rfl) (fun _ _ _ h => h) (Or.inl ⟨rfl, fun w9 hSw => by have hf := field_rec r w9; go_simp⟩) hHeld ?_
      try simp only [Act.put, List.setIfInBounds_toArray, List.set_cons_zero, List.set_cons_succ]
      refine oneL 3 rfl (by kernel_rfl) rfl (fun K hK => ?_)
      go_simp
      refine (unhide HDF _).mono ?_
      rintro e wz ⟨rfl, bz⟩
      go_wp2_with fail
      refine hK.out _ _ ⟨hHeld.1.below bz (by show _ < wr.heap.size; omega), hHeld.2.below bz hHeld.2.lt⟩ (fun hHeld => ?_)
      clear hK K
      try simp only [Act.put, List.setIfInBounds_toArray, List.set_cons_zero, List.set_cons_succ]
      refine takeL 9 (.bool (d != r.v)) rfl (by kernel_rfl) (by kernel_rfl) (by kernel_rfl) (fun _ _ _ h => h) (Or.inl ⟨rfl, fun w9 hSw => by go_simp⟩) hHeld ?_
      try simp only [Act.put, List.setIfInBounds_toArray, List.set_cons_zero, List.set_cons_succ]
      refine wpAnyH_done (by kernel_rfl) ?_ _
      refine NoPanic.normal ?_
      have hB2 := hB.drew.trans (bz.mono hB.size)
      have hs2 : w.heap.size + 1 ≤ wz.heap.size := Nat.le_trans hs bz.size
      have HA2 := hide ((unhide HA).below ((Below.refl wr.heap.size wr).drew.trans bz))
      obtain ⟨hC2, hM2⟩ := hHeld
      clear hC hM hB hs HA bz xk
      cases hq : (d == r.v)
      · have hq2 : (d != r.v) = true := by simpa [bne] using hq
        have HT := hide ((unhide HIN false hq).2 rfl)
        go_wp2
        go_ret
        exact ⟨by rw [unhide HT]; rfl, hB2⟩
      · have hq2 : (d != r.v) = false := by simpa [bne] using hq
        have HI2 := hide ((unhide HIN true hq).1 rfl)
        go_wp2
        go_roundw
        case rel => exact ⟨k + 1, by omega, by first | rfl | go_num, HI2, HA2, hC2, hM2, hs2, hB2⟩
        case measure => simp [intOf]; omega
end Go.Proofs.YtbiokmojjneleaaGreat.StE
