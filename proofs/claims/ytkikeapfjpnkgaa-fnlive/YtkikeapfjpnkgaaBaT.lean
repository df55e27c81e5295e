/-
  Texts that belong together, one behind the other: ImplQ, FindQ.
-/
import Derived.Test.YtkikeapfjpnkgaaBaQ
import Derived.Test.YtkikeapfjpnkgaaBaS
import Derived.Test.YtkikeapfjpnkgaaSpecO

/-
  The program's order of blocks: whether their numbers stand apart, and which block was begun.
-/
namespace Go.Proofs.Ytkikeapfjpnkgaa.ImplQ
open Go.ChangeShapes Go.WideShapes Go.ChangeAt Go.RowKit Go.Shelf OkA Big Fl ImplB ImplF ImplS _root_.Go.Proofs.Ytkikeapfjpnkgaa.Own ImplT ImplU SpecA SpecB SpecC SpecD SpecW SpecF SpecG SpecH Ok2 Pl FindP ImplO SpecX ImplL ImplN ImplM FindN Gd
set_option linter.unusedVariables false
set_option linter.unusedSimpArgs false
attribute [local go_sem ↓] Go.wp_at_zero Go.wp_at_succ

def apB (x y : Sp) : Bool := (x.2 == 0) || (y.2 == 0) || decide (x.2 < y.1) || decide (y.2 < x.1)
set_option maxHeartbeats 1000000 in
theorem apart_any (x y : Sp) (w : World) :
    Calls Try.prog 108 #[.agg #[.int .i64 x.1, .int .i64 x.2], .agg #[.int .i64 y.1, .int .i64 y.2]] w fun e w' => e = .returned (.bool (apB x y)) ∧ Below w.heap.size w w' := by
  have HA : Hid (apB x y = ((x.2 == 0) || (y.2 == 0) || decide (x.2 < y.1) || decide (y.2 < x.1))) := rfl
  generalize apB x y = R at *
  have HX := hide (fun (w' : World) => none_any x w')
  have HY := hide (fun (w' : World) => none_any y w')
  obtain ⟨a, b⟩ := x
  obtain ⟨c, d⟩ := y
  dsimp only at *
  have zx := (CsAt.new w [.int .i64 a, .int .i64 b] 118).alloc (by simp) (.cells #[.int .i64 c, .int .i64 d] 118)
  have zy := CsAt.new (w.alloc (.cells #[.int .i64 a, .int .i64 b] 118)) [.int .i64 c, .int .i64 d] 118
  rw [World.size_alloc] at zy
  have B0 : Below w.heap.size w ((w.alloc (.cells #[.int .i64 a, .int .i64 b] 118)).alloc (.cells #[.int .i64 c, .int .i64 d] 118)) := ((Below.refl _ _).alloc (Nat.le_refl _) _).alloc (by simp) _
  have s0 : ((w.alloc (.cells #[.int .i64 a, .int .i64 b] 118)).alloc (.cells #[.int .i64 c, .int .i64 d] 118)).heap.size = w.heap.size + 2 := by simp
  go_enter Try.func108, Try.ntmps108
  go_wp2_with fail
  generalize hb : (b == 0) = nb at *
  generalize hd : (d == 0) = nd at *
  clear hb hd
  refine (unhide HX _).mono ?_
  rintro e w1 ⟨rfl, b1⟩
  have zx1 := zx.below b1 (by omega)
  have zy1 := zy.below b1 (by omega)
  have B1 := B0.trans (b1.mono B0.size)
  have s1 := b1.size
  rw [s0] at s1
  clear zx zy B0 b1 s0
  have y0 := zy1.cell 0 _ rfl
  have y1 := zy1.cell 1 _ rfl
  cases nb
  rotate_left
  · go_wp2
    go_ret
    exact ⟨by rw [unhide HA]; rfl, B1⟩
  · go_wp2_with fail
    refine (unhide HY _).mono ?_
    rintro e w2 ⟨rfl, b2⟩
    have zx2 := zx1.below b2 (by omega)
    have zy2 := zy1.below b2 (by omega)
    have B2 := B1.trans (b2.mono B1.size)
    clear zx1 zy1 B1 b2 y0 y1
    have x0 := zx2.cell 0 _ rfl
    have x1 := zx2.cell 1 _ rfl
    have y0 := zy2.cell 0 _ rfl
    have y1 := zy2.cell 1 _ rfl
    cases nd
    rotate_left
    · go_wp2
      go_ret
      exact ⟨by rw [unhide HA]; rfl, B2⟩
    · by_cases h1 : b < c
      · have HE : Hid (R = true) := by show _ = _; rw [unhide HA]; simp [h1]
        go_wp2
        go_ret
        exact ⟨by rw [unhide HE]; rfl, B2⟩
      · go_wp2
        go_ret
        exact ⟨by rw [unhide HA]; rfl, B2⟩

def apN (l : List Sp) (i j : Nat) : Bool := apB (l.getD i (0, 0)) (l.getD j (0, 0))
/-- Any two of them stand apart. -/
def apA (l : List Sp) : Bool := (List.range 4).all fun i => (List.range 4).all fun j => !decide (i < j) || apN l i j
theorem apA_iff (l : List Sp) : apA l = true ↔ ∀ i, i < 4 → ∀ j, j < 4 → i < j → apN l i j = true := by
  simp only [apA, List.all_eq_true, List.mem_range, Bool.or_eq_true, Bool.not_eq_true', decide_eq_false_iff_not]
  exact ⟨fun h i hi j hj hij => (h i hi j hj).resolve_left (fun h => h hij), fun h i hi j hj => by by_cases e : i < j; exact .inr (h i hi j hj e); exact .inl e⟩
theorem apA_no {l : List Sp} {i j : Nat} (hi : i < 4) (hj : j < 4) (hij : i < j) (h : apN l i j = false) : apA l = false := by
  cases e : apA l
  · rfl
  · have := (apA_iff l).1 e i hi j hj hij
    rw [h] at this; cases this

theorem sl0 (sb : Nat) (w : World) : (Instr.sliceAt 119 (.pointer (some ⟨sb, 0, none⟩)) (some (.int .i64 (((0 : Nat) : Int) + 1))) none none).run Try.prog w = .ok (.slice (some ⟨sb, (0 + 1) * 2, none⟩) (3 - 0) (3 - 0)) w := by kernel_rfl
theorem sl1 (sb : Nat) (w : World) : (Instr.sliceAt 119 (.pointer (some ⟨sb, 0, none⟩)) (some (.int .i64 (((1 : Nat) : Int) + 1))) none none).run Try.prog w = .ok (.slice (some ⟨sb, (1 + 1) * 2, none⟩) (3 - 1) (3 - 1)) w := by kernel_rfl
theorem sl2 (sb : Nat) (w : World) : (Instr.sliceAt 119 (.pointer (some ⟨sb, 0, none⟩)) (some (.int .i64 (((2 : Nat) : Int) + 1))) none none).run Try.prog w = .ok (.slice (some ⟨sb, (2 + 1) * 2, none⟩) (3 - 2) (3 - 2)) w := by kernel_rfl
theorem sl3 (sb : Nat) (w : World) : (Instr.sliceAt 119 (.pointer (some ⟨sb, 0, none⟩)) (some (.int .i64 (((3 : Nat) : Int) + 1))) none none).run Try.prog w = .ok (.slice (some ⟨sb, 0, none⟩) (3 - 3) (3 - 3)) w := by kernel_rfl
/-- What is left behind the i-th. -/
theorem sl_any (sb i : Nat) (hi : i < 4) : ∃ q : Option Addr, (∀ w, (Instr.sliceAt 119 (.pointer (some ⟨sb, 0, none⟩)) (some (.int .i64 ((i : Int) + 1))) none none).run Try.prog w = .ok (.slice q (3 - i) (3 - i)) w) ∧ (i < 3 → q = some ⟨sb, (i + 1) * 2, none⟩) := by
  match i, hi with
  | 0, _ => exact ⟨_, sl0 sb, fun _ => rfl⟩
  | 1, _ => exact ⟨_, sl1 sb, fun _ => rfl⟩
  | 2, _ => exact ⟨_, sl2 sb, fun _ => rfl⟩
  | 3, _ => exact ⟨_, sl3 sb, fun h => by omega⟩

set_option maxRecDepth 100000 in
set_option maxHeartbeats 2000000 in
theorem allApart_any (l : List Sp) (h4 : l.length = 4) (w : World) :
    Calls Try.prog 87 #[.agg (spsC l).toArray] w fun e w' => e = .returned (.bool (apA l)) ∧ Below w.heap.size w w' := by
  have cL := CsAt.new w (spsC l) 119
  have r0 := cL.cells
  have b0 : Below w.heap.size w (w.alloc (.cells (spsC l).toArray 119)) := (Below.refl _ _).alloc (Nat.le_refl _) _
  have hs0 : w.heap.size < (w.alloc (.cells (spsC l).toArray 119)).heap.size := by simp
  generalize hR : apA l = R at *
  have HR := hide hR
  clear hR
  go_enter Try.func87, Try.ntmps87
  go_wp2_with (first | (refine wpList_box_big rfl _ _ rfl (spsC l).toArray rfl ?_) | (refine wpList_load_mid rfl 119 _ rfl w.heap.size 0 rfl (spsC l) _ r0 Try.underlying119 rfl (size_sps h4) ?_))
  clear r0
  generalize w.alloc (.cells (spsC l).toArray 119) = w1 at *
  go_loopw [8] (fun i w' => ∃ n : Nat, n ≤ 4 ∧ i = .int .i64 n ∧ Hid (∀ i', i' < n → ∀ j, j < 4 → i' < j → apN l i' j = true) ∧ CsAt w' w.heap.size (spsC l) ∧ w.heap.size < w'.heap.size ∧ Below w.heap.size w w') (fun i _ => 4 - (intOf i).toNat)
  case atStart => exact ⟨0, by omega, rfl, (fun i' hi' => by omega), cL, hs0, b0⟩
  case round =>
    clear b0 cL hs0
    obtain ⟨i, hi, rfl, HI, hL, hsl, hB⟩ := hrel
    by_cases h0 : i = 4
    · subst h0
      have HT : Hid (R = true) := by show _ = _; rw [← unhide HR]; exact (apA_iff l).2 (fun i hi j hj hij => unhide HI i hi j hj hij)
      go_wp2
      go_ret
      exact ⟨by rw [unhide HT]; rfl, hB⟩
    · have hlt : (i : Int) < 4 := by omega
      have hib : i < l.length := by omega
      have hlo : (0 : Int) ≤ (i : Int) := by omega
      have HE := hide (ext_sps l i hib)
      have HX : Hid (l.getD i (0, 0) = l[i]) := by show _ = _; rw [List.getD_eq_getElem?_getD, List.getElem?_eq_getElem hib]; rfl
      generalize l[i] = x at *
      have hBz := hB.size
      have cX := CsAt.new wr [.int .i64 x.1, .int .i64 x.2] 118
      have hL2 := hL.alloc hsl (.cells #[.int .i64 x.1, .int .i64 x.2] 118)
      have hB2 := hB.alloc hBz (.cells #[.int .i64 x.1, .int .i64 x.2] 118)
      obtain ⟨q, hq, hq3⟩ := sl_any w.heap.size i (by omega)
      have HQ := hide hq3
      clear hq3
      generalize hm : 3 - i = m at *
      go_wp2_with (refine wpList_index_big rfl 119 _ _ rfl (spsC l).toArray _ (i : Int) rfl rfl 118 4 2 _ Try.underlying119 Try.underlying118 rfl (by kernel_rfl) hlo hlt (unhide HE) ?_)
      have hs2 : w.heap.size < (wr.alloc (.cells #[.int .i64 x.1, .int .i64 x.2] 118)).heap.size := by simp; omega
      have hsx : wr.heap.size < (wr.alloc (.cells #[.int .i64 x.1, .int .i64 x.2] 118)).heap.size := by simp
      have hne : w.heap.size < wr.heap.size := hsl
      clear hL hB hq
      generalize wr.alloc (.cells #[.int .i64 x.1, .int .i64 x.2] 118) = w2 at *
      generalize wr.heap.size = bx at *
      go_loopw [16] (fun j w' => ∃ n : Nat, n ≤ m ∧ j = .int .i64 n ∧ Hid (∀ j', i < j' → j' < i + 1 + n → apN l i j' = true) ∧ CsAt w' w.heap.size (spsC l) ∧ CsAt w' bx [.int .i64 x.1, .int .i64 x.2] ∧ bx < w'.heap.size ∧ Below w.heap.size w w') (fun j _ => m - (intOf j).toNat)
      case atStart => exact ⟨0, by omega, rfl, (fun j' h1 h2 => by omega), hL2, cX, hsx, hB2⟩
      case round =>
        clear hL2 cX hsx hB2 hs2
        obtain ⟨j, hj, rfl, HJ, hL, hX, hsx, hB⟩ := hrel
        by_cases h1 : j = m
        · subst h1
          have HI2 : Hid (∀ i', i' < i + 1 → ∀ j, j < 4 → i' < j → apN l i' j = true) := fun i' hi' j' hj' hij => by
            by_cases e : i' = i
            · subst e; exact unhide HJ j' hij (by omega)
            · exact unhide HI i' (by omega) j' hj' hij
          go_wp2
          go_roundw
          case rel => exact ⟨i + 1, by omega, by first | rfl | go_num, HI2, hL, by omega, hB⟩
          case measure => simp [intOf]; omega
        · have hjm : (j : Int) < (m : Int) := by omega
          have hj0 : (0 : Int) ≤ (j : Int) := by omega
          have hjb : i + 1 + j < l.length := by omega
          have hq := unhide HQ (by omega)
          subst hq
          have r1 := csSpan hL (i + 1 + j) hjb
          have HY : Hid (l.getD (i + 1 + j) (0, 0) = l[i + 1 + j]) := by show _ = _; rw [List.getD_eq_getElem?_getD, List.getElem?_eq_getElem hjb]; rfl
          generalize l[i + 1 + j] = y at *
          have y0 := r1 0 _ rfl
          have y1 := r1 1 _ rfl
          rw [show (i + 1 + j) * 2 + 0 = (i + 1) * 2 + j * 2 by omega] at y0
          rw [show (i + 1 + j) * 2 + 1 = (i + 1) * 2 + j * 2 + 1 by omega] at y1
          have HAP : Hid (apN l i (i + 1 + j) = apB x y) := by show _ = _; unfold apN; rw [unhide HX, unhide HY]
          have hBz2 := hB.size
          have x0' := (hX.alloc hsx (.cells #[.int .i64 y.1, .int .i64 y.2] 118)).cell 0 _ rfl
          have x1' := (hX.alloc hsx (.cells #[.int .i64 y.1, .int .i64 y.2] 118)).cell 1 _ rfl
          have hX2 := hX.alloc hsx (.cells #[.int .i64 y.1, .int .i64 y.2] 118)
          have hL2 := hL.alloc (by omega) (.cells #[.int .i64 y.1, .int .i64 y.2] 118)
          have hB2 := hB.alloc hBz2 (.cells #[.int .i64 y.1, .int .i64 y.2] 118)
          have hs3 : bx < (wr.alloc (.cells #[.int .i64 y.1, .int .i64 y.2] 118)).heap.size := by simp; omega
          clear r1 HY
          go_wp2_with fail
          generalize wr.alloc (.cells #[.int .i64 y.1, .int .i64 y.2] 118) = w5 at *
          refine (apart_any x y _).mono ?_
          rintro e w6 ⟨rfl, b6⟩
          have hL6 := hL2.below b6 (by omega)
          have hX6 := hX2.below b6 hs3
          have hB6 := hB2.trans (b6.mono hB2.size)
          have hs6 := Nat.lt_of_lt_of_le hs3 b6.size
          clear hL2 hX2 hB2 b6 hs3 x0' x1' y0 y1 hL hX hB
          generalize apB x y = z at *
          cases z
          · have HN := hide (apA_no (l := l) (show i < 4 by omega) (show i + 1 + j < 4 by omega) (by omega) (unhide HAP))
            go_wp2
            go_ret
            exact ⟨by rw [← unhide HR, unhide HN]; rfl, hB6⟩
          · have HJ2 : Hid (∀ j', i < j' → j' < i + 1 + (j + 1) → apN l i j' = true) := fun j' ha hb => by
              by_cases e : j' = i + 1 + j
              · subst e; exact unhide HAP
              · exact unhide HJ j' ha (by omega)
            go_wp2
            go_roundw
            case rel => exact ⟨j + 1, by omega, by first | rfl | go_num, HJ2, hL6, hX6, hs6, hB6⟩
            case measure => simp [intOf]; omega

/-- The block was begun, and something was written on another one since. -/
def lagB (bs : List Bk) (l : List Sp) (g : Int) (i : Nat) : Bool := begB (bs.getD i zBk) && (!((l.getD i (0, 0)).2 == 0) && decide ((l.getD i (0, 0)).2 < g))
def begN (bs : List Bk) : Nat := (bs.filter begB).length
theorem begN_take (bs : List Bk) (k : Nat) (hk : k < bs.length) : begN (bs.take (k + 1)) = begN (bs.take k) + if begB bs[k] then 1 else 0 := by
  unfold begN
  rw [List.take_succ_eq_append_getElem hk, List.filter_append, List.length_append]
  congr 1
  cases h : begB bs[k] <;> simp [h]
def lastB (bs : List Bk) (l : List Sp) : Bool := ((List.range 4).all fun i => !lagB bs l (grL l) i) && decide ((begN bs : Int) ≤ 1)

set_option maxRecDepth 100000 in
set_option maxHeartbeats 2000000 in
theorem beginsLast_any (bs : List Bk) (h4 : bs.length = 4) (hF : Fours bs) (l : List Sp) (hl4 : l.length = 4) (w : World) :
    Calls Try.prog 88 #[.agg (fsC bs).toArray, .agg (spsC l).toArray] w fun e w' => e = .returned (.bool (lastB bs l)) ∧ Below w.heap.size w w' := by
  have r0 := rangeAt_below (rangeAt_new w (fsC bs) 75) ((Below.refl (w.alloc (.cells (fsC bs).toArray 75)).heap.size _).alloc (Nat.le_refl _) (.cells (spsC l).toArray 119)) (by simp)
  have cL := CsAt.new (w.alloc (.cells (fsC bs).toArray 75)) (spsC l) 119
  rw [World.size_alloc] at cL
  have rL := cL.cells
  have b0 : Below w.heap.size w ((w.alloc (.cells (fsC bs).toArray 75)).alloc (.cells (spsC l).toArray 119)) := ((Below.refl _ _).alloc (Nat.le_refl _) _).alloc (by simp) _
  have s0 : ((w.alloc (.cells (fsC bs).toArray 75)).alloc (.cells (spsC l).toArray 119)).heap.size = w.heap.size + 2 := by simp
  have HR : Hid (lastB bs l = (((List.range 4).all fun i => !lagB bs l (grL l) i) && decide ((begN bs : Int) ≤ 1))) := rfl
  generalize lastB bs l = R at *
  have HG := hide (fun (w' : World) => greatest_any l hl4 w')
  have HSF := hide (size_fsl hF h4)
  generalize grL l = g at *
  go_enter Try.func88, Try.ntmps88
  go_wp2_with (first | (refine wpList_box_big rfl 75 _ rfl (fsC bs).toArray rfl ?_) | (refine wpList_box_big rfl 119 _ rfl (spsC l).toArray rfl ?_) | (refine wpList_load_mid rfl 119 _ rfl (w.heap.size + 1) 0 rfl (spsC l) _ rL Try.underlying119 rfl (size_sps hl4) ?_))
  generalize hw1 : (w.alloc (.cells (fsC bs).toArray 75)).alloc (.cells (spsC l).toArray 119) = w1 at *
  clear hw1
  refine (unhide HG _).mono ?_
  rintro e w2 ⟨rfl, b2⟩
  have rF := rangeAt_below r0 b2 (by omega)
  have cL2 := cL.below b2 (by omega)
  have B2 := b0.trans (b2.mono b0.size)
  have s2 : w.heap.size + 2 ≤ w2.heap.size := by have := b2.size; omega
  clear r0 rL cL b0 b2 HG
  go_wp2_with (refine wpList_load_mid rfl 75 _ rfl w.heap.size 0 rfl (fsC bs) _ rF Try.underlying75 rfl (unhide HSF) ?_)
  clear rF
  have HB0 : Hid (begN (bs.take 0) = 0) := rfl
  have HB4 : Hid (begN (bs.take 4) = begN bs) := by show _ = _; rw [List.take_of_length_le (by omega)]
  go_loopw [6, 12] (fun c i w' => ∃ n : Nat, n ≤ 4 ∧ i = .int .i64 n ∧ c = .int .i64 (begN (bs.take n) : Nat) ∧ begN (bs.take n) ≤ n ∧ Hid (∀ i', i' < n → lagB bs l g i' = false) ∧ CsAt w' (w.heap.size + 1) (spsC l) ∧ w.heap.size + 2 ≤ w'.heap.size ∧ Below w.heap.size w w') (fun _ i _ => 4 - (intOf i).toNat)
  case atStart => exact ⟨0, by omega, rfl, by rw [unhide HB0]; rfl, by rw [unhide HB0]; omega, (fun i' hi' => by omega), cL2, s2, B2⟩
  case round =>
    clear cL2 s2 B2
    obtain ⟨n, hn, rfl, rfl, hcn, HI, hL, hsl, hB⟩ := hrel
    by_cases h0 : n = 4
    · subst h0
      rw [unhide HB4] at hcn ⊢
      have HT : Hid (R = decide ((begN bs : Int) ≤ 1)) := by
        show _ = _
        rw [unhide HR]
        have : ((List.range 4).all fun i => !lagB bs l g i) = true := by
          simp only [List.all_eq_true, List.mem_range, Bool.not_eq_true']
          exact fun i hi => unhide HI i hi
        rw [this, Bool.true_and]
      go_wp2
      go_ret
      exact ⟨by rw [unhide HT]; rfl, hB⟩
    · have hlt : (n : Int) < 4 := by omega
      have hn4 : n < 4 := by omega
      have hnb : n < bs.length := by omega
      have hnl : n < l.length := by omega
      have hlo : (0 : Int) ≤ (n : Int) := by omega
      have HE := hide (ext_fs hF n hnb)
      have hb4 : bs[n].ps.length = 4 := hF.at n hnb
      have HT := hide (begN_take bs n hnb)
      have HXC : Hid (∀ w', CsAt w' (w.heap.size + 1) (spsC l) → w'.cell? ⟨w.heap.size + 1, n * 2, none⟩ = some (.int .i64 l[n].1) ∧ w'.cell? ⟨w.heap.size + 1, n * 2 + 1, none⟩ = some (.int .i64 l[n].2)) := fun w' h => ⟨csSpan h n hnl 0 _ rfl, csSpan h n hnl 1 _ rfl⟩
      have HLG : Hid (lagB bs l g n = (begB bs[n] && (!(l[n].2 == 0) && decide (l[n].2 < g)))) := by
        show _ = _
        unfold lagB
        rw [getD_at bs n hnb, List.getD_eq_getElem?_getD, List.getElem?_eq_getElem hnl]; rfl
      generalize bs[n] = b at *
      generalize l[n] = x at *
      generalize hcc : begN (bs.take n) = c at *
      have hBz := hB.size
      have rb := rangeAt_new wr (bkC b) 73
      have HSB := hide (size_bkl hb4)
      have HSB2 := hide (size_bk hb4)
      have HSM := hide (same_bk hb4)
      have hL2 := hL.alloc (by omega) (.cells (bkC b).toArray 73)
      have hB2 := hB.alloc hBz (.cells (bkC b).toArray 73)
      have hs2 : w.heap.size + 2 ≤ (wr.alloc (.cells (bkC b).toArray 73)).heap.size := by simp; omega
      have HBE := hide (fun (w' : World) => begun_any b hb4 w')
      have HNO := hide (fun (w' : World) => none_any x w')
      go_wp2_with (first | (refine wpList_index_big rfl 75 _ _ rfl (fsC bs).toArray _ (n : Int) rfl rfl 73 4 21 _ Try.underlying75 Try.underlying73 rfl (by kernel_rfl) hlo hlt (unhide HE) ?_) | (refine wpList_alloc_big rfl 73 rfl (bkC zBk).toArray zero_bk ?_) | (refine wpList_store_new rfl 73 _ _ rfl wr (bkC zBk).toArray (bkC b).toArray rfl rfl rfl (unhide HSB2) (unhide HSM) (one_bk b) ?_) | (refine wpList_load_mid rfl 73 _ rfl wr.heap.size 0 rfl (bkC b) _ rb Try.underlying73 rfl (unhide HSB) ?_))
      clear rb hL hB HE HSB HSB2 HSM
      generalize wr.alloc (.cells (bkC b).toArray 73) = w3 at *
      refine (unhide HBE _).mono ?_
      rintro e w4 ⟨rfl, b4⟩
      have hL4 := hL2.below b4 (by omega)
      have hB4 := hB2.trans (b4.mono hB2.size)
      have hs4 := Nat.le_trans hs2 b4.size
      clear hL2 hB2 hs2 b4 HBE
      generalize begB b = z at *
      cases z
      · have HT0 : Hid (begN (bs.take (n + 1)) = c) := by show _ = _; rw [unhide HT]; simp
        have HI2 : Hid (∀ i', i' < n + 1 → lagB bs l g i' = false) := fun i' hi' => by
          by_cases e : i' = n
          · subst e; rw [unhide HLG]; rfl
          · exact unhide HI i' (by omega)
        clear hcc
        go_wp2
        go_roundw
        case rel => exact ⟨n + 1, by omega, by first | rfl | go_num, by rw [unhide HT0], by rw [unhide HT0]; omega, HI2, hL4, hs4, hB4⟩
        case measure => simp [intOf]; omega
      · have HT0 : Hid (begN (bs.take (n + 1)) = c + 1) := by show _ = _; rw [unhide HT]; simp
        have x0 := (unhide HXC _ hL4).1
        have x1 := (unhide HXC _ hL4).2
        clear hcc
        go_wp2_with fail
        refine (unhide HNO _).mono ?_
        rintro e w5 ⟨rfl, b5⟩
        have hL5 := hL4.below b5 (by omega)
        have hB5 := hB4.trans (b5.mono hB4.size)
        have hs5 := Nat.le_trans hs4 b5.size
        clear hL4 hB4 hs4 b5 x0 x1
        have x1 := (unhide HXC _ hL5).2
        generalize hz : (x.2 == 0) = z at *
        clear hz
        cases z
        rotate_left
        · have HI2 : Hid (∀ i', i' < n + 1 → lagB bs l g i' = false) := fun i' hi' => by
            by_cases e : i' = n
            · subst e; rw [unhide HLG]; rfl
            · exact unhide HI i' (by omega)
          go_wp2
          go_roundw
          case rel => exact ⟨n + 1, by omega, by first | rfl | go_num, by rw [unhide HT0]; first | rfl | go_num, by rw [unhide HT0]; omega, HI2, hL5, hs5, hB5⟩
          case measure => simp [intOf]; omega
        · by_cases hxg : x.2 < g
          · have HBAD : Hid (lagB bs l g n = true) := by show _ = _; rw [unhide HLG]; simp [hxg]
            have HN : Hid (R = false) := by
              show _ = _
              rw [unhide HR]
              have : ((List.range 4).all fun i => !lagB bs l g i) = false := by
                cases e : (List.range 4).all fun i => !lagB bs l g i
                · rfl
                · simp only [List.all_eq_true, List.mem_range, Bool.not_eq_true'] at e
                  have := e n hn4
                  rw [unhide HBAD] at this; cases this
              rw [this]; rfl
            go_wp2
            go_ret
            exact ⟨by rw [unhide HN]; rfl, hB5⟩
          · have HI2 : Hid (∀ i', i' < n + 1 → lagB bs l g i' = false) := fun i' hi' => by
              by_cases e : i' = n
              · subst e; rw [unhide HLG]; simp [hxg]
              · exact unhide HI i' (by omega)
            go_wp2
            go_roundw
            case rel => exact ⟨n + 1, by omega, by first | rfl | go_num, by rw [unhide HT0]; first | rfl | go_num, by rw [unhide HT0]; omega, HI2, hL5, hs5, hB5⟩
            case measure => simp [intOf]; omega
end Go.Proofs.Ytkikeapfjpnkgaa.ImplQ

/-
  FindOrder, of the program and of the specification: both answer the same.
-/
namespace Go.Proofs.Ytkikeapfjpnkgaa.FindQ
open Go.ChangeShapes Go.WideShapes Go.ChangeAt Go.RowKit Go.Shelf OkA Big Fl ImplB ImplF ImplS _root_.Go.Proofs.Ytkikeapfjpnkgaa.Own ImplT ImplU SpecA SpecB SpecC SpecD SpecW SpecF SpecG SpecH Ok2 Pl FindP ImplO SpecX ImplL ImplN ImplM FindN SpecO ImplQ
set_option linter.unusedVariables false
set_option linter.unusedSimpArgs false

/-! Plain lists. -/
theorem ap_core (l0 m0 l1 m1 : Int) (h0 : 0 ≤ l0) (h1 : l0 ≤ m0) (h2 : l0 = 0 ↔ m0 = 0) (k0 : 0 ≤ l1) (k1 : l1 ≤ m1) (k2 : l1 = 0 ↔ m1 = 0) (d1 : 0 < m0 → 0 < m1 → l0 ≠ m1) (d2 : 0 < m0 → 0 < m1 → l1 ≠ m0) :
    apB (l0, m0) (l1, m1) = !(decide (0 < m0) && decide (0 < m1) && decide (l0 < m1) && decide (l1 < m0)) := by
  rw [Bool.eq_iff_iff]
  simp only [apB, Bool.or_eq_true, beq_iff_eq, decide_eq_true_eq, Bool.not_eq_true', Bool.and_eq_false_iff, decide_eq_false_iff_not]
  constructor
  · intro h; omega
  · intro h; omega
theorem last_core (m0 m1 m2 m3 G : Int) (g0 g1 g2 g3 : Bool) (h0 : 0 ≤ m0) (h1 : 0 ≤ m1) (h2 : 0 ≤ m2) (h3 : 0 ≤ m3) (e0 : m0 ≤ G) (e1 : m1 ≤ G) (e2 : m2 ≤ G) (e3 : m3 ≤ G) (hG : G = 0 ∨ G = m0 ∨ G = m1 ∨ G = m2 ∨ G = m3) :
    (((g0 && (!(m0 == 0) && decide (m0 < G))) = false ∧ (g1 && (!(m1 == 0) && decide (m1 < G))) = false ∧ (g2 && (!(m2 == 0) && decide (m2 < G))) = false ∧ (g3 && (!(m3 == 0) && decide (m3 < G))) = false) ∧ ((if g0 then 1 else 0) + (if g1 then 1 else 0) + (if g2 then 1 else 0) + (if g3 then 1 else 0) : Nat) ≤ 1) ↔
    ((g0 && (g1 || (decide (0 < m0) && decide (m0 < m1)))) = false ∧ (g0 && (g2 || (decide (0 < m0) && decide (m0 < m2)))) = false ∧ (g0 && (g3 || (decide (0 < m0) && decide (m0 < m3)))) = false ∧ (g1 && (g0 || (decide (0 < m1) && decide (m1 < m0)))) = false ∧ (g1 && (g2 || (decide (0 < m1) && decide (m1 < m2)))) = false ∧ (g1 && (g3 || (decide (0 < m1) && decide (m1 < m3)))) = false ∧ (g2 && (g0 || (decide (0 < m2) && decide (m2 < m0)))) = false ∧ (g2 && (g1 || (decide (0 < m2) && decide (m2 < m1)))) = false ∧ (g2 && (g3 || (decide (0 < m2) && decide (m2 < m3)))) = false ∧ (g3 && (g0 || (decide (0 < m3) && decide (m3 < m0)))) = false ∧ (g3 && (g1 || (decide (0 < m3) && decide (m3 < m1)))) = false ∧ (g3 && (g2 || (decide (0 < m3) && decide (m3 < m2)))) = false) := by
  cases g0 <;> cases g1 <;> cases g2 <;> cases g3 <;> simp <;> omega
theorem grL_four (a b c d : Sp) : grL [a, b, c, d] = mx (mx (mx (mx 0 a.2) b.2) c.2) d.2 := rfl
theorem mx_facts (m0 m1 m2 m3 : Int) (h0 : 0 ≤ m0) (h1 : 0 ≤ m1) (h2 : 0 ≤ m2) (h3 : 0 ≤ m3) :
    let G := mx (mx (mx (mx 0 m0) m1) m2) m3
    m0 ≤ G ∧ m1 ≤ G ∧ m2 ≤ G ∧ m3 ≤ G ∧ (G = 0 ∨ G = m0 ∨ G = m1 ∨ G = m2 ∨ G = m3) := by
  intro G
  have a1 : mx 0 m0 = m0 := by unfold mx; split <;> omega
  have a2 : ∀ x y : Int, x ≤ mx x y ∧ y ≤ mx x y ∧ (mx x y = x ∨ mx x y = y) := fun x y => by unfold mx; split <;> omega
  have b1 := a2 m0 m1
  have b2 := a2 (mx m0 m1) m2
  have b3 := a2 (mx (mx m0 m1) m2) m3
  show m0 ≤ mx (mx (mx (mx 0 m0) m1) m2) m3 ∧ _
  have e : G = mx (mx (mx m0 m1) m2) m3 := by show mx (mx (mx (mx 0 m0) m1) m2) m3 = _; rw [a1]
  rw [e, a1]
  omega
/-- The numbers of two blocks are others. -/
theorem least_mem (ps : List Pg) (h : ∀ p ∈ ps, pgB p = true) (h0 : 0 < mostN ps) : leastN ps ∈ seqsP ps ∧ mostN ps ∈ seqsP ps := by
  have key : ∀ (l : List Pg) (n m : Int) (S : List Int), (∀ p ∈ l, pgB p = true) → (n = 0 ↔ m = 0) → 0 ≤ m → (0 < m → n ∈ S ∧ m ∈ S) →
      0 < l.foldl (fun m p => mx m p.s) m → l.foldl (fun n p => lsS n p.s) n ∈ S ++ seqsP l ∧ l.foldl (fun m p => mx m p.s) m ∈ S ++ seqsP l := by
    intro l
    induction l with
    | nil => intro n m S _ _ _ hS hp; have := hS hp; simp [seqsP]; exact this
    | cons p r ih =>
      intro n m S hl hz hm hS hp
      have hpg := FindP.pg_seq (hl p (by simp))
      simp only [List.foldl_cons] at hp ⊢
      rcases hpg with ⟨h1, h2, _⟩ | ⟨h1, h2⟩
      · have e : seqsP (p :: r) = p.s :: seqsP r := by simp [seqsP, List.filterMap_cons, seqP_w h1]
        have := ih (lsS n p.s) (mx m p.s) (S ++ [p.s]) (fun q hq => hl q (by simp [hq])) (by unfold lsS mx; split <;> split <;> omega) (by unfold mx; split <;> omega) (fun _ => by
          have a1 : lsS n p.s ∈ S ++ [p.s] := by
            unfold lsS; split
            · simp
            · rename_i q
              have hn : n ≠ 0 := fun e => q ⟨by omega, .inl e⟩
              have : 0 < m := by have := fun e => hn (hz.2 e); omega
              exact List.mem_append.2 (.inl (hS this).1)
          have a2 : mx m p.s ∈ S ++ [p.s] := by
            unfold mx; split
            · simp
            · exact List.mem_append.2 (.inl (hS (by omega)).2)
          exact ⟨a1, a2⟩) hp
        rw [e, show S ++ (p.s :: seqsP r) = (S ++ [p.s]) ++ seqsP r by simp]
        exact this
      · have e : seqsP (p :: r) = seqsP r := by simp [seqsP, List.filterMap_cons, seqP_n h1]
        have e1 : lsS n p.s = n := by unfold lsS; rw [if_neg (by omega)]
        have e2 : mx m p.s = m := by unfold mx; rw [if_neg (by omega)]
        rw [e1, e2, e]
        rw [e2] at hp
        exact ih n m S (fun q hq => hl q (by simp [hq])) hz hm hS hp
  have := key ps 0 0 [] h (by simp) (by omega) (by omega) h0
  rw [List.nil_append] at this
  exact this
theorem apart_nums {bs : List Bk} (hok : okB bs = true) {i k : Nat} (hi : i < bs.length) (hk : k < bs.length) (hne : i ≠ k) (h0 : 0 < mostN bs[i].ps) (h1 : 0 < mostN bs[k].ps) : leastN bs[i].ps ≠ mostN bs[k].ps := by
  obtain ⟨h4, hb, hd⟩ := (okB_iff bs).1 hok
  have a1 := (least_mem _ (ok_pages hok _ (List.getElem_mem hi)) h0).1
  have a2 := (least_mem _ (ok_pages hok _ (List.getElem_mem hk)) h1).2
  intro e
  rw [e] at a1
  have key : ∀ (l : List Bk), (seqs l).Nodup → ∀ i k (hi : i < l.length) (hk : k < l.length), i < k → ∀ q, q ∈ seqsP l[i].ps → q ∈ seqsP l[k].ps → False := by
    intro l
    induction l with
    | nil => intro _ i k hi; simp at hi
    | cons b r ih =>
      intro hn i k hi hk hik q q1 q2
      unfold seqs at hn
      rw [List.flatMap_cons, List.nodup_append] at hn
      cases k with
      | zero => omega
      | succ k =>
        cases i with
        | zero =>
          refine hn.2.2 q q1 q ?_ rfl
          simp only [List.getElem_cons_succ] at q2
          exact List.mem_flatMap.2 ⟨_, List.getElem_mem _, q2⟩
        | succ i => exact ih hn.2.1 i k (by simpa using hi) (by simpa using hk) (by omega) q (by simpa using q1) (by simpa using q2)
  rcases Nat.lt_or_gt_of_ne hne with h | h
  · exact key bs hd i k hi hk h _ a1 a2
  · exact key bs hd k i hk hi h _ a2 a1
theorem beg_eq {b : Bk} (h : bkB b = true) : bgS b = begB b := by
  obtain ⟨h4, _, _, ht⟩ := (bkB_iff b).1 h
  have := clean_used b.ps ht
  rw [Bool.eq_iff_iff]
  simp [bgS, begB, inB]
  omega
theorem begN_four (a b c d : Bk) : begN [a, b, c, d] = ((if begB a then 1 else 0) + (if begB b then 1 else 0) + (if begB c then 1 else 0) + (if begB d then 1 else 0) : Nat) := by
  unfold begN
  cases ha : begB a <;> cases hb : begB b <;> cases hc : begB c <;> cases hd : begB d <;> simp [List.filter_cons, ha, hb, hc, hd]
theorem all_four (p : Nat → Bool) : ((List.range 4).all p = true) ↔ p 0 = true ∧ p 1 = true ∧ p 2 = true ∧ p 3 = true := by
  have : List.range 4 = [0, 1, 2, 3] := rfl
  simp [this]
theorem ov_comm (a b : Bk) : ovB a b = ovB b a := by
  unfold ovB
  rw [Bool.eq_iff_iff]
  simp only [Bool.and_eq_true, decide_eq_true_eq]
  constructor <;> intro h <;> omega
theorem ord_ap {bs : List Bk} (hok : okB bs = true) {i k : Nat} (hi : i < bs.length) (hk : k < bs.length) (hne : i ≠ k) : apN (bs.map spB) i k = !ovB bs[i] bs[k] := by
  have s1 := spB_eq (ok_pages hok _ (List.getElem_mem hi))
  have s2 := spB_eq (ok_pages hok _ (List.getElem_mem hk))
  have e1 : (bs.map spB).getD i (0, 0) = spB bs[i] := by rw [List.getD_eq_getElem?_getD, List.getElem?_map, List.getElem?_eq_getElem hi]; rfl
  have e2 : (bs.map spB).getD k (0, 0) = spB bs[k] := by rw [List.getD_eq_getElem?_getD, List.getElem?_map, List.getElem?_eq_getElem hk]; rfl
  unfold apN
  rw [e1, e2, s1.1, s2.1]
  exact ap_core _ _ _ _ s1.2.1 s1.2.2.1 s1.2.2.2 s2.2.1 s2.2.2.1 s2.2.2.2 (fun a b => apart_nums hok hi hk hne a b) (fun a b => apart_nums hok hk hi (Ne.symm hne) b a)
theorem late_iff {bs : List Bk} (hok : okB bs = true) : lastB bs (bs.map spB) = true ↔ ∀ i, i < 4 → ∀ k, k < 4 → i ≠ k → lateB (bs.getD i zBk) (bs.getD k zBk) = false := by
  obtain ⟨h4, hb, _⟩ := (okB_iff bs).1 hok
  have hpg := ok_pages hok
  obtain ⟨a, b, c, d, rfl⟩ := list_four h4
  have sa := spB_eq (hpg a (by simp))
  have sb := spB_eq (hpg b (by simp))
  have sc := spB_eq (hpg c (by simp))
  have sd := spB_eq (hpg d (by simp))
  have ga := beg_eq (hb a (by simp))
  have gb := beg_eq (hb b (by simp))
  have gc := beg_eq (hb c (by simp))
  have gd := beg_eq (hb d (by simp))
  have hG : grL ([a, b, c, d].map spB) = mx (mx (mx (mx 0 (mostN a.ps)) (mostN b.ps)) (mostN c.ps)) (mostN d.ps) := by
    show grL [spB a, spB b, spB c, spB d] = _
    rw [grL_four, sa.1, sb.1, sc.1, sd.1]
  have F := mx_facts (mostN a.ps) (mostN b.ps) (mostN c.ps) (mostN d.ps) (by omega) (by omega) (by omega) (by omega)
  rw [← hG] at F
  obtain ⟨f0, f1, f2, f3, f4⟩ := F
  have core := last_core _ _ _ _ _ (begB a) (begB b) (begB c) (begB d) (show 0 ≤ mostN a.ps by omega) (show 0 ≤ mostN b.ps by omega) (show 0 ≤ mostN c.ps by omega) (show 0 ≤ mostN d.ps by omega) f0 f1 f2 f3 f4
  have l0 : lagB [a, b, c, d] ([a, b, c, d].map spB) (grL ([a, b, c, d].map spB)) 0 = (begB a && (!(mostN a.ps == 0) && decide (mostN a.ps < grL ([a, b, c, d].map spB)))) := by
    show (begB a && (!((spB a).2 == 0) && decide ((spB a).2 < _))) = _
    rw [sa.1]
  have l1 : lagB [a, b, c, d] ([a, b, c, d].map spB) (grL ([a, b, c, d].map spB)) 1 = (begB b && (!(mostN b.ps == 0) && decide (mostN b.ps < grL ([a, b, c, d].map spB)))) := by
    show (begB b && (!((spB b).2 == 0) && decide ((spB b).2 < _))) = _
    rw [sb.1]
  have l2 : lagB [a, b, c, d] ([a, b, c, d].map spB) (grL ([a, b, c, d].map spB)) 2 = (begB c && (!(mostN c.ps == 0) && decide (mostN c.ps < grL ([a, b, c, d].map spB)))) := by
    show (begB c && (!((spB c).2 == 0) && decide ((spB c).2 < _))) = _
    rw [sc.1]
  have l3 : lagB [a, b, c, d] ([a, b, c, d].map spB) (grL ([a, b, c, d].map spB)) 3 = (begB d && (!(mostN d.ps == 0) && decide (mostN d.ps < grL ([a, b, c, d].map spB)))) := by
    show (begB d && (!((spB d).2 == 0) && decide ((spB d).2 < _))) = _
    rw [sd.1]
  have lhs : lastB [a, b, c, d] ([a, b, c, d].map spB) = true ↔ (((begB a && (!(mostN a.ps == 0) && decide (mostN a.ps < grL ([a, b, c, d].map spB)))) = false ∧ (begB b && (!(mostN b.ps == 0) && decide (mostN b.ps < grL ([a, b, c, d].map spB)))) = false ∧ (begB c && (!(mostN c.ps == 0) && decide (mostN c.ps < grL ([a, b, c, d].map spB)))) = false ∧ (begB d && (!(mostN d.ps == 0) && decide (mostN d.ps < grL ([a, b, c, d].map spB)))) = false) ∧ ((if begB a then 1 else 0) + (if begB b then 1 else 0) + (if begB c then 1 else 0) + (if begB d then 1 else 0) : Nat) ≤ 1) := by
    unfold lastB
    rw [Bool.and_eq_true, all_four, decide_eq_true_eq, begN_four, l0, l1, l2, l3]
    simp only [Bool.not_eq_true']
    constructor
    · rintro ⟨h, h'⟩; exact ⟨h, by omega⟩
    · rintro ⟨h, h'⟩; exact ⟨h, by omega⟩
  rw [lhs, core]
  have rhs : (∀ i, i < 4 → ∀ k, k < 4 → i ≠ k → lateB (List.getD [a, b, c, d] i zBk) (List.getD [a, b, c, d] k zBk) = false) ↔ (lateB a b = false ∧ lateB a c = false ∧ lateB a d = false ∧ lateB b a = false ∧ lateB b c = false ∧ lateB b d = false ∧ lateB c a = false ∧ lateB c b = false ∧ lateB c d = false ∧ lateB d a = false ∧ lateB d b = false ∧ lateB d c = false) := by
    constructor
    · intro h
      exact ⟨h 0 (by omega) 1 (by omega) (by omega), h 0 (by omega) 2 (by omega) (by omega), h 0 (by omega) 3 (by omega) (by omega), h 1 (by omega) 0 (by omega) (by omega), h 1 (by omega) 2 (by omega) (by omega), h 1 (by omega) 3 (by omega) (by omega), h 2 (by omega) 0 (by omega) (by omega), h 2 (by omega) 1 (by omega) (by omega), h 2 (by omega) 3 (by omega) (by omega), h 3 (by omega) 0 (by omega) (by omega), h 3 (by omega) 1 (by omega) (by omega), h 3 (by omega) 2 (by omega) (by omega)⟩
    · rintro ⟨q1, q2, q3, q4, q5, q6, q7, q8, q9, q10, q11, q12⟩ i hi k hk hne
      match i, hi, k, hk with
      | 0, _, 1, _ => exact q1
      | 0, _, 2, _ => exact q2
      | 0, _, 3, _ => exact q3
      | 1, _, 0, _ => exact q4
      | 1, _, 2, _ => exact q5
      | 1, _, 3, _ => exact q6
      | 2, _, 0, _ => exact q7
      | 2, _, 1, _ => exact q8
      | 2, _, 3, _ => exact q9
      | 3, _, 0, _ => exact q10
      | 3, _, 1, _ => exact q11
      | 3, _, 2, _ => exact q12
      | 0, _, 0, _ => exact absurd rfl hne
      | 1, _, 1, _ => exact absurd rfl hne
      | 2, _, 2, _ => exact absurd rfl hne
      | 3, _, 3, _ => exact absurd rfl hne
  rw [rhs]
  unfold lateB
  rw [ga, gb, gc, gd]
theorem ord_eq {bs : List Bk} (hok : okB bs = true) : (apA (bs.map spB) && lastB bs (bs.map spB)) = ordB bs := by
  have h4 := ok_len hok
  rw [Bool.eq_iff_iff, Bool.and_eq_true, apA_iff, late_iff hok, ordB_iff]
  constructor
  · rintro ⟨h1, h2⟩ i hi k hk
    unfold badB
    by_cases e : i = k
    · subst e; simp
    · have e' : (i != k) = true := by simpa using e
      have o1 : ovB (bs.getD i zBk) (bs.getD k zBk) = false := by
        rw [getD_at bs i (by omega), getD_at bs k (by omega)]
        rcases Nat.lt_or_gt_of_ne e with h | h
        · have := h1 i hi k hk h
          rw [ord_ap hok (by omega) (by omega) e] at this
          simpa using this
        · have := h1 k hk i hi h
          rw [ord_ap hok (by omega) (by omega) (Ne.symm e), ov_comm] at this
          simpa using this
      rw [e', o1, h2 i hi k hk e]; rfl
  · intro h
    have hb : ∀ i, i < 4 → ∀ k, k < 4 → i ≠ k → ovB (bs.getD i zBk) (bs.getD k zBk) = false ∧ lateB (bs.getD i zBk) (bs.getD k zBk) = false := fun i hi k hk e => by
      have := h i hi k hk
      unfold badB at this
      have e' : (i != k) = true := by simpa using e
      rw [e', Bool.true_and, Bool.or_eq_false_iff] at this
      exact this
    refine ⟨fun i hi j hj hij => ?_, fun i hi k hk e => (hb i hi k hk e).2⟩
    have := (hb i hi j hj (by omega)).1
    rw [getD_at bs i (by omega), getD_at bs j (by omega)] at this
    rw [ord_ap hok (by omega) (by omega) (by omega), this]; rfl

/-- The program's own order, of blocks as they are kept. -/
def ordA (ks : List Bk) : Bool := apA (ks.map spB) && lastB ks (ks.map spB)

set_option maxRecDepth 100000 in
set_option maxHeartbeats 1000000 in
theorem inOrder_any (ks : List Bk) (hk4 : ks.length = 4) (hkF : Fours ks) (w : World) :
    Calls Try.prog 63 #[.agg (fsC ks).toArray] w fun e w' => e = .returned (.bool (ordA ks)) ∧ Below w.heap.size w w' := by
  have r1 := rangeAt_new w (fsC ks) 75
  have hs1 : w.heap.size < (w.alloc (.cells (fsC ks).toArray 75)).heap.size := by simp
  have B1 : Below w.heap.size w (w.alloc (.cells (fsC ks).toArray 75)) := (Below.refl _ _).alloc (Nat.le_refl _) _
  have HE : Hid (ordA ks = (apA (ks.map spB) && lastB ks (ks.map spB))) := rfl
  generalize ordA ks = R at *
  have HSF := hide (size_fsl hkF hk4)
  go_enter Try.func63, Try.ntmps63
  go_wp2_with (first | (refine wpList_box_big rfl _ _ rfl (fsC ks).toArray rfl ?_) | (refine wpList_load_mid rfl 75 _ rfl w.heap.size 0 rfl (fsC ks) _ r1 Try.underlying75 rfl (unhide HSF) ?_))
  generalize w.alloc (.cells (fsC ks).toArray 75) = w2 at *
  refine (callsIn_wide.1 (spans_in ks hk4 hkF _)).mono ?_
  rintro e w3 ⟨rfl, b3⟩
  have hl4 : (ks.map spB).length = 4 := by rw [List.length_map, hk4]
  have HAP := hide (fun (w' : World) => allApart_any (ks.map spB) hl4 w')
  have HLB := hide (fun (w' : World) => beginsLast_any ks hk4 hkF (ks.map spB) hl4 w')
  generalize lastB ks (ks.map spB) = y at *
  generalize ks.map spB = L at *
  generalize apA L = x at *
  have r3 := rangeAt_below r1 b3 hs1
  have B3 := B1.trans (b3.mono B1.size)
  have hs3 := Nat.lt_of_lt_of_le hs1 b3.size
  clear r1 B1 b3 hs1
  have B4 := B3.alloc (Nat.le_of_lt hs3) (.cells (spsC L).toArray 119)
  have r4 := rangeAt_below r3 ((Below.refl w3.heap.size w3).alloc (Nat.le_refl _) (.cells (spsC L).toArray 119)) hs3
  have cL := CsAt.new w3 (spsC L) 119
  have hs4 : w3.heap.size < (w3.alloc (.cells (spsC L).toArray 119)).heap.size := by simp
  have rL := cL.cells
  have HS1 := hide (size_sps hl4)
  have HS2 : Hid ((Try.prog.info? 119).map (·.size) = some (spsC L).toArray.size) := by show _ = _; rw [List.size_toArray]; exact unhide HS1
  have HO := hide (one_sps L)
  have hszL : (spsC zSp).toArray.size = (spsC L).toArray.size := by rw [List.size_toArray, List.size_toArray, len_spsC, len_spsC, hl4]; rfl
  go_wp2_with (first | (refine wpList_alloc_big rfl 119 rfl (spsC zSp).toArray (by kernel_rfl) ?_) | (refine wpList_store_new rfl 119 _ _ rfl w3 (spsC zSp).toArray (spsC L).toArray rfl rfl rfl (unhide HS2) hszL (unhide HO) ?_) | (refine wpList_load_mid rfl 119 _ rfl w3.heap.size 0 rfl (spsC L) _ rL Try.underlying119 rfl (unhide HS1) ?_))
  generalize w3.alloc (.cells (spsC L).toArray 119) = w4 at *
  have hs5 : w.heap.size < w4.heap.size := by omega
  generalize w3.heap.size = sb at *
  refine (unhide HAP _).mono ?_
  rintro e w5 ⟨rfl, b5⟩
  have r5 := rangeAt_below r4 b5 hs5
  have rL5 := rangeAt_below rL b5 hs4
  have B5 := B4.trans (b5.mono (Nat.le_of_lt hs5))
  clear r3 r4 rL cL B3 B4 b5 HAP
  cases x
  · have HE2 : Hid (R = false) := by show _ = _; rw [unhide HE]; rfl
    go_wp2
    go_ret
    exact ⟨by rw [unhide HE2]; rfl, B5⟩
  · have HE2 : Hid (R = y) := by show _ = _; rw [unhide HE]; rfl
    have hs6 := B5.size
    go_wp2_with (first | (refine wpList_load_want 75 _ rfl rfl w.heap.size 0 rfl (fsC ks) _ r5 Try.underlying75 rfl (unhide HSF) ?_) | (refine wpList_load_want 119 _ rfl rfl sb 0 rfl (spsC L) _ rL5 Try.underlying119 rfl (unhide HS1) ?_))
    refine (unhide HLB _).mono ?_
    rintro e w6 ⟨rfl, b6⟩
    have B6 := B5.trans (b6.mono B5.size)
    clear r5 rL5
    rw [← unhide HE2]
    go_wp2
    go_ret
    exact ⟨rfl, B6⟩
theorem ordA_ok {bs : List Bk} (h : okB bs = true) : ordA bs = ordB bs := ord_eq h

set_option maxRecDepth 100000 in
set_option maxHeartbeats 1000000 in
theorem implOrder_any (a : Option Addr) (cap : Nat) (bs : List Bk) (w : World) (hf : FsAt w a bs) (hm : bs.length ≤ 9223372036854775807) :
    Calls Try.prog 32 #[.slice a bs.length cap] w fun e w' => e = .returned (.bool (ordR bs)) ∧ Below w.heap.size w w' := by
  obtain ⟨zf, hz, hz84⟩ := zrow
  have HZ := hide hz
  clear hz
  have HR : Hid (ordR bs = (okB bs && ordB bs)) := rfl
  generalize ordR bs = R at *
  go_enter Try.func32, Try.ntmps32
  go_wp2_with fail
  refine (ofz_any a cap bs _ hf hm).mono ?_
  rintro e w1 ⟨ks, rfl, hk4, hkF, hke, b1⟩
  have hsz : zf.size = (fsC ks).toArray.size := by rw [hz84, List.size_toArray, len_fsC _ hkF, hk4]
  have r1 := rangeAt_new w1 (fsC ks) 75
  have hs1 : w1.heap.size < (w1.alloc (.cells (fsC ks).toArray 75)).heap.size := by simp
  have B1 := b1.alloc b1.size (.cells (fsC ks).toArray 75)
  clear b1
  cases hs : okB bs
  · have HE : Hid (R = false) := by show _ = _; rw [unhide HR, hs]; rfl
    clear hs hke
    go_wp2_with (first | (refine wpList_alloc_big rfl 75 rfl zf (unhide HZ) ?_) | (refine wpList_store_new rfl 75 _ _ rfl w1 zf (fsC ks).toArray rfl rfl rfl (size_fsa hkF hk4) hsz (one_fs ks) ?_))
    go_ret
    exact ⟨by rw [unhide HE]; rfl, B1⟩
  · obtain rfl := hke hs
    have HE : Hid (R = ordA ks) := by show _ = _; rw [unhide HR, hs, ordA_ok hs]; rfl
    have HSF := hide (size_fsl hkF hk4)
    have HIO := hide (fun (w' : World) => inOrder_any ks hk4 hkF w')
    generalize ordA ks = x at *
    clear hs hke
    go_wp2_with (first | (refine wpList_alloc_big rfl 75 rfl zf (unhide HZ) ?_) | (refine wpList_store_new rfl 75 _ _ rfl w1 zf (fsC ks).toArray rfl rfl rfl (size_fsa hkF hk4) hsz (one_fs ks) ?_) | (refine wpList_load_want 75 _ rfl rfl w1.heap.size 0 rfl (fsC ks) _ r1 Try.underlying75 rfl (unhide HSF) ?_))
    generalize w1.alloc (.cells (fsC ks).toArray 75) = w2 at *
    refine (unhide HIO _).mono ?_
    rintro e w3 ⟨rfl, b3⟩
    have B3 := B1.trans (b3.mono B1.size)
    clear r1
    rw [← unhide HE]
    go_wp2
    go_ret
    exact ⟨rfl, B3⟩
end Go.Proofs.Ytkikeapfjpnkgaa.FindQ
