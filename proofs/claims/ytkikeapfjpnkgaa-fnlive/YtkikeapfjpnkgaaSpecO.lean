/-
  The specification's FindOrder.
-/
import Derived.Test.YtkikeapfjpnkgaaBaQ
import Derived.Test.YtkikeapfjpnkgaaBaS
namespace Go.Proofs.Ytkikeapfjpnkgaa.SpecO
open Go.ChangeShapes Go.WideShapes Go.ChangeAt Go.RowKit Go.Shelf OkA Big Fl ImplB ImplF ImplS _root_.Go.Proofs.Ytkikeapfjpnkgaa.Own ImplT ImplU SpecA SpecB SpecC SpecD SpecW SpecF SpecG SpecH Ok2 Pl FindP ImplO SpecX ImplL ImplN ImplM FindN Gd
set_option linter.unusedVariables false
set_option linter.unusedSimpArgs false
attribute [local go_sem ↓] Go.wp_at_zero Go.wp_at_succ

set_option maxHeartbeats 1000000 in
theorem least_any (a : Option Addr) (cap : Nat) (ps : List Pg) (wn : Int) (w : World) (h : PsAt w a ps) (hl : ps.length ≤ 1048576) :
    Calls Try.prog 65 #[.agg #[.slice a ps.length cap, .int .i64 wn]] w fun e w' => e = .returned (.int .i64 (leastN ps)) ∧ Below w.heap.size w w' := by
  have B0 : Below w.heap.size w (w.alloc (.cells #[.slice a ps.length cap, .int .i64 wn] 36)) := (Below.refl _ _).alloc (Nat.le_refl _) _
  have H := hide (h.below B0)
  have c0 : (w.alloc (.cells #[.slice a ps.length cap, .int .i64 wn] 36)).cell? ⟨w.heap.size, 0, none⟩ = some (.slice a ps.length cap) := by
    rw [World.cell?_alloc_at _ _ _ _ rfl]; rfl
  have HN : Hid (leastN (ps.take ps.length) = leastN ps) := by show _ = _; rw [List.take_of_length_le (Nat.le_refl _)]
  clear h
  generalize hn : ps.length = n at *
  have HL := hide hn
  clear hn
  have hli : (n : Int) ≤ 1048576 := by omega
  go_enter Try.func65, Try.ntmps65
  go_wp2
  generalize w.alloc (.cells #[.slice a n cap, .int .i64 wn] 36) = w1 at *
  go_loop [3, 4] (fun m i => ∃ k : Nat, k ≤ n ∧ i = .int .i64 k ∧ m = .int .i64 (leastN (ps.take k))) (fun _ i => n - (intOf i).toNat)
  case atStart => exact ⟨0, by omega, rfl, rfl⟩
  case round =>
    obtain ⟨k, hk, rfl, rfl⟩ := hrel
    by_cases h0 : k = n
    · subst h0
      go_wp2
      go_ret
      exact ⟨by rw [← unhide HN]; rfl, B0⟩
    · have hlt : (k : Int) < (n : Int) := by omega
      have hkb : k < ps.length := by have := unhide HL; omega
      have hlo : (0 : Int) ≤ (k : Int) := by omega
      obtain ⟨b1, o1, rfl, g1⟩ : ∃ b o, a = some ⟨b, o, none⟩ ∧ w1.rangeAt b o (psC ps) := by
        rcases unhide H with rfl | h
        · simp at hkb
        · exact h
      have d2 := (PsAt.cells g1 k hkb).2.2.1
      have HT := hide (leastN_take ps k hkb)
      clear g1
      generalize ps[k].s = s at *
      generalize hm : leastN (ps.take k) = m at *
      by_cases t1 : 0 < s
      · by_cases t2 : m = 0
        · have g2 : (m == 0) = true := by simpa using t2
          have HE : Hid (leastN (ps.take (k + 1)) = s) := by show _ = _; rw [unhide HT, lsS, if_pos ⟨t1, .inl t2⟩]
          clear t2 hm
          go_wp2
          go_round
          case rel => exact ⟨k + 1, by omega, by first | rfl | go_num, by rw [unhide HE]⟩
          case measure => simp [intOf]; omega
        · have g2 : (m == 0) = false := by simpa using t2
          by_cases t3 : s < m
          · have HE : Hid (leastN (ps.take (k + 1)) = s) := by show _ = _; rw [unhide HT, lsS, if_pos ⟨t1, .inr t3⟩]
            clear t2 hm
            go_wp2
            go_round
            case rel => exact ⟨k + 1, by omega, by first | rfl | go_num, by rw [unhide HE]⟩
            case measure => simp [intOf]; omega
          · have HE : Hid (leastN (ps.take (k + 1)) = m) := by show _ = _; rw [unhide HT, lsS, if_neg (fun h => h.2.elim t2 t3)]
            clear t2 hm
            go_wp2
            go_round
            case rel => exact ⟨k + 1, by omega, by first | rfl | go_num, by rw [unhide HE]⟩
            case measure => simp [intOf]; omega
      · have HE : Hid (leastN (ps.take (k + 1)) = m) := by show _ = _; rw [unhide HT, lsS, if_neg (fun h => t1 h.1)]
        clear hm
        go_wp2
        go_round
        case rel => exact ⟨k + 1, by omega, by first | rfl | go_num, by rw [unhide HE]⟩
        case measure => simp [intOf]; omega

/-! What the specification holds two blocks against. -/
def ovB (a b : Bk) : Bool := decide (0 < mostN a.ps) && decide (0 < mostN b.ps) && decide (leastN a.ps < mostN b.ps) && decide (leastN b.ps < mostN a.ps)
def bgS (a : Bk) : Bool := decide (0 < (cleanN a.ps : Int)) && decide ((cleanN a.ps : Int) < 4)
def lateB (a b : Bk) : Bool := bgS a && (bgS b || (decide (0 < mostN a.ps) && decide (mostN a.ps < mostN b.ps)))
def badB (bs : List Bk) (i k : Nat) : Bool := (i != k) && (ovB (bs.getD i zBk) (bs.getD k zBk) || lateB (bs.getD i zBk) (bs.getD k zBk))
def ordB (bs : List Bk) : Bool := (List.range 4).all fun i => (List.range 4).all fun k => !badB bs i k
theorem ordB_iff (bs : List Bk) : ordB bs = true ↔ ∀ i, i < 4 → ∀ k, k < 4 → badB bs i k = false := by
  simp [ordB]
theorem ordB_no {bs : List Bk} {i k : Nat} (hi : i < 4) (hk : k < 4) (h : badB bs i k = true) : ordB bs = false := by
  cases e : ordB bs
  · rfl
  · have := (ordB_iff bs).1 e i hi k hk
    rw [h] at this; cases this
/-- What FindOrder answers. -/
def ordR (bs : List Bk) : Bool := okB bs && ordB bs
attribute [local go_sem] onlyIf_t onlyIf_f

set_option maxRecDepth 100000 in
set_option maxHeartbeats 4000000 in
theorem specOrder_any (a : Option Addr) (cap : Nat) (bs : List Bk) (w : World) (hf : FsAt w a bs) (hm : bs.length ≤ 1048576) :
    Calls Try.prog 33 #[.slice a bs.length cap] w fun e w' => e = .returned (.bool (ordR bs)) ∧ Below w.heap.size w w' := by
  have HC := hide (specFlashOk_any a cap bs w hf hm)
  have HF := hide hf
  clear hf
  have HR : Hid (ordR bs = (okB bs && ordB bs)) := rfl
  generalize ordR bs = R at *
  cases hok : okB bs
  · have HE : Hid (R = false) := by show _ = _; rw [unhide HR, hok]; rfl
    rw [hok] at HC
    go_enter Try.func33, Try.ntmps33
    go_wp2_with fail
    refine (unhide HC).mono ?_
    rintro e w1 ⟨rfl, b1⟩
    go_wp2
    go_ret
    exact ⟨by rw [unhide HE]; rfl, b1⟩
  · have h4 := ok_len hok
    have HE : Hid (R = ordB bs) := by show _ = _; rw [unhide HR, hok]; rfl
    have HFo := hide (ok_fours hok)
    rw [hok] at HC
    obtain ⟨fb, fo, rfl, hfa⟩ := fs_at (unhide HF) h4
    have HB := hide hfa
    have H4 := hide h4
    rw [h4] at HC ⊢
    clear hok HR hfa h4 HF
    go_enter Try.func33, Try.ntmps33
    go_wp2_with fail
    refine (unhide HC).mono ?_
    rintro e w1 ⟨rfl, b1⟩
    clear HC
    go_wp2
    go_loopw [3] (fun i w' => ∃ n : Nat, n ≤ 4 ∧ i = .int .i64 n ∧ Hid (∀ i', i' < n → ∀ k', k' < 4 → badB bs i' k' = false) ∧ Below w.heap.size w w') (fun i _ => 4 - (intOf i).toNat)
    case atStart => exact ⟨0, by omega, rfl, (fun i' hi' => by omega), b1⟩
    case round =>
      clear b1
      obtain ⟨i, hi, rfl, HI, bw⟩ := hrel
      by_cases h0 : i = 4
      · subst h0
        have HT : Hid (R = true) := by show _ = _; rw [unhide HE]; exact (ordB_iff bs).2 (fun i' hi' k' hk' => unhide HI i' hi' k' hk')
        go_wp2
        go_ret
        exact ⟨by rw [unhide HT]; rfl, bw⟩
      · have hil : (i : Int) < 4 := by omega
        have hi4 : i < 4 := by omega
        have hi0 : (0 : Int) ≤ (i : Int) := by omega
        go_wp2
        go_loopw [4] (fun k w' => ∃ n : Nat, n ≤ 4 ∧ k = .int .i64 n ∧ Hid (∀ k', k' < n → badB bs i k' = false) ∧ Below w.heap.size w w') (fun k _ => 4 - (intOf k).toNat)
        case atStart => exact ⟨0, by omega, rfl, (fun k' hk' => by omega), bw⟩
        case round =>
          clear bw
          obtain ⟨k, hk, rfl, HK, bk⟩ := hrel
          by_cases h1 : k = 4
          · subst h1
            have HI2 : Hid (∀ i', i' < i + 1 → ∀ k', k' < 4 → badB bs i' k' = false) := fun i' hi' k' hk' => by
              by_cases e : i' = i
              · subst e; exact unhide HK k' hk'
              · exact unhide HI i' (by omega) k' hk'
            go_wp2
            go_roundw
            case rel => exact ⟨i + 1, by omega, by first | rfl | go_num, HI2, bk⟩
            case measure => simp [intOf]; omega
          · have hkl : (k : Int) < 4 := by omega
            have hk4 : k < 4 := by omega
            have hk0 : (0 : Int) ≤ (k : Int) := by omega
            have hbi : i < bs.length := by rw [unhide H4]; exact hi4
            have hbk : k < bs.length := by rw [unhide H4]; exact hk4
            obtain ⟨pa, ca, x0, x1, xp⟩ := unhide HB i hbi
            obtain ⟨pb, cb, y0, y1, yp⟩ := unhide HB k hbk
            have HLi := hide ((unhide HFo).at i hbi)
            have HLk := hide ((unhide HFo).at k hbk)
            have HBD : Hid (badB bs i k = ((i != k) && (ovB bs[i] bs[k] || lateB bs[i] bs[k]))) := by
              show _ = _; unfold badB; rw [getD_at bs i hbi, getD_at bs k hbk]
            have lb : fb < w.heap.size := cell_lt x0
            rw [unhide HLi] at x0
            rw [unhide HLk] at y0
            have HX := hide (xp.below (w' := wr) bk)
            have HY := hide (yp.below (w' := wr) bk)
            rw [← bk.cell (p := ⟨fb, fo + i * 2, none⟩) lb] at x0
            rw [← bk.cell (p := ⟨fb, fo + i * 2 + 1, none⟩) lb] at x1
            rw [← bk.cell (p := ⟨fb, fo + k * 2, none⟩) lb] at y0
            rw [← bk.cell (p := ⟨fb, fo + k * 2 + 1, none⟩) lb] at y1
            have lbr : fb < wr.heap.size := Nat.lt_of_lt_of_le lb bk.size
            clear xp yp
            generalize bs[i] = A at *
            generalize bs[k] = B at *
            have y0' : (wr.alloc (.cells #[.slice pa 4 ca, .int .i64 A.wn] 36)).cell? ⟨fb, fo + k * 2, none⟩ = some (.slice pb 4 cb) := by rw [World.cell?_alloc_lt _ _ _ lbr]; exact y0
            have y1' : (wr.alloc (.cells #[.slice pa 4 ca, .int .i64 A.wn] 36)).cell? ⟨fb, fo + k * 2 + 1, none⟩ = some (.int .i64 B.wn) := by rw [World.cell?_alloc_lt _ _ _ lbr]; exact y1
            have cA := (CsAt.new wr [.slice pa 4 ca, .int .i64 A.wn] 36).alloc (by simp) (.cells #[.slice pb 4 cb, .int .i64 B.wn] 36)
            have cB := CsAt.new (wr.alloc (.cells #[.slice pa 4 ca, .int .i64 A.wn] 36)) [.slice pb 4 cb, .int .i64 B.wn] 36
            rw [World.size_alloc] at cB
            have bn : Below wr.heap.size wr ((wr.alloc (.cells #[.slice pa 4 ca, .int .i64 A.wn] 36)).alloc (.cells #[.slice pb 4 cb, .int .i64 B.wn] 36)) := ((Below.refl _ _).alloc (Nat.le_refl _) _).alloc (by simp) _
            have hsW : ((wr.alloc (.cells #[.slice pa 4 ca, .int .i64 A.wn] 36)).alloc (.cells #[.slice pb 4 cb, .int .i64 B.wn] 36)).heap.size = wr.heap.size + 2 := by simp
            have HX2 := hide ((unhide HX).below bn)
            have HY2 := hide ((unhide HY).below bn)
            have bW := bk.trans (bn.mono bk.size)
            go_wp2_with fail
            clear x0 x1 y0 y1 y0' y1' HX HY bn bk lbr
            generalize hsb : wr.heap.size = sb at *
            generalize (wr.alloc (.cells #[.slice pa 4 ca, .int .i64 A.wn] 36)).alloc (.cells #[.slice pb 4 cb, .int .i64 B.wn] 36) = W at *
            clear hsb
            have CA : Hid (∀ w', Below W.heap.size W w' → w'.cell? ⟨sb, 0, none⟩ = some (.slice pa 4 ca) ∧ w'.cell? ⟨sb, 1, none⟩ = some (.int .i64 A.wn)) := fun w' h => by
              have := cA.below h (by omega)
              exact ⟨this.cell 0 _ rfl, this.cell 1 _ rfl⟩
            have CB : Hid (∀ w', Below W.heap.size W w' → w'.cell? ⟨sb + 1, 0, none⟩ = some (.slice pb 4 cb) ∧ w'.cell? ⟨sb + 1, 1, none⟩ = some (.int .i64 B.wn)) := fun w' h => by
              have := cB.below h (by omega)
              exact ⟨this.cell 0 _ rfl, this.cell 1 _ rfl⟩
            have MA : Hid (∀ w', Below W.heap.size W w' → Calls Try.prog 64 #[.agg #[.slice pa 4 ca, .int .i64 A.wn]] w' fun e w'' => e = .returned (.int .i64 (mostN A.ps)) ∧ Below w'.heap.size w' w'') := fun w' h => by
              have := most_any pa ca A.ps A.wn w' ((unhide HX2).below h) (by rw [unhide HLi]; omega)
              rwa [unhide HLi] at this
            have MB : Hid (∀ w', Below W.heap.size W w' → Calls Try.prog 64 #[.agg #[.slice pb 4 cb, .int .i64 B.wn]] w' fun e w'' => e = .returned (.int .i64 (mostN B.ps)) ∧ Below w'.heap.size w' w'') := fun w' h => by
              have := most_any pb cb B.ps B.wn w' ((unhide HY2).below h) (by rw [unhide HLk]; omega)
              rwa [unhide HLk] at this
            have LA : Hid (∀ w', Below W.heap.size W w' → Calls Try.prog 65 #[.agg #[.slice pa 4 ca, .int .i64 A.wn]] w' fun e w'' => e = .returned (.int .i64 (leastN A.ps)) ∧ Below w'.heap.size w' w'') := fun w' h => by
              have := least_any pa ca A.ps A.wn w' ((unhide HX2).below h) (by rw [unhide HLi]; omega)
              rwa [unhide HLi] at this
            have LB : Hid (∀ w', Below W.heap.size W w' → Calls Try.prog 65 #[.agg #[.slice pb 4 cb, .int .i64 B.wn]] w' fun e w'' => e = .returned (.int .i64 (leastN B.ps)) ∧ Below w'.heap.size w' w'') := fun w' h => by
              have := least_any pb cb B.ps B.wn w' ((unhide HY2).below h) (by rw [unhide HLk]; omega)
              rwa [unhide HLk] at this
            have KA : Hid (∀ w', Below W.heap.size W w' → Calls Try.prog 66 #[.agg #[.slice pa 4 ca, .int .i64 A.wn]] w' fun e w'' => e = .returned (.int .i64 (cleanN A.ps)) ∧ Below w'.heap.size w' w'') := fun w' h => by
              rcases (unhide HX2).below h with hn | ⟨b', o', rfl, hr'⟩
              · have := unhide HLi; rw [hn] at this; simp at this
              · exact l2Clean_any b' o' ca A.ps A.wn w' (unhide HLi) hr'
            have KB : Hid (∀ w', Below W.heap.size W w' → Calls Try.prog 66 #[.agg #[.slice pb 4 cb, .int .i64 B.wn]] w' fun e w'' => e = .returned (.int .i64 (cleanN B.ps)) ∧ Below w'.heap.size w' w'') := fun w' h => by
              rcases (unhide HY2).below h with hn | ⟨b', o', rfl, hr'⟩
              · have := unhide HLk; rw [hn] at this; simp at this
              · exact l2Clean_any b' o' cb B.ps B.wn w' (unhide HLk) hr'
            clear HX2 HY2 HLi HLk cA cB
            have HP0 : Hid (badB bs i k = ((((i : Nat) : Int) != ((k : Nat) : Int)) && (ovB A B || lateB A B))) := by
              show _ = _
              rw [unhide HBD]
              congr 1
              by_cases e : i = k
              · subst e; simp
              · have e1 : (i != k) = true := by simpa using e
                have e2 : (((i : Nat) : Int) != ((k : Nat) : Int)) = true := by simp; omega
                rw [e1, e2]
            unfold ovB lateB bgS at HP0
            generalize hma : mostN A.ps = ma at *
            generalize hmb : mostN B.ps = mb at *
            generalize hla : leastN A.ps = la at *
            generalize hlb : leastN B.ps = lb' at *
            generalize hca : (cleanN A.ps : Int) = cna at *
            generalize hcb : (cleanN B.ps : Int) = cnb at *
            clear hma hmb hla hlb hca hcb HBD
            generalize hp0 : (((i : Nat) : Int) != ((k : Nat) : Int)) = p0 at *
            generalize hp1 : decide (0 < ma) = p1 at *
            generalize hp2 : decide (0 < mb) = p2 at *
            generalize hp3 : decide (la < mb) = p3 at *
            generalize hp4 : decide (lb' < ma) = p4 at *
            generalize hp5 : decide (ma < mb) = p5 at *
            generalize hc1 : decide (0 < cna) = c1 at *
            generalize hc2 : decide (cna < 4) = c2 at *
            generalize hd1 : decide (0 < cnb) = d1 at *
            generalize hd2 : decide (cnb < 4) = d2 at *
            generalize hq1 : (p0 && p1) = q1 at *
            generalize hq2 : (q1 && p2) = q2 at *
            generalize hq3 : (q2 && p3) = q3 at *
            generalize hq4 : (q3 && p4) = q4 at *
            generalize hr1 : (p0 && c1) = r1 at *
            generalize hr2 : (r1 && c2) = r2 at *
            generalize hr3 : (r2 && (d1 && d2 || p1 && p5)) = r3 at *
            have Q4 := hide hq4
            have R3 := hide hr3
            have Q1 := hide hq1
            have Q2 := hide hq2
            have Q3 := hide hq3
            have R1 := hide hr1
            have R2 := hide hr2
            clear hq1 hq2 hq3 hr1 hr2 hq4 hr3
            refine wp_region_noPanic ?_
            refine wp_region_held_drew (S := fun w' => Below W.heap.size W w') (by kernel_rfl) ((Below.refl _ _).drew) (fun hHeld => ?_)
            refine takeL 0 (.int .i64 (i : Nat)) rfl (by kernel_rfl) (by kernel_rfl) (by kernel_rfl) (fun _ _ _ h => h) (Or.inl ⟨rfl, fun _ _ => rfl⟩) hHeld ?_
            try simp only [Act.put, List.setIfInBounds_toArray, List.set_cons_zero, List.set_cons_succ]
            refine takeL 1 (.int .i64 (k : Nat)) rfl (by kernel_rfl) (by kernel_rfl) (by kernel_rfl) (fun _ _ _ h => h) (Or.inl ⟨rfl, fun _ _ => rfl⟩) hHeld ?_
            try simp only [Act.put, List.setIfInBounds_toArray, List.set_cons_zero, List.set_cons_succ]
            refine takeL 2 (.bool p0) rfl (by kernel_rfl) (by kernel_rfl) (by kernel_rfl) (fun _ _ _ h => h) (Or.inl ⟨rfl, fun w9 hSw => by go_simp⟩) hHeld ?_
            try simp only [Act.put, List.setIfInBounds_toArray, List.set_cons_zero, List.set_cons_succ]
            refine takeL 3 (.bool p0) rfl (by kernel_rfl) (by kernel_rfl) (by kernel_rfl) (fun _ _ _ h => h) (Or.inl ⟨rfl, fun _ _ => rfl⟩) hHeld ?_
            try simp only [Act.put, List.setIfInBounds_toArray, List.set_cons_zero, List.set_cons_succ]
            refine takeG 4 (p0) (.agg #[.slice pa 4 ca, .int .i64 A.wn]) rfl (by kernel_rfl) (by kernel_rfl) (by kernel_rfl) (fun _ _ _ h => h) (by cases p0 <;> rfl) (fun hb w9 hSw => by cases p0 <;> first | (cases hb; done) | (have hc := unhide CA _ hSw; have hc0 := hc.1; have hc1 := hc.2; clear hc; go_simp)) hHeld ?_
            try simp only [Act.put, List.setIfInBounds_toArray, List.set_cons_zero, List.set_cons_succ]
            refine callG 5 (p0) (.int .i64 ma) rfl (by kernel_rfl) (by cases p0 <;> rfl) hHeld (fun hb K hK => by cases p0 <;> first | (cases hb; done) | (go_simp; refine (unhide MA _ hHeld).mono ?_; rintro e w4 ⟨rfl, b4⟩; go_wp2_with fail; exact hK.out _ (hHeld.trans (b4.mono hHeld.size)))) (fun w4 hHeld => ?_)
            try simp only [Act.put, List.setIfInBounds_toArray, List.set_cons_zero, List.set_cons_succ]
            refine takeG 6 (p0) (.bool p1) rfl (by kernel_rfl) (by kernel_rfl) (by kernel_rfl) (fun _ _ _ h => h) (by cases p0 <;> rfl) (fun hb w9 hSw => by cases p0 <;> first | (cases hb; done) | (go_simp)) hHeld ?_
            try simp only [Act.put, List.setIfInBounds_toArray, List.set_cons_zero, List.set_cons_succ]
            refine takeL 7 (.bool q1) rfl (by kernel_rfl) (by kernel_rfl) (by kernel_rfl) (fun _ _ _ h => h) (Or.inl ⟨rfl, fun w9 hSw => by cases p0 <;> (rw [← unhide Q1]; go_simp)⟩) hHeld ?_
            try simp only [Act.put, List.setIfInBounds_toArray, List.set_cons_zero, List.set_cons_succ]
            refine takeL 8 (.bool q1) rfl (by kernel_rfl) (by kernel_rfl) (by kernel_rfl) (fun _ _ _ h => h) (Or.inl ⟨rfl, fun _ _ => rfl⟩) hHeld ?_
            try simp only [Act.put, List.setIfInBounds_toArray, List.set_cons_zero, List.set_cons_succ]
            refine takeG 9 (q1) (.agg #[.slice pb 4 cb, .int .i64 B.wn]) rfl (by kernel_rfl) (by kernel_rfl) (by kernel_rfl) (fun _ _ _ h => h) (by cases q1 <;> rfl) (fun hb w9 hSw => by cases q1 <;> first | (cases hb; done) | (have hc := unhide CB _ hSw; have hc0 := hc.1; have hc1 := hc.2; clear hc; go_simp)) hHeld ?_
            try simp only [Act.put, List.setIfInBounds_toArray, List.set_cons_zero, List.set_cons_succ]
            refine callG 10 (q1) (.int .i64 mb) rfl (by kernel_rfl) (by cases q1 <;> rfl) hHeld (fun hb K hK => by cases q1 <;> first | (cases hb; done) | (go_simp; refine (unhide MB _ hHeld).mono ?_; rintro e w4 ⟨rfl, b4⟩; go_wp2_with fail; exact hK.out _ (hHeld.trans (b4.mono hHeld.size)))) (fun w4 hHeld => ?_)
            try simp only [Act.put, List.setIfInBounds_toArray, List.set_cons_zero, List.set_cons_succ]
            refine takeG 11 (q1) (.bool p2) rfl (by kernel_rfl) (by kernel_rfl) (by kernel_rfl) (fun _ _ _ h => h) (by cases q1 <;> rfl) (fun hb w9 hSw => by cases q1 <;> first | (cases hb; done) | (go_simp)) hHeld ?_
            try simp only [Act.put, List.setIfInBounds_toArray, List.set_cons_zero, List.set_cons_succ]
            refine takeL 12 (.bool q2) rfl (by kernel_rfl) (by kernel_rfl) (by kernel_rfl) (fun _ _ _ h => h) (Or.inl ⟨rfl, fun w9 hSw => by cases q1 <;> (rw [← unhide Q2]; go_simp)⟩) hHeld ?_
            try simp only [Act.put, List.setIfInBounds_toArray, List.set_cons_zero, List.set_cons_succ]
            refine takeL 13 (.bool q2) rfl (by kernel_rfl) (by kernel_rfl) (by kernel_rfl) (fun _ _ _ h => h) (Or.inl ⟨rfl, fun _ _ => rfl⟩) hHeld ?_
            try simp only [Act.put, List.setIfInBounds_toArray, List.set_cons_zero, List.set_cons_succ]
            refine takeG 14 (q2) (.agg #[.slice pa 4 ca, .int .i64 A.wn]) rfl (by kernel_rfl) (by kernel_rfl) (by kernel_rfl) (fun _ _ _ h => h) (by cases q2 <;> rfl) (fun hb w9 hSw => by cases q2 <;> first | (cases hb; done) | (have hc := unhide CA _ hSw; have hc0 := hc.1; have hc1 := hc.2; clear hc; go_simp)) hHeld ?_
            try simp only [Act.put, List.setIfInBounds_toArray, List.set_cons_zero, List.set_cons_succ]
            refine takeG 16 (q2) (.agg #[.slice pb 4 cb, .int .i64 B.wn]) rfl (by kernel_rfl) (by kernel_rfl) (by kernel_rfl) (fun _ _ _ h => h) (by cases q2 <;> rfl) (fun hb w9 hSw => by cases q2 <;> first | (cases hb; done) | (have hc := unhide CB _ hSw; have hc0 := hc.1; have hc1 := hc.2; clear hc; go_simp)) hHeld ?_
            try simp only [Act.put, List.setIfInBounds_toArray, List.set_cons_zero, List.set_cons_succ]
            refine callG 15 (q2) (.int .i64 la) rfl (by kernel_rfl) (by cases q2 <;> rfl) hHeld (fun hb K hK => by cases q2 <;> first | (cases hb; done) | (go_simp; refine (unhide LA _ hHeld).mono ?_; rintro e w4 ⟨rfl, b4⟩; go_wp2_with fail; exact hK.out _ (hHeld.trans (b4.mono hHeld.size)))) (fun w4 hHeld => ?_)
            try simp only [Act.put, List.setIfInBounds_toArray, List.set_cons_zero, List.set_cons_succ]
            refine callG 17 (q2) (.int .i64 mb) rfl (by kernel_rfl) (by cases q2 <;> rfl) hHeld (fun hb K hK => by cases q2 <;> first | (cases hb; done) | (go_simp; refine (unhide MB _ hHeld).mono ?_; rintro e w4 ⟨rfl, b4⟩; go_wp2_with fail; exact hK.out _ (hHeld.trans (b4.mono hHeld.size)))) (fun w4 hHeld => ?_)
            try simp only [Act.put, List.setIfInBounds_toArray, List.set_cons_zero, List.set_cons_succ]
            refine takeG 18 (q2) (.bool p3) rfl (by kernel_rfl) (by kernel_rfl) (by kernel_rfl) (fun _ _ _ h => h) (by cases q2 <;> rfl) (fun hb w9 hSw => by cases q2 <;> first | (cases hb; done) | (go_simp)) hHeld ?_
            try simp only [Act.put, List.setIfInBounds_toArray, List.set_cons_zero, List.set_cons_succ]
            refine takeL 19 (.bool q3) rfl (by kernel_rfl) (by kernel_rfl) (by kernel_rfl) (fun _ _ _ h => h) (Or.inl ⟨rfl, fun w9 hSw => by cases q2 <;> (rw [← unhide Q3]; go_simp)⟩) hHeld ?_
            try simp only [Act.put, List.setIfInBounds_toArray, List.set_cons_zero, List.set_cons_succ]
            refine takeL 20 (.bool q3) rfl (by kernel_rfl) (by kernel_rfl) (by kernel_rfl) (fun _ _ _ h => h) (Or.inl ⟨rfl, fun _ _ => rfl⟩) hHeld ?_
            try simp only [Act.put, List.setIfInBounds_toArray, List.set_cons_zero, List.set_cons_succ]
            refine takeG 21 (q3) (.agg #[.slice pb 4 cb, .int .i64 B.wn]) rfl (by kernel_rfl) (by kernel_rfl) (by kernel_rfl) (fun _ _ _ h => h) (by cases q3 <;> rfl) (fun hb w9 hSw => by cases q3 <;> first | (cases hb; done) | (have hc := unhide CB _ hSw; have hc0 := hc.1; have hc1 := hc.2; clear hc; go_simp)) hHeld ?_
            try simp only [Act.put, List.setIfInBounds_toArray, List.set_cons_zero, List.set_cons_succ]
            refine takeG 23 (q3) (.agg #[.slice pa 4 ca, .int .i64 A.wn]) rfl (by kernel_rfl) (by kernel_rfl) (by kernel_rfl) (fun _ _ _ h => h) (by cases q3 <;> rfl) (fun hb w9 hSw => by cases q3 <;> first | (cases hb; done) | (have hc := unhide CA _ hSw; have hc0 := hc.1; have hc1 := hc.2; clear hc; go_simp)) hHeld ?_
            try simp only [Act.put, List.setIfInBounds_toArray, List.set_cons_zero, List.set_cons_succ]
            refine callG 22 (q3) (.int .i64 lb') rfl (by kernel_rfl) (by cases q3 <;> rfl) hHeld (fun hb K hK => by cases q3 <;> first | (cases hb; done) | (go_simp; refine (unhide LB _ hHeld).mono ?_; rintro e w4 ⟨rfl, b4⟩; go_wp2_with fail; exact hK.out _ (hHeld.trans (b4.mono hHeld.size)))) (fun w4 hHeld => ?_)
            try simp only [Act.put, List.setIfInBounds_toArray, List.set_cons_zero, List.set_cons_succ]
            refine callG 24 (q3) (.int .i64 ma) rfl (by kernel_rfl) (by cases q3 <;> rfl) hHeld (fun hb K hK => by cases q3 <;> first | (cases hb; done) | (go_simp; refine (unhide MA _ hHeld).mono ?_; rintro e w4 ⟨rfl, b4⟩; go_wp2_with fail; exact hK.out _ (hHeld.trans (b4.mono hHeld.size)))) (fun w4 hHeld => ?_)
            try simp only [Act.put, List.setIfInBounds_toArray, List.set_cons_zero, List.set_cons_succ]
            refine takeG 25 (q3) (.bool p4) rfl (by kernel_rfl) (by kernel_rfl) (by kernel_rfl) (fun _ _ _ h => h) (by cases q3 <;> rfl) (fun hb w9 hSw => by cases q3 <;> first | (cases hb; done) | (go_simp)) hHeld ?_
            try simp only [Act.put, List.setIfInBounds_toArray, List.set_cons_zero, List.set_cons_succ]
            refine takeL 26 (.bool q4) rfl (by kernel_rfl) (by kernel_rfl) (by kernel_rfl) (fun _ _ _ h => h) (Or.inl ⟨rfl, fun w9 hSw => by cases q3 <;> (rw [← unhide Q4]; go_simp)⟩) hHeld ?_
            try simp only [Act.put, List.setIfInBounds_toArray, List.set_cons_zero, List.set_cons_succ]
            refine wpAnyH_done (by kernel_rfl) ?_ _
            refine NoPanic.normal ?_
            have hHeld2 := hHeld
            cases q4
            rotate_left
            · have hov := unhide Q4
              have HBT : Hid (badB bs i k = true) := by
                show _ = _
                rw [unhide HP0]
                have := hov
                rw [← unhide Q3, ← unhide Q2, ← unhide Q1] at this
                revert this
                cases p0 <;> cases p1 <;> cases p2 <;> cases p3 <;> cases p4 <;> simp
              have HN := hide (ordB_no hi4 hk4 (unhide HBT))
              clear hHeld2 hov
              go_wp2
              go_ret
              exact ⟨by rw [unhide HE, unhide HN]; rfl, bW.trans (hHeld.mono bW.size)⟩
            · have hov := unhide Q4
              have HO0 : Hid ((p0 && (p1 && p2 && p3 && p4)) = false) := by
                show _ = _
                have := hov
                rw [← unhide Q3, ← unhide Q2, ← unhide Q1] at this
                rw [← this]
                cases p0 <;> cases p1 <;> cases p2 <;> cases p3 <;> cases p4 <;> rfl
              clear hHeld2 Q2 Q3 Q4 hov
              go_wp2_with fail
              refine wp_region_noPanic ?_
              refine wp_region_held_drew (S := fun w' => Below W.heap.size W w') (by kernel_rfl) (hHeld.drew) (fun hHeld => ?_)
              refine takeL 0 (.int .i64 (i : Nat)) rfl (by kernel_rfl) (by kernel_rfl) (by kernel_rfl) (fun _ _ _ h => h) (Or.inl ⟨rfl, fun _ _ => rfl⟩) hHeld ?_
              try simp only [Act.put, List.setIfInBounds_toArray, List.set_cons_zero, List.set_cons_succ]
              refine takeL 1 (.int .i64 (k : Nat)) rfl (by kernel_rfl) (by kernel_rfl) (by kernel_rfl) (fun _ _ _ h => h) (Or.inl ⟨rfl, fun _ _ => rfl⟩) hHeld ?_
              try simp only [Act.put, List.setIfInBounds_toArray, List.set_cons_zero, List.set_cons_succ]
              refine takeL 2 (.bool p0) rfl (by kernel_rfl) (by kernel_rfl) (by kernel_rfl) (fun _ _ _ h => h) (Or.inl ⟨rfl, fun w9 hSw => by go_simp⟩) hHeld ?_
              try simp only [Act.put, List.setIfInBounds_toArray, List.set_cons_zero, List.set_cons_succ]
              refine takeL 3 (.bool p0) rfl (by kernel_rfl) (by kernel_rfl) (by kernel_rfl) (fun _ _ _ h => h) (Or.inl ⟨rfl, fun _ _ => rfl⟩) hHeld ?_
              try simp only [Act.put, List.setIfInBounds_toArray, List.set_cons_zero, List.set_cons_succ]
              refine takeG 4 (p0) (.agg #[.slice pa 4 ca, .int .i64 A.wn]) rfl (by kernel_rfl) (by kernel_rfl) (by kernel_rfl) (fun _ _ _ h => h) (by cases p0 <;> rfl) (fun hb w9 hSw => by cases p0 <;> first | (cases hb; done) | (have hc := unhide CA _ hSw; have hc0 := hc.1; have hc1 := hc.2; clear hc; go_simp)) hHeld ?_
              try simp only [Act.put, List.setIfInBounds_toArray, List.set_cons_zero, List.set_cons_succ]
              refine callG 5 (p0) (.int .i64 cna) rfl (by kernel_rfl) (by cases p0 <;> rfl) hHeld (fun hb K hK => by cases p0 <;> first | (cases hb; done) | (go_simp; refine (unhide KA _ hHeld).mono ?_; rintro e w4 ⟨rfl, b4⟩; go_wp2_with fail; exact hK.out _ (hHeld.trans (b4.mono hHeld.size)))) (fun w4 hHeld => ?_)
              try simp only [Act.put, List.setIfInBounds_toArray, List.set_cons_zero, List.set_cons_succ]
              refine takeG 6 (p0) (.bool c1) rfl (by kernel_rfl) (by kernel_rfl) (by kernel_rfl) (fun _ _ _ h => h) (by cases p0 <;> rfl) (fun hb w9 hSw => by cases p0 <;> first | (cases hb; done) | (go_simp)) hHeld ?_
              try simp only [Act.put, List.setIfInBounds_toArray, List.set_cons_zero, List.set_cons_succ]
              refine takeL 7 (.bool r1) rfl (by kernel_rfl) (by kernel_rfl) (by kernel_rfl) (fun _ _ _ h => h) (Or.inl ⟨rfl, fun w9 hSw => by cases p0 <;> (rw [← unhide R1]; go_simp)⟩) hHeld ?_
              try simp only [Act.put, List.setIfInBounds_toArray, List.set_cons_zero, List.set_cons_succ]
              refine takeL 8 (.bool r1) rfl (by kernel_rfl) (by kernel_rfl) (by kernel_rfl) (fun _ _ _ h => h) (Or.inl ⟨rfl, fun _ _ => rfl⟩) hHeld ?_
              try simp only [Act.put, List.setIfInBounds_toArray, List.set_cons_zero, List.set_cons_succ]
              refine takeG 9 (r1) (.agg #[.slice pa 4 ca, .int .i64 A.wn]) rfl (by kernel_rfl) (by kernel_rfl) (by kernel_rfl) (fun _ _ _ h => h) (by cases r1 <;> rfl) (fun hb w9 hSw => by cases r1 <;> first | (cases hb; done) | (have hc := unhide CA _ hSw; have hc0 := hc.1; have hc1 := hc.2; clear hc; go_simp)) hHeld ?_
              try simp only [Act.put, List.setIfInBounds_toArray, List.set_cons_zero, List.set_cons_succ]
              refine callG 10 (r1) (.int .i64 cna) rfl (by kernel_rfl) (by cases r1 <;> rfl) hHeld (fun hb K hK => by cases r1 <;> first | (cases hb; done) | (go_simp; refine (unhide KA _ hHeld).mono ?_; rintro e w4 ⟨rfl, b4⟩; go_wp2_with fail; exact hK.out _ (hHeld.trans (b4.mono hHeld.size)))) (fun w4 hHeld => ?_)
              try simp only [Act.put, List.setIfInBounds_toArray, List.set_cons_zero, List.set_cons_succ]
              refine takeG 11 (r1) (.bool c2) rfl (by kernel_rfl) (by kernel_rfl) (by kernel_rfl) (fun _ _ _ h => h) (by cases r1 <;> rfl) (fun hb w9 hSw => by cases r1 <;> first | (cases hb; done) | (go_simp)) hHeld ?_
              try simp only [Act.put, List.setIfInBounds_toArray, List.set_cons_zero, List.set_cons_succ]
              refine takeL 12 (.bool r2) rfl (by kernel_rfl) (by kernel_rfl) (by kernel_rfl) (fun _ _ _ h => h) (Or.inl ⟨rfl, fun w9 hSw => by cases r1 <;> (rw [← unhide R2]; go_simp)⟩) hHeld ?_
              try simp only [Act.put, List.setIfInBounds_toArray, List.set_cons_zero, List.set_cons_succ]
              refine takeL 13 (.bool r2) rfl (by kernel_rfl) (by kernel_rfl) (by kernel_rfl) (fun _ _ _ h => h) (Or.inl ⟨rfl, fun _ _ => rfl⟩) hHeld ?_
              try simp only [Act.put, List.setIfInBounds_toArray, List.set_cons_zero, List.set_cons_succ]
              refine takeG 14 (r2) (.agg #[.slice pb 4 cb, .int .i64 B.wn]) rfl (by kernel_rfl) (by kernel_rfl) (by kernel_rfl) (fun _ _ _ h => h) (by cases r2 <;> rfl) (fun hb w9 hSw => by cases r2 <;> first | (cases hb; done) | (have hc := unhide CB _ hSw; have hc0 := hc.1; have hc1 := hc.2; clear hc; go_simp)) hHeld ?_
              try simp only [Act.put, List.setIfInBounds_toArray, List.set_cons_zero, List.set_cons_succ]
              refine callG 15 (r2) (.int .i64 cnb) rfl (by kernel_rfl) (by cases r2 <;> rfl) hHeld (fun hb K hK => by cases r2 <;> first | (cases hb; done) | (go_simp; refine (unhide KB _ hHeld).mono ?_; rintro e w4 ⟨rfl, b4⟩; go_wp2_with fail; exact hK.out _ (hHeld.trans (b4.mono hHeld.size)))) (fun w4 hHeld => ?_)
              try simp only [Act.put, List.setIfInBounds_toArray, List.set_cons_zero, List.set_cons_succ]
              refine takeG 16 (r2) (.bool d1) rfl (by kernel_rfl) (by kernel_rfl) (by kernel_rfl) (fun _ _ _ h => h) (by cases r2 <;> rfl) (fun hb w9 hSw => by cases r2 <;> first | (cases hb; done) | (go_simp)) hHeld ?_
              try simp only [Act.put, List.setIfInBounds_toArray, List.set_cons_zero, List.set_cons_succ]
              refine takeG 17 (r2) (.bool d1) rfl (by kernel_rfl) (by kernel_rfl) (by kernel_rfl) (fun _ _ _ h => h) (by cases r2 <;> rfl) (fun hb w9 hSw => by cases r2 <;> first | (cases hb; done) | (go_simp)) hHeld ?_
              try simp only [Act.put, List.setIfInBounds_toArray, List.set_cons_zero, List.set_cons_succ]
              refine takeG 18 (r2 && d1) (.agg #[.slice pb 4 cb, .int .i64 B.wn]) rfl (by kernel_rfl) (by kernel_rfl) (by kernel_rfl) (fun _ _ _ h => h) (by cases r2 <;> cases d1 <;> rfl) (fun hb w9 hSw => by cases r2 <;> cases d1 <;> first | (cases hb; done) | (have hc := unhide CB _ hSw; have hc0 := hc.1; have hc1 := hc.2; clear hc; go_simp)) hHeld ?_
              try simp only [Act.put, List.setIfInBounds_toArray, List.set_cons_zero, List.set_cons_succ]
              refine callG 19 (r2 && d1) (.int .i64 cnb) rfl (by kernel_rfl) (by cases r2 <;> cases d1 <;> rfl) hHeld (fun hb K hK => by cases r2 <;> cases d1 <;> first | (cases hb; done) | (go_simp; refine (unhide KB _ hHeld).mono ?_; rintro e w4 ⟨rfl, b4⟩; go_wp2_with fail; exact hK.out _ (hHeld.trans (b4.mono hHeld.size)))) (fun w4 hHeld => ?_)
              try simp only [Act.put, List.setIfInBounds_toArray, List.set_cons_zero, List.set_cons_succ]
              refine takeG 20 (r2 && d1) (.bool d2) rfl (by kernel_rfl) (by kernel_rfl) (by kernel_rfl) (fun _ _ _ h => h) (by cases r2 <;> cases d1 <;> rfl) (fun hb w9 hSw => by cases r2 <;> cases d1 <;> first | (cases hb; done) | (go_simp)) hHeld ?_
              try simp only [Act.put, List.setIfInBounds_toArray, List.set_cons_zero, List.set_cons_succ]
              refine takeG 21 (r2) (.bool (d1 && d2)) rfl (by kernel_rfl) (by kernel_rfl) (by kernel_rfl) (fun _ _ _ h => h) (by cases r2 <;> cases d1 <;> rfl) (fun hb w9 hSw => by cases r2 <;> cases d1 <;> first | (cases hb; done) | (go_simp)) hHeld ?_
              try simp only [Act.put, List.setIfInBounds_toArray, List.set_cons_zero, List.set_cons_succ]
              refine takeG 22 (r2) (.bool (d1 && d2)) rfl (by kernel_rfl) (by kernel_rfl) (by kernel_rfl) (fun _ _ _ h => h) (by cases r2 <;> rfl) (fun hb w9 hSw => by cases r2 <;> first | (cases hb; done) | (go_simp)) hHeld ?_
              try simp only [Act.put, List.setIfInBounds_toArray, List.set_cons_zero, List.set_cons_succ]
              refine takeG 23 (r2 && !(d1 && d2)) (.agg #[.slice pa 4 ca, .int .i64 A.wn]) rfl (by kernel_rfl) (by kernel_rfl) (by kernel_rfl) (fun _ _ _ h => h) (by cases r2 <;> cases d1 <;> cases d2 <;> rfl) (fun hb w9 hSw => by cases r2 <;> cases d1 <;> cases d2 <;> first | (cases hb; done) | (have hc := unhide CA _ hSw; have hc0 := hc.1; have hc1 := hc.2; clear hc; go_simp)) hHeld ?_
              try simp only [Act.put, List.setIfInBounds_toArray, List.set_cons_zero, List.set_cons_succ]
              refine callG 24 (r2 && !(d1 && d2)) (.int .i64 ma) rfl (by kernel_rfl) (by cases r2 <;> cases d1 <;> cases d2 <;> rfl) hHeld (fun hb K hK => by cases r2 <;> cases d1 <;> cases d2 <;> first | (cases hb; done) | (go_simp; refine (unhide MA _ hHeld).mono ?_; rintro e w4 ⟨rfl, b4⟩; go_wp2_with fail; exact hK.out _ (hHeld.trans (b4.mono hHeld.size)))) (fun w4 hHeld => ?_)
              try simp only [Act.put, List.setIfInBounds_toArray, List.set_cons_zero, List.set_cons_succ]
              refine takeG 25 (r2 && !(d1 && d2)) (.bool p1) rfl (by kernel_rfl) (by kernel_rfl) (by kernel_rfl) (fun _ _ _ h => h) (by cases r2 <;> cases d1 <;> cases d2 <;> rfl) (fun hb w9 hSw => by cases r2 <;> cases d1 <;> cases d2 <;> first | (cases hb; done) | (go_simp)) hHeld ?_
              try simp only [Act.put, List.setIfInBounds_toArray, List.set_cons_zero, List.set_cons_succ]
              refine takeG 26 (r2 && !(d1 && d2)) (.bool p1) rfl (by kernel_rfl) (by kernel_rfl) (by kernel_rfl) (fun _ _ _ h => h) (by cases r2 <;> cases d1 <;> cases d2 <;> rfl) (fun hb w9 hSw => by cases r2 <;> cases d1 <;> cases d2 <;> first | (cases hb; done) | (go_simp)) hHeld ?_
              try simp only [Act.put, List.setIfInBounds_toArray, List.set_cons_zero, List.set_cons_succ]
              refine takeG 27 ((r2 && !(d1 && d2)) && p1) (.agg #[.slice pb 4 cb, .int .i64 B.wn]) rfl (by kernel_rfl) (by kernel_rfl) (by kernel_rfl) (fun _ _ _ h => h) (by cases r2 <;> cases d1 <;> cases d2 <;> cases p1 <;> rfl) (fun hb w9 hSw => by cases r2 <;> cases d1 <;> cases d2 <;> cases p1 <;> first | (cases hb; done) | (have hc := unhide CB _ hSw; have hc0 := hc.1; have hc1 := hc.2; clear hc; go_simp)) hHeld ?_
              try simp only [Act.put, List.setIfInBounds_toArray, List.set_cons_zero, List.set_cons_succ]
              refine takeG 29 ((r2 && !(d1 && d2)) && p1) (.agg #[.slice pa 4 ca, .int .i64 A.wn]) rfl (by kernel_rfl) (by kernel_rfl) (by kernel_rfl) (fun _ _ _ h => h) (by cases r2 <;> cases d1 <;> cases d2 <;> cases p1 <;> rfl) (fun hb w9 hSw => by cases r2 <;> cases d1 <;> cases d2 <;> cases p1 <;> first | (cases hb; done) | (have hc := unhide CA _ hSw; have hc0 := hc.1; have hc1 := hc.2; clear hc; go_simp)) hHeld ?_
              try simp only [Act.put, List.setIfInBounds_toArray, List.set_cons_zero, List.set_cons_succ]
              refine callG 28 ((r2 && !(d1 && d2)) && p1) (.int .i64 mb) rfl (by kernel_rfl) (by cases r2 <;> cases d1 <;> cases d2 <;> cases p1 <;> rfl) hHeld (fun hb K hK => by cases r2 <;> cases d1 <;> cases d2 <;> cases p1 <;> first | (cases hb; done) | (go_simp; refine (unhide MB _ hHeld).mono ?_; rintro e w4 ⟨rfl, b4⟩; go_wp2_with fail; exact hK.out _ (hHeld.trans (b4.mono hHeld.size)))) (fun w4 hHeld => ?_)
              try simp only [Act.put, List.setIfInBounds_toArray, List.set_cons_zero, List.set_cons_succ]
              refine callG 30 ((r2 && !(d1 && d2)) && p1) (.int .i64 ma) rfl (by kernel_rfl) (by cases r2 <;> cases d1 <;> cases d2 <;> cases p1 <;> rfl) hHeld (fun hb K hK => by cases r2 <;> cases d1 <;> cases d2 <;> cases p1 <;> first | (cases hb; done) | (go_simp; refine (unhide MA _ hHeld).mono ?_; rintro e w4 ⟨rfl, b4⟩; go_wp2_with fail; exact hK.out _ (hHeld.trans (b4.mono hHeld.size)))) (fun w4 hHeld => ?_)
              try simp only [Act.put, List.setIfInBounds_toArray, List.set_cons_zero, List.set_cons_succ]
              refine takeG 31 ((r2 && !(d1 && d2)) && p1) (.bool p5) rfl (by kernel_rfl) (by kernel_rfl) (by kernel_rfl) (fun _ _ _ h => h) (by cases r2 <;> cases d1 <;> cases d2 <;> cases p1 <;> rfl) (fun hb w9 hSw => by cases r2 <;> cases d1 <;> cases d2 <;> cases p1 <;> first | (cases hb; done) | (go_simp)) hHeld ?_
              try simp only [Act.put, List.setIfInBounds_toArray, List.set_cons_zero, List.set_cons_succ]
              refine takeG 32 (r2 && !(d1 && d2)) (.bool (p1 && p5)) rfl (by kernel_rfl) (by kernel_rfl) (by kernel_rfl) (fun _ _ _ h => h) (by cases r2 <;> cases d1 <;> cases d2 <;> cases p1 <;> rfl) (fun hb w9 hSw => by cases r2 <;> cases d1 <;> cases d2 <;> cases p1 <;> first | (cases hb; done) | (go_simp)) hHeld ?_
              try simp only [Act.put, List.setIfInBounds_toArray, List.set_cons_zero, List.set_cons_succ]
              refine takeG 33 (r2) (.bool (d1 && d2 || p1 && p5)) rfl (by kernel_rfl) (by kernel_rfl) (by kernel_rfl) (fun _ _ _ h => h) (by cases r2 <;> cases d1 <;> cases d2 <;> rfl) (fun hb w9 hSw => by cases r2 <;> cases d1 <;> cases d2 <;> first | (cases hb; done) | (go_simp)) hHeld ?_
              try simp only [Act.put, List.setIfInBounds_toArray, List.set_cons_zero, List.set_cons_succ]
              refine takeL 34 (.bool r3) rfl (by kernel_rfl) (by kernel_rfl) (by kernel_rfl) (fun _ _ _ h => h) (Or.inl ⟨rfl, fun w9 hSw => by cases r2 <;> (rw [← unhide R3]; go_simp)⟩) hHeld ?_
              try simp only [Act.put, List.setIfInBounds_toArray, List.set_cons_zero, List.set_cons_succ]
              refine wpAnyH_done (by kernel_rfl) ?_ _
              refine NoPanic.normal ?_
              have hHeld2 := hHeld
              cases r3
              rotate_left
              · have hlt2 := unhide R3
                have HBT : Hid (badB bs i k = true) := by
                  show _ = _
                  rw [unhide HP0]
                  have := hlt2
                  rw [← unhide R2, ← unhide R1] at this
                  revert this
                  cases p0 <;> cases c1 <;> cases c2 <;> cases d1 <;> cases d2 <;> cases p1 <;> cases p5 <;> simp
                have HN := hide (ordB_no hi4 hk4 (unhide HBT))
                clear hHeld2 hlt2
                go_wp2
                go_ret
                exact ⟨by rw [unhide HE, unhide HN]; rfl, bW.trans (hHeld.mono bW.size)⟩
              · have hlt2 := unhide R3
                have HBF : Hid (badB bs i k = false) := by
                  show _ = _
                  rw [unhide HP0]
                  have h1 := unhide HO0
                  have h2 := hlt2
                  rw [← unhide R2, ← unhide R1] at h2
                  revert h1 h2
                  cases p0 <;> cases c1 <;> cases c2 <;> cases d1 <;> cases d2 <;> cases p1 <;> cases p2 <;> cases p3 <;> cases p4 <;> cases p5 <;> simp
                have HK2 : Hid (∀ k', k' < k + 1 → badB bs i k' = false) := fun k' hk' => by
                  by_cases e : k' = k
                  · subst e; exact unhide HBF
                  · exact unhide HK k' (by omega)
                clear hHeld2 hlt2
                go_wp2
                go_roundw
                case rel => exact ⟨k + 1, by omega, by first | rfl | go_num, HK2, bW.trans (hHeld.mono bW.size)⟩
                case measure => simp [intOf]; omega
end Go.Proofs.Ytkikeapfjpnkgaa.SpecO
