/-
  Texts that belong together, one behind the other: LawW, MkN.
-/
import Derived.Test.YtogfelpdgeionaaGreatHbB
import Derived.Test.YtogfelpdgeionaaGreatHaI
import Derived.Test.YtogfelpdgeionaaGreatHbI
import Derived.Test.YtogfelpdgeionaaGreatHaZ

/-
  The laws' own lists of steps: how much; the same as the program's, in memory of its own; an argument that is such a list.
-/
namespace Go.Proofs.YtogfelpdgeionaaGreat.LawW
open Go.ChangeShapes Go.WideShapes Go.ChangeAt Go.RowKit Go.Joins Go.Deep OkA Big Fl ImplB ImplF ImplS _root_.Go.Proofs.YtogfelpdgeionaaGreat.Own ImplT ImplU SpecA SpecB LawsA OpenF Pl ImplL Kp RmA LawU
set_option linter.unusedVariables false
set_option linter.unusedSimpArgs false

def rcA (x : Stp) : Array Value := #[.int .i64 x.r.k, .int .i64 x.r.s, .int .i64 x.r.a, .int .i64 x.r.v]
theorem one_rcA (x : Stp) : (rcA x).all (·.oneCell') = true := one_rec _ _ _ _
theorem size_rcA (x : Stp) : (Tryz.prog.info? 35).map (·.size) = some (rcA x).size := by show _ = some 4; kernel_rfl
theorem stsC_take (ps : List Stp) (k : Nat) (hk : k < ps.length) : stsC (ps.take (k + 1)) = stsC (ps.take k) ++ stC ps[k] := by
  rw [List.take_succ_eq_append_getElem hk]; simp only [stsC, List.flatMap_append, List.flatMap_cons, List.flatMap_nil, List.append_nil]

/-- A row of steps in new memory. -/
def RowS (w : World) (ps : List Stp) (e : Ending) (w' : World) : Prop := e = .returned (.slice (some ⟨w.heap.size, 0, none⟩) ps.length ps.length) ∧ CsAt w' w.heap.size (stsC ps) ∧ w.heap.size < w'.heap.size ∧ Below w.heap.size w w'

/-! An argument that is a list of steps. -/
theorem list8 {cs : List Value} (h : cs.length = 8) : ∃ a b c d e f g i, cs = [a, b, c, d, e, f, g, i] := by
  match cs, h with
  | [a, b, c, d, e, f, g, i], _ => exact ⟨a, b, c, d, e, f, g, i, rfl⟩
variable {H : Type} {enc : TypeId × Value → H} {w : World}
theorem trod_struct5 {P : Program} {base : Nat} {spare : Nat → Bool} {held : Bool} {t : TypeId} {f0 f1 f2 f3 f4 : Field} {fuel : Nat} {cs : List Value} {x : DataW H × List MemPlace} (ht : P.underlying t = some (.struct #[f0, f1, f2, f3, f4])) (h : DataW.trod enc P w base spare held fuel t cs = some x) :
    ∃ y0 y1 y2 y3 y4 n, cs.length = P.cellsOf t ∧ DataW.trod enc P w base spare held n f0.type ((cs.drop f0.offset).take (P.cellsOf f0.type)) = some y0 ∧ DataW.trod enc P w base spare held n f1.type ((cs.drop f1.offset).take (P.cellsOf f1.type)) = some y1 ∧ DataW.trod enc P w base spare held n f2.type ((cs.drop f2.offset).take (P.cellsOf f2.type)) = some y2 ∧
      DataW.trod enc P w base spare held n f3.type ((cs.drop f3.offset).take (P.cellsOf f3.type)) = some y3 ∧ DataW.trod enc P w base spare held n f4.type ((cs.drop f4.offset).take (P.cellsOf f4.type)) = some y4 := by
  obtain ⟨xs, n, _, rfl, hl, hlen, hf⟩ := DataW.trod_struct ht h
  match xs, hlen with
  | [y0, y1, y2, y3, y4], _ => exact ⟨y0, y1, y2, y3, y4, n, hl, by simpa using hf 0 f0 rfl, by simpa using hf 1 f1 rfl, by simpa using hf 2 f2 rfl, by simpa using hf 3 f3 rfl, by simpa using hf 4 f4 rfl⟩
theorem here : True := trivial
end Go.Proofs.YtogfelpdgeionaaGreat.LawW

/-
  A store that a call has answered: none, or four blocks and six numbers in memory of its own. Whether two are the same; marks.
-/
namespace Go.Proofs.YtogfelpdgeionaaGreat.MkN
open Go.ChangeShapes Go.WideShapes Go.ChangeAt Go.RowKit Go.Shelf OkA Big Fl ImplB ImplF ImplS _root_.Go.Proofs.YtogfelpdgeionaaGreat.Own ImplT ImplU SpecA SpecB SpecC SpecD SpecW SpecF SpecG SpecH Ok2 Pl FindP SpecX SpecY ImplW ImplX ImplL Kp StA MpA StB StC StD StE StF StG FindL Gd LawU LawS LawV LawI LawT LawW MarkB SpS SpT DoA ToA QuA QuB QuC QuD QuE SpV1 SpV
set_option linter.unusedVariables false
set_option linter.unusedSimpArgs false
attribute [local go_sem ↓] Go.wp_at_zero Go.wp_at_succ

def MarkPostO (w : World) (lo g N n : Nat) (G : List Nat) (k : Int) (e : Ending) (w' : World) : Prop := e = .returned (.int .i64 (k + 21 * (n : Nat))) ∧ Own.Own w' lo g G (mkBs n k) N ∧ Below lo w w' ∧ w'.heap.size = w.heap.size ∧ Only (g :: G) w w'
set_option maxHeartbeats 1000000 in
theorem markBlockO_any (lo g cap N : Nat) (G : List Nat) (bs : List Bk) (k : Int) (w : World) (o : Own.Own w lo g G bs N) (hF : Fours bs) (h4 : bs.length ≤ 4) (hk0 : 0 ≤ k) (hk1 : k ≤ 100) :
    Calls Tryz.prog 132 #[.slice (some ⟨g, 0, none⟩) bs.length cap, .int .i64 k] w fun e w' => MarkPostO w lo g N bs.length G k e w' := by
  have HO := hide o
  have HF := hide hF
  clear o hF
  go_enter Tryz.func132, Tryz.ntmps132
  go_wp2
  go_loopw [5, 1] (fun i m w' => ∃ (j : Nat) (M : Int), j ≤ bs.length ∧ i = .int .i64 j ∧ m = .int .i64 M ∧ M = k + 21 * (j : Nat) ∧ Own.Own w' lo g G (mkBs j k ++ bs.drop j) N ∧ Below lo w w' ∧ w'.heap.size = w.heap.size ∧ Only (g :: G) w w') (fun i _ _ => bs.length - (intOf i).toNat)
  case atStart => exact ⟨0, k, by omega, rfl, rfl, by omega, by simpa [mkBs] using unhide HO, Below.refl _ _, rfl, Only.refl _ _⟩
  case round =>
    obtain ⟨j, M, hj, rfl, rfl, hM, oj, bj, sj, yj⟩ := hrel
    by_cases h0 : j = bs.length
    · subst h0
      go_wp2
      go_ret
      refine ⟨by rw [hM]; rfl, ?_, bj, sj, yj⟩
      rw [List.drop_eq_nil_of_le (Nat.le_refl _), List.append_nil] at oj
      exact oj
    · have hlt : (j : Int) < (bs.length : Int) := by omega
      have hjb : j < bs.length := by omega
      have hlo : (0 : Int) ≤ (j : Int) := by omega
      have hlen := oj.len
      have hml := mix_len j k bs hj
      have hj' : j < (mkBs j k ++ bs.drop j).length := by omega
      have hma := mix_at j k bs hjb
      have hb4 : bs[j].ps.length = 4 := (unhide HF).at j hjb
      obtain ⟨pc, c0⟩ := oj.out j hj'
      have c1 := oj.worn j hj'
      have tp := oj.free j hj'
      have hne : g ≠ G[j]'(by omega) := fun e => (List.nodup_cons.1 oj.nd).1 (e ▸ List.getElem_mem _)
      have hgl : lo ≤ g := oj.lo g (by simp)
      have hmem : G[j]'(by omega) ∈ g :: G := List.mem_cons_of_mem _ (List.getElem_mem _)
      have hpl : lo ≤ G[j]'(by omega) := oj.lo _ hmem
      have OB := hide (oj.block j hj' (mkPs 4 M) (by rw [mkPs_len, hma, hb4]) (M + 20))
      rw [show (⟨mkPs 4 M, M + 20⟩ : Bk) = mkB (k + 21 * (j : Nat)) by rw [← hM]; rfl, mix_set j k bs hjb] at OB
      simp only [hma] at c0 c1 tp
      rw [hb4] at c0 tp
      have hM0 : 0 ≤ M := by omega
      have hM1 : M ≤ 1000 := by omega
      generalize G[j]'(by omega) = gj at *
      have HC := hide (markPageS_any gj pc 4 M wr hM0 hM1 (by omega) tp)
      have TR := oj.room
      have hfit := oj.fit
      generalize psC (mkPs 4 M) = cs at *
      have C1 : (wr.setCells gj 0 cs).cell? ⟨g, j * 2 + 1, none⟩ = some (.int .i64 bs[j].wn) := by rw [cell_setCells_ne (.inl hne)]; exact c1
      have F1 : (wr.setCells gj 0 cs).frozen? ⟨g, j * 2 + 1, none⟩ = false := by
        have := (World.there_setCells TR gj 0 cs (j * 2 + 1) (by omega)).2
        rwa [Nat.zero_add] at this
      have B1 := below_setCells gj hpl cs 0 wr bj
      have Y1 := hide ((yj.setCells hmem 0 cs).setCells (show g ∈ g :: G by simp) (j * 2 + 1) [.int .i64 (M + 20)])
      have S1 : (wr.setCells gj 0 cs).heap.size = w.heap.size := by rw [size_setCells]; exact sj
      have HM := hide hM
      clear hM oj bj sj yj c1 tp hma hml hj' hlen TR
      generalize wr.setCells gj 0 cs = w1 at *
      go_wp2_with (go_at_call 197; refine (unhide HC).mono ?_; rintro e w' ⟨rfl, rfl⟩; rw [show M + 5 * ((4 : Nat) : Int) = M + 20 by omega])
      go_roundw
      case rel =>
        refine ⟨j + 1, M + 21, by omega, by first | rfl | go_num, by first | rfl | go_num, by have := unhide HM; omega, unhide OB, B1.setCell hgl _, ?_, unhide Y1⟩
        rw [World.size_setCell]; exact S1
      case measure => simp [intOf]; omega

/-- Marks on a store of four blocks and six numbers. -/
def MnPost (w : World) (lo g : Nat) (G : List Nat) (d : Nat) (e : Ending) (w' : World) : Prop := e = .returned (.int .i64 91) ∧ OwnS w' lo g G d (mkBs 4 1) (mkI 6 85) ∧ OnlyG (d :: g :: G) w w' ∧ Below lo w w'
set_option maxHeartbeats 1000000 in
theorem markN_any (lo g d c1 c2 : Nat) (G : List Nat) (w : World) (hlo : lo ≤ w.heap.size) (z : List Bk) (dk : List Int) (hF : Fours z) (h4 : z.length = 4) (h6 : dk.length = 6) (o : OwnS w lo g G d z dk) :
    Calls Tryz.prog 57 #[.agg #[.slice (some ⟨g, 0, none⟩) 4 c1, .slice (some ⟨d, 0, none⟩) 6 c2], .int .i64 1] w fun e w' => MnPost w lo g G d e w' := by
  have B0 : Below w.heap.size w (w.alloc (.cells #[.slice (some ⟨g, 0, none⟩) 4 c1, .slice (some ⟨d, 0, none⟩) 6 c2] 26)) := (Below.refl _ _).alloc (Nat.le_refl _) _
  have cS := store_box w (.slice (some ⟨g, 0, none⟩) 4 c1) (.slice (some ⟨d, 0, none⟩) 6 c2)
  have s0 : (w.alloc (.cells #[.slice (some ⟨g, 0, none⟩) 4 c1, .slice (some ⟨d, 0, none⟩) 6 c2] 26)).heap.size = w.heap.size + 1 := by simp
  have o0 := o.below B0 (Nat.le_refl _)
  have hhi : ∀ x ∈ d :: g :: G, x < w.heap.size := fun x hx => by
    rcases List.mem_cons.1 hx with rfl | hx
    · exact o.dhi
    · exact o.own.hi x hx
  have x0 := cS.cell 0 _ rfl
  have hdn := o.dne
  clear o
  go_enter Tryz.func57, Tryz.ntmps57
  go_wp2_with fail
  generalize w.alloc (.cells #[.slice (some ⟨g, 0, none⟩) 4 c1, .slice (some ⟨d, 0, none⟩) 6 c2] 26) = w0 at *
  have HMB := hide (markBlockO_any lo g c1 z.length G z 1 w0 o0.own hF (by omega) (by omega) (by omega))
  rw [h4] at HMB
  refine (unhide HMB).mono ?_
  rintro e w1 ⟨rfl, p1, b1, z1, y1⟩
  have g1 : OnlyG (d :: g :: G) w w1 := (OnlyG.of B0).trans ((OnlyG.only y1).sub (fun x hx => .inl (List.mem_cons_of_mem _ hx)))
  have hSn : w.heap.size ∉ g :: G := fun hm => by have := hhi _ (List.mem_cons_of_mem _ hm); omega
  have x1 : w1.cell? ⟨w.heap.size, 1, none⟩ = some (.slice (some ⟨d, 0, none⟩) 6 c2) := by rw [y1.cell _ _ hSn]; exact cS.cell 1 _ rfl
  have c1' : CsAt w1 d (isC dk) := ⟨fun j v hv => by rw [y1.cell d _ hdn]; exact o0.ds.cells j v hv, fun j hj => by rw [y1.cell d _ hdn, y1.frozen d _ hdn]; exact o0.ds.free j hj⟩
  have B1 := (B0.mono hlo).trans b1
  have hdl := o0.dlo
  have hdh := hhi d (by simp)
  clear cS x0 o0 y1 b1 B0
  have e85 : (1 : Int) + 21 * ((4 : Nat) : Int) = 85 := by decide
  rw [e85]
  have HMI := hide (markIntS_any d c2 dk 85 w1 c1' (by omega) (by omega) (by omega))
  rw [h6] at HMI
  go_wp2_with fail
  refine (unhide HMI).mono ?_
  rintro e w2 ⟨rfl, c2', y2, k2⟩
  have g2 : OnlyG (d :: g :: G) w w2 := g1.trans ((OnlyG.only y2).sub (fun x hx => by simp at hx; subst hx; exact .inl (by simp)))
  have B2 := B1.trans (k2.below (B := lo) (fun x hx => by simp at hx; subst hx; exact hdl) (by omega))
  have p2 := LawV.Own.only p1 y2 (fun x hx hm => by simp at hm; subst hm; exact hdn hx)
  have S2 : OwnS w2 lo g G d (mkBs 4 1) (mkI 6 85) := ⟨p2, c2', hdl, by have := y2.size; omega, hdn⟩
  clear x1 y2 k2 g1 B1 p1 p2 c2' c1'
  go_wp2
  go_ret
  exact ⟨rfl, S2, g2, B2⟩
set_option maxHeartbeats 1000000 in
theorem heldN_any (lo g d c1 c2 : Nat) (G : List Nat) (w : World) (o : OwnS w lo g G d (mkBs 4 1) (mkI 6 85)) :
    Calls Tryz.prog 62 #[.agg #[.slice (some ⟨g, 0, none⟩) 4 c1, .slice (some ⟨d, 0, none⟩) 6 c2], .int .i64 1] w fun e w' => e = .returned (.int .i64 91) ∧ Below w.heap.size w w' := by
  have B0 : Below w.heap.size w (w.alloc (.cells #[.slice (some ⟨g, 0, none⟩) 4 c1, .slice (some ⟨d, 0, none⟩) 6 c2] 26)) := (Below.refl _ _).alloc (Nat.le_refl _) _
  have cS := store_box w (.slice (some ⟨g, 0, none⟩) 4 c1) (.slice (some ⟨d, 0, none⟩) 6 c2)
  have o0 := o.below B0 (Nat.le_refl _)
  have x0 := cS.cell 0 _ rfl
  have x1 := cS.cell 1 _ rfl
  have HB := hide (heldBlockS_any (some ⟨g, 0, none⟩) c1 4 1 _ (by omega) (by omega) (by omega) o0.own.fs)
  have HI := hide (heldIntS_any (some ⟨d, 0, none⟩) c2 6 85 _ (by omega) (by omega) (by omega) (.inr ⟨d, 0, rfl, o0.ds.cells⟩))
  clear o o0 cS
  go_enter Tryz.func62, Tryz.ntmps62
  go_wp2_with fail
  generalize w.alloc (.cells #[.slice (some ⟨g, 0, none⟩) 4 c1, .slice (some ⟨d, 0, none⟩) 6 c2] 26) = w0 at *
  refine (unhide HB).mono ?_
  rintro e w1 ⟨rfl, hw1⟩
  obtain rfl := hw1.symm
  rw [show (1 : Int) + 21 * ((4 : Nat) : Int) = 85 by decide]
  go_wp2_with fail
  refine (unhide HI).mono ?_
  rintro e w2 ⟨rfl, hw2⟩
  obtain rfl := hw2.symm
  rw [show (85 : Int) + ((6 : Nat) : Int) = 91 by decide]
  go_wp2
  go_ret
  exact ⟨rfl, B0⟩

set_option maxRecDepth 100000 in
set_option maxHeartbeats 4000000 in
theorem markStep7 (pb cap n : Nat) (k : Int) (w : World) (hk0 : 0 ≤ k) (hk1 : k ≤ 7000000000000) (hn : n ≤ 1048576) (ht : w.there pb 0 (n * 8)) :
    Calls Tryz.prog 58 #[.slice (some ⟨pb, 0, none⟩) n cap, .int .i64 k] w fun e w' => e = .returned (.int .i64 (k + 8 * (n : Nat))) ∧ w' = w.setCells pb 0 (stsC (mkSs n k)) := by
  have HT := hide ht
  have hni : (n : Int) ≤ 1048576 := by omega
  clear ht
  go_enter Tryz.func58, Tryz.ntmps58
  go_wp2
  go_loopw [5, 1] (fun i m w' => ∃ (j : Nat) (M : Int), j ≤ n ∧ i = .int .i64 j ∧ m = .int .i64 M ∧ M = k + 8 * (j : Nat) ∧ Hid (w' = w.setCells pb 0 (stsC (mkSs j k)))) (fun i _ _ => n - (intOf i).toNat)
  case atStart => exact ⟨0, k, by omega, rfl, rfl, by omega, rfl⟩
  case round =>
    obtain ⟨j, M, hj, rfl, rfl, hM, hw⟩ := hrel
    by_cases h0 : j = n
    · subst h0
      have HW := hw
      go_wp2
      go_ret
      exact ⟨by rw [hM]; rfl, unhide HW⟩
    · have hlt : (j : Int) < (n : Int) := by omega
      have hlo : (0 : Int) ≤ (j : Int) := by omega
      have tr : wr.there pb 0 (n * 8) := by rw [unhide hw]; exact World.there_setCells (unhide HT) _ _ _
      obtain ⟨v0, c0⟩ := there_some tr (j * 8) (by omega)
      obtain ⟨v1, c1⟩ := there_some tr (j * 8 + 1) (by omega)
      obtain ⟨v2, c2⟩ := there_some tr (j * 8 + 2) (by omega)
      obtain ⟨v3, c3⟩ := there_some tr (j * 8 + 3) (by omega)
      obtain ⟨v4, c4⟩ := there_some tr (j * 8 + 4) (by omega)
      obtain ⟨v5, c5⟩ := there_some tr (j * 8 + 5) (by omega)
      obtain ⟨v6, c6⟩ := there_some tr (j * 8 + 6) (by omega)
      obtain ⟨v7, c7⟩ := there_some tr (j * 8 + 7) (by omega)
      have f0 := (tr (j * 8) (by omega)).2
      have f1 := (tr (j * 8 + 1) (by omega)).2
      have f2 := (tr (j * 8 + 2) (by omega)).2
      have f3 := (tr (j * 8 + 3) (by omega)).2
      have f4 := (tr (j * 8 + 4) (by omega)).2
      have f5 := (tr (j * 8 + 5) (by omega)).2
      have f6 := (tr (j * 8 + 6) (by omega)).2
      have f7 := (tr (j * 8 + 7) (by omega)).2
      simp only [Nat.zero_add] at c0 c1 c2 c3 c4 c5 c6 c7 f0 f1 f2 f3 f4 f5 f6 f7
      have HM := hide (LawU.mark_step w pb j k)
      rw [← unhide hw, ← hM] at HM
      have hM0 : 0 ≤ M := by omega
      have hM1 : M ≤ 7000010000000 := by omega
      clear tr hw
      go_wp2
      go_roundw
      case rel =>
        refine ⟨j + 1, M + 8, by omega, by first | rfl | go_num, by first | rfl | go_num, by omega, ?_⟩
        show _ = _
        rw [unhide HM, hM]
        simp only [Nat.add_assoc, Int.add_assoc, Int.reduceAdd, Nat.reduceAdd]
      case measure => simp [intOf]; omega

set_option maxHeartbeats 1000000 in
theorem markE_any (w : World) : Calls Tryz.prog 132 #[.slice none 0 0, .int .i64 1] w fun e w' => e = .returned (.int .i64 1) ∧ w' = w := by
  go_enter Tryz.func132, Tryz.ntmps132
  go_wp2
  go_loop [5, 1] (fun i m => i = .int .i64 0 ∧ m = .int .i64 1) (fun _ _ => 0)
  case atStart => exact ⟨rfl, rfl⟩
  case round =>
    obtain ⟨rfl, rfl⟩ := hrel
    go_wp2
    go_ret
    exact ⟨rfl, rfl⟩
set_option maxHeartbeats 1000000 in
theorem mark0_any (w : World) : Calls Tryz.prog 57 #[.agg #[.slice none 0 0, .slice none 0 0], .int .i64 1] w fun e w' => e = .returned (.int .i64 1) ∧ Below w.heap.size w w' := by
  have B0 : Below w.heap.size w (w.alloc (.cells #[.slice none 0 0, .slice none 0 0] 26)) := (Below.refl _ _).alloc (Nat.le_refl _) _
  have HB := hide markE_any
  have HI := hide (markI_nil none 0)
  go_enter Tryz.func57, Tryz.ntmps57
  go_wp2_with (first | (go_at_call 132; refine (unhide HB _).mono ?_; rintro e w' ⟨rfl, hw'⟩; obtain rfl := hw'.symm) | (go_at_call 79; refine (unhide HI _).mono ?_; rintro e w' ⟨rfl, hw'⟩; obtain rfl := hw'.symm))
  go_ret
  exact ⟨rfl, B0⟩
set_option maxHeartbeats 1000000 in
theorem held0_any (w : World) : Calls Tryz.prog 62 #[.agg #[.slice none 0 0, .slice none 0 0], .int .i64 1] w fun e w' => e = .returned (.int .i64 1) ∧ Below w.heap.size w w' := by
  have B0 : Below w.heap.size w (w.alloc (.cells #[.slice none 0 0, .slice none 0 0] 26)) := (Below.refl _ _).alloc (Nat.le_refl _) _
  have HB := hide (fun w' => heldBlockS_any none 0 0 1 w' (by omega) (by omega) (by omega) (.inl rfl))
  have HI := hide (fun w' => heldIntS_any none 0 0 1 w' (by omega) (by omega) (by omega) (.inl rfl))
  rw [show (1 : Int) + 21 * ((0 : Nat) : Int) = 1 by decide] at HB
  rw [show (1 : Int) + ((0 : Nat) : Int) = 1 by decide] at HI
  go_enter Tryz.func62, Tryz.ntmps62
  go_wp2_with (first | (go_at_call 135; refine (unhide HB _).mono ?_; rintro e w' ⟨rfl, hw'⟩; obtain rfl := hw'.symm) | (go_at_call 80; refine (unhide HI _).mono ?_; rintro e w' ⟨rfl, hw'⟩; obtain rfl := hw'.symm))
  go_ret
  exact ⟨rfl, B0⟩

/-! The marks on an argument's store and steps, with a bound. -/
def MbPost (w : World) (lo g : Nat) (G : List Nat) (d : Nat) (e : Ending) (w' : World) : Prop := ∃ m : Int, e = .returned (.int .i64 m) ∧ 0 ≤ m ∧ m ≤ 6900000000000 ∧ OnlyG (d :: g :: G) w w' ∧ Below lo w w'
set_option maxHeartbeats 1000000 in
theorem markB_any (lo g d c1 c2 : Nat) (G : List Nat) (z : List Bk) (dk : List Int) (w : World) (hlo : lo ≤ w.heap.size) (o : OwnS w lo g G d z dk) (hl : z.length ≤ 1048576) (hp : ∀ b ∈ z, b.ps.length ≤ 1048576) (hd : dk.length ≤ 1048576) :
    Calls Tryz.prog 57 #[.agg #[.slice (some ⟨g, 0, none⟩) z.length c1, .slice (some ⟨d, 0, none⟩) dk.length c2], .int .i64 1] w fun e w' => MbPost w lo g G d e w' := by
  have B0 : Below w.heap.size w (w.alloc (.cells #[.slice (some ⟨g, 0, none⟩) z.length c1, .slice (some ⟨d, 0, none⟩) dk.length c2] 26)) := (Below.refl _ _).alloc (Nat.le_refl _) _
  have cS := store_box w (.slice (some ⟨g, 0, none⟩) z.length c1) (.slice (some ⟨d, 0, none⟩) dk.length c2)
  have s0 : (w.alloc (.cells #[.slice (some ⟨g, 0, none⟩) z.length c1, .slice (some ⟨d, 0, none⟩) dk.length c2] 26)).heap.size = w.heap.size + 1 := by simp
  have o0 := o.below B0 (Nat.le_refl _)
  have hhi : ∀ x ∈ d :: g :: G, x < w.heap.size := fun x hx => by
    rcases List.mem_cons.1 hx with rfl | hx
    · exact o.dhi
    · exact o.own.hi x hx
  have x0 := cS.cell 0 _ rfl
  have hdn := o.dne
  have HP : Hid (Sized z) := hp
  clear o
  go_enter Tryz.func57, Tryz.ntmps57
  go_wp2_with fail
  generalize w.alloc (.cells #[.slice (some ⟨g, 0, none⟩) z.length c1, .slice (some ⟨d, 0, none⟩) dk.length c2] 26) = w0 at *
  refine (markL_any lo g c1 z.length G z w0 o0.own hl (unhide HP)).mono ?_
  rintro e w1 ⟨m, rfl, m0, m1, y1, b1⟩
  have g1 : OnlyG (d :: g :: G) w w1 := (OnlyG.of B0).trans ((OnlyG.only y1).sub (fun x hx => .inl (List.mem_cons_of_mem _ hx)))
  have z1 := y1.size
  have hSn : w.heap.size ∉ g :: G := fun hm => by have := hhi _ (List.mem_cons_of_mem _ hm); omega
  have x1 : w1.cell? ⟨w.heap.size, 1, none⟩ = some (.slice (some ⟨d, 0, none⟩) dk.length c2) := by rw [y1.cell _ _ hSn]; exact cS.cell 1 _ rfl
  have c1' : CsAt w1 d (isC dk) := ⟨fun j v hv => by rw [y1.cell d _ hdn]; exact o0.ds.cells j v hv, fun j hj => by rw [y1.cell d _ hdn, y1.frozen d _ hdn]; exact o0.ds.free j hj⟩
  have B1 := (B0.mono hlo).trans b1
  have hdl := o0.dlo
  have hdh := hhi d (by simp)
  clear cS x0 o0 y1 b1 B0
  go_wp2_with fail
  refine (markIntS_any d c2 dk m w1 c1' hd m0 m1).mono ?_
  rintro e w2 ⟨rfl, _, y2, k2⟩
  have g2 : OnlyG (d :: g :: G) w w2 := g1.trans ((OnlyG.only y2).sub (fun x hx => by simp at hx; subst hx; exact .inl (by simp)))
  have B2 := B1.trans (k2.below (B := lo) (fun x hx => by simp at hx; subst hx; exact hdl) (by omega))
  clear x1 y2 k2 g1 B1
  have hm : 0 ≤ m + (dk.length : Nat) := by omega
  have hm2 : m + (dk.length : Nat) ≤ 6900000000000 := by omega
  go_wp2
  go_ret
  exact ⟨m + (dk.length : Nat), rfl, hm, hm2, g2, B2⟩

/-! An answer. -/
variable {w w' : World} {L : List Nat}
def InT (w : World) (lo hi : Nat) (x y : Value) (ok : Bool) (bs : List Bk) (dk : List Int) : Prop :=
  (ok = false ∧ x = .slice none 0 0 ∧ y = .slice none 0 0) ∨ (ok = true ∧ ∃ g G d c1 c2, x = .slice (some ⟨g, 0, none⟩) 4 c1 ∧ y = .slice (some ⟨d, 0, none⟩) 6 c2 ∧ OwnS w lo g G d bs dk ∧ (∀ z ∈ d :: g :: G, lo ≤ z ∧ z < hi) ∧ Fours bs ∧ bs.length = 4 ∧ dk.length = 6)
theorem own_og {lo g n : Nat} {G : List Nat} {bs : List Bk} (h : Own.Own w lo g G bs n) (ho : OnlyG L w w') (hL : ∀ x ∈ g :: G, x ∉ L) : Own.Own w' lo g G bs n := by
  have hlen := h.len
  have hg := hL g (by simp)
  have hgh := h.hi g (by simp)
  have hG : ∀ i (hi : i < bs.length), G[i]'(by omega) < w.heap.size ∧ G[i]'(by omega) ∉ L := fun i hi => ⟨h.hi _ (List.mem_cons_of_mem _ (List.getElem_mem _)), hL _ (List.mem_cons_of_mem _ (List.getElem_mem _))⟩
  refine ⟨h.len, h.nd, h.lo, fun x hx => Nat.lt_of_lt_of_le (h.hi x hx) ho.size, h.fit, fun j hj => ?_, fun i hi => ?_, fun i hi => ?_, fun i hi j v hv => ?_, fun i hi j hj => ?_, fun i hi a m c hc => h.caps i hi a m c (by rw [ho.cell _ _ hgh hg] at hc; exact hc)⟩
  · rw [ho.cell _ _ hgh hg, ho.frozen _ _ hgh hg]; exact h.room j hj
  · obtain ⟨c, hc⟩ := h.out i hi
    exact ⟨c, by rw [ho.cell _ _ hgh hg]; exact hc⟩
  · rw [ho.cell _ _ hgh hg]; exact h.worn i hi
  · rw [ho.cell _ _ (hG i hi).1 (hG i hi).2]; exact h.pgs i hi j v hv
  · rw [ho.cell _ _ (hG i hi).1 (hG i hi).2, ho.frozen _ _ (hG i hi).1 (hG i hi).2]; exact h.free i hi j hj
theorem InT.only {lo hi : Nat} {x y : Value} {ok : Bool} {bs : List Bk} {dk : List Int} (h : InT w lo hi x y ok bs dk) (ho : OnlyG L w w') (hL : ∀ z ∈ L, z < lo ∨ hi ≤ z) : InT w' lo hi x y ok bs dk := by
  rcases h with h | ⟨rfl, g, G, d, c1, c2, rfl, rfl, o, hr, hF, h4, h6⟩
  · exact .inl h
  · have hn : ∀ z ∈ d :: g :: G, z ∉ L := fun z hz hm => by have := hr z hz; have := hL z hm; omega
    have hd := hn d (by simp)
    refine .inr ⟨rfl, g, G, d, c1, c2, rfl, rfl, ⟨own_og o.own ho (fun z hz => hn z (List.mem_cons_of_mem _ hz)), ⟨fun j u hu => by rw [ho.cell d _ o.dhi hd]; exact o.ds.cells j u hu, fun j hj => by rw [ho.cell d _ o.dhi hd, ho.frozen d _ o.dhi hd]; exact o.ds.free j hj⟩, o.dlo, Nat.lt_of_lt_of_le o.dhi ho.size, o.dne⟩, hr, hF, h4, h6⟩
theorem InT.below {lo hi : Nat} {x y : Value} {ok : Bool} {bs : List Bk} {dk : List Int} (h : InT w lo hi x y ok bs dk) (hb : Below w.heap.size w w') : InT w' lo hi x y ok bs dk := h.only (L := []) (OnlyG.of hb) (fun z hz => by simp at hz)
theorem doD_len (dk : List Int) (x : Stp) (t : Bool) : (doD dk x t).length = dk.length := by unfold doD; (repeat' split) <;> simp
theorem toD_len : ∀ (l : List Stp) (dk : List Int), (toD dk l).length = dk.length := by
  intro l
  induction l with
  | nil => intro dk; rfl
  | cons x r ih => intro dk; show (toD (doD dk x false) r).length = _; rw [ih, doD_len]
theorem toK_len (dk : List Int) (l : List Stp) (cut : Int) (torn : Bool) : (toK dk l cut torn).length = dk.length := by
  unfold toK; split
  · rw [doD_len, toD_len]
  · rw [toD_len]
theorem InT.of {bs : List Bk} {dk : List Int} {l : List Stp} {cut : Int} {torn : Bool} {e : Ending} (h : TpPost w bs dk l cut torn e w') :
    ∃ x y, e = .returned (.tuple #[.agg #[x, y], .bool (toOk bs dk l cut)]) ∧ InT w' w.heap.size w'.heap.size x y (toOk bs dk l cut) (toB bs l cut torn) (toK dk l cut torn) ∧ Below w.heap.size w w' := by
  rcases h with ⟨h1, rfl, b⟩ | ⟨h1, g, G, d, c1, c2, rfl, o, b⟩
  · exact ⟨_, _, by rw [h1], .inl ⟨h1, rfl, rfl⟩, b⟩
  · have h2 := h1
    unfold toOk at h2
    simp only [Bool.and_eq_true] at h2
    obtain ⟨hok, h6⟩ := st_parts h2.1.1
    have hT := okB_toB bs l cut torn hok (fun x hx => stk_stp (all_at h2.1.2 x hx))
    refine ⟨_, _, by rw [h1], .inr ⟨h1, g, G, d, c1, c2, rfl, rfl, o, fun z hz => ?_, ok_fours hT, ok_len hT, by rw [toK_len]; exact h6⟩, b⟩
    rcases List.mem_cons.1 hz with rfl | hz
    · exact ⟨o.dlo, o.dhi⟩
    · exact ⟨o.own.lo z hz, o.own.hi z hz⟩
theorem InT.form {lo hi : Nat} {x y : Value} {ok : Bool} {bs : List Bk} {dk : List Int} (h : InT w lo hi x y ok bs dk) : ∃ a1 n1 c1 a2 n2 c2, x = .slice a1 n1 c1 ∧ y = .slice a2 n2 c2 := by
  rcases h with ⟨_, rfl, rfl⟩ | ⟨_, g, G, d, c1, c2, rfl, rfl, _⟩
  · exact ⟨_, _, _, _, _, _, rfl, rfl⟩
  · exact ⟨_, _, _, _, _, _, rfl, rfl⟩
theorem eqT {l1 h1 l2 h2 : Nat} {x1 y1 x2 y2 : Value} {ok : Bool} {bs : List Bk} {dk : List Int} (g1 : InT w l1 h1 x1 y1 ok bs dk) (g2 : InT w l2 h2 x2 y2 ok bs dk) :
    Calls Tryz.prog 56 #[.agg #[x1, y1], .agg #[x2, y2]] w fun e w' => e = .returned (.bool true) ∧ Below w.heap.size w w' := by
  rcases g1 with ⟨h, rfl, rfl⟩ | ⟨h, g, G, d, c1, c2, rfl, rfl, o, _, hF, h4, h6⟩
  · rcases g2 with ⟨_, rfl, rfl⟩ | ⟨h', _⟩
    · exact eqStore_any none none none none 0 0 0 0 [] [] w ⟨.inl rfl, .inl rfl⟩ ⟨.inl rfl, .inl rfl⟩ (by simp) (by simp) (by simp)
    · rw [h] at h'; cases h'
  · rcases g2 with ⟨h', _⟩ | ⟨_, g', G', d', c1', c2', rfl, rfl, o', _, _, _, _⟩
    · rw [h] at h'; cases h'
    · have := eqStore_any (some ⟨g, 0, none⟩) (some ⟨g', 0, none⟩) (some ⟨d, 0, none⟩) (some ⟨d', 0, none⟩) c1 c1' c2 c2' bs dk w o.sat o'.sat (by omega) (fun b hb => by have := hF b hb; omega) (by omega)
      rw [h4, h6] at this
      exact this
def mT (ok : Bool) : Int := if ok then 91 else 1
def MtPost (w : World) (lo hi : Nat) (x y : Value) (ok : Bool) (e : Ending) (w' : World) : Prop := e = .returned (.int .i64 (mT ok)) ∧ InT w' lo hi x y ok (mkBs 4 1) (mkI 6 85) ∧ ∃ M : List Nat, OnlyG M w w' ∧ Below lo w w' ∧ ∀ z ∈ M, lo ≤ z ∧ z < hi
theorem markT {lo hi : Nat} {x y : Value} {ok : Bool} {bs : List Bk} {dk : List Int} (hlo : lo ≤ w.heap.size) (h : InT w lo hi x y ok bs dk) :
    Calls Tryz.prog 57 #[.agg #[x, y], .int .i64 1] w fun e w' => MtPost w lo hi x y ok e w' := by
  rcases h with ⟨rfl, rfl, rfl⟩ | ⟨rfl, g, G, d, c1, c2, rfl, rfl, o, hr, hF, h4, h6⟩
  · refine (mark0_any w).mono ?_
    rintro e w' ⟨rfl, b⟩
    exact ⟨rfl, .inl ⟨rfl, rfl, rfl⟩, [], OnlyG.of b, b.mono hlo, fun z hz => by simp at hz⟩
  · refine (markN_any lo g d c1 c2 G w hlo bs dk hF h4 h6 o).mono ?_
    rintro e w' ⟨rfl, o', y', b⟩
    exact ⟨rfl, .inr ⟨rfl, g, G, d, c1, c2, rfl, rfl, o', hr, (fun b hb => by simp [mkBs] at hb; obtain ⟨i, _, rfl⟩ := hb; exact mkPs_len _ _), by rw [mkBs_len], by rw [mkI_len]⟩, _, y', b, hr⟩
theorem heldT {lo hi : Nat} {x y : Value} {ok : Bool} (h : InT w lo hi x y ok (mkBs 4 1) (mkI 6 85)) :
    Calls Tryz.prog 62 #[.agg #[x, y], .int .i64 1] w fun e w' => e = .returned (.int .i64 (mT ok)) ∧ Below w.heap.size w w' := by
  rcases h with ⟨rfl, rfl, rfl⟩ | ⟨rfl, g, G, d, c1, c2, rfl, rfl, o, _⟩
  · exact held0_any w
  · exact heldN_any lo g d c1 c2 G w o
/-- Steps in a row of their own, marked from any number on. -/
theorem markSs {g cap : Nat} {l : List Stp} (k : Int) (hk0 : 0 ≤ k) (hk1 : k ≤ 7000000000000) (hl : l.length ≤ 1048576) (h : CsAt w g (stsC l)) :
    Calls Tryz.prog 58 #[.slice (some ⟨g, 0, none⟩) l.length cap, .int .i64 k] w fun e w' => ∃ m : Int, e = .returned (.int .i64 m) ∧ 0 ≤ m ∧ OnlyG [g] w w' ∧ Kept [g] w w' := by
  have ht : w.there g 0 (l.length * 8) := by have := h.free; rwa [len_stsC] at this
  refine (markStep7 g cap l.length k w hk0 hk1 hl ht).mono ?_
  rintro e w' ⟨rfl, rfl⟩
  have kk := keptC w g 0 (stsC (mkSs l.length k))
  exact ⟨_, rfl, by omega, OnlyG.kept kk, kk⟩
end Go.Proofs.YtogfelpdgeionaaGreat.MkN
