/-
  Texts that belong together, one behind the other: PrA, Nr, Ps.
-/
import Derived.Test.YtbiokmojjneleaaGreatRcA
import Derived.Test.YtbiokmojjneleaaGreatHbL
import Derived.Test.YtbiokmojjneleaaGreatRbU
import Derived.Test.YtbiokmojjneleaaGreatHbW
import Derived.Test.YtbiokmojjneleaaGreatRbI

/-
  What a new store is behind a list of events: the program's answer and the specification's.
-/
namespace Go.Proofs.YtbiokmojjneleaaGreat.PrA
open TwA Go.ChangeShapes Go.WideShapes Go.ChangeAt Go.RowKit Go.Shelf OkA Big Fl ImplB ImplF ImplS _root_.Go.Proofs.YtbiokmojjneleaaGreat.Own ImplT ImplU SpecA SpecB SpecC SpecD SpecW SpecF SpecG SpecH Ok2 Pl FindP ImplL Kp StA StB StC StD StE StF StG SpS SpT RmA WrA FlA DoA ToA PlA LawU LawS LawV LawI LawT LawW SpU TwB TwC QuB QuE SpV MkN Ct AlX PaA PaB DpX Cu PdA PdB PdC PdD EvL EvS SnA
set_option linter.unusedVariables false
set_option linter.unusedSimpArgs false
attribute [local go_sem ↓] Go.wp_at_zero Go.wp_at_succ

def runP (l : List Ev) : List Bk × List Int := l.foldl (fun p x => doP p.1 p.2 x) (zFs, zDk6)
theorem fold_st : ∀ (l : List Ev) (p : List Bk × List Int), stB p.1 p.2 = true → stB (l.foldl (fun p x => doP p.1 p.2 x) p).1 (l.foldl (fun p x => doP p.1 p.2 x) p).2 = true
  | [], _, h => h
  | x :: r, p, h => fold_st r _ (doP_st h x)
theorem runP_st (l : List Ev) : stB (runP l).1 (runP l).2 = true := fold_st l _ (by decide)
theorem runP_take (l : List Ev) (k : Nat) (hk : k < l.length) : runP (l.take (k + 1)) = doP (runP (l.take k)).1 (runP (l.take k)).2 l[k] := by
  unfold runP; rw [List.take_succ_eq_append_getElem hk, List.foldl_append]; rfl
def PrPost (w : World) (L : List Ev) (e : Ending) (w' : World) : Prop := ∃ f1 n1 k1 f2 n2 k2, e = .returned (.tuple #[.agg #[.slice f1 n1 k1, .slice f2 n2 k2], .bool (decide (L.length ≤ 60))]) ∧ InT w' w.heap.size w'.heap.size (.slice f1 n1 k1) (.slice f2 n2 k2) (decide (L.length ≤ 60)) (runP L).1 (runP L).2 ∧ Below w.heap.size w w'
theorem St.keptL {w w' : World} {lo g d : Nat} {G : List Nat} {bs : List Bk} {dk : List Int} {M : List Nat} (h : St w lo g d G bs dk) (k : Kept M w w') (hn : ∀ z ∈ d :: g :: G, z ∉ M) : St w' lo g d G bs dk :=
  ⟨own_kept h.own k (fun z hz => hn z (List.mem_cons_of_mem _ hz)), csAt_kept h.disk k h.dhi (hn d (by simp)), h.dlo, Nat.lt_of_lt_of_le h.dhi k.size, h.dn, h.six⟩
theorem int_form {w : World} {lo hi : Nat} {X Y : Value} {B : List Bk} {K : List Int} (h : InT w lo hi X Y true B K) : ∃ g d c1 c2, X = .slice (some ⟨g, 0, none⟩) 4 c1 ∧ Y = .slice (some ⟨d, 0, none⟩) 6 c2 ∧ B.length = 4 ∧ K.length = 6 ∧ SAt w (some ⟨g, 0, none⟩) B (some ⟨d, 0, none⟩) K := by
  rcases h with ⟨q, _⟩ | ⟨_, g, G, d, c1, c2, e1, e2, o, _, _, h4, h6⟩
  · cases q
  · exact ⟨g, d, c1, c2, e1, e2, h4, h6, o.sat⟩

set_option maxRecDepth 100000 in
set_option maxHeartbeats 4000000 in
theorem implRun_any (a : Option Addr) (cap : Nat) (L : List Ev) (w : World) (hL : EsAt w a L) (hok : ∀ x ∈ L, EvOk x) (hlen : L.length ≤ 1048576) :
    Calls Tryz.prog 36 #[.slice a L.length cap] w fun e w' => PrPost w L e w' := by
  have B1 : Below w.heap.size w (w.alloc (.cells #[.slice none 0 0, .slice none 0 0] 26)) := (Below.refl _ _).alloc (Nat.le_refl _) _
  have cR := store_box w (.slice none 0 0) (.slice none 0 0)
  have s0 : ((w.alloc (.cells #[.slice none 0 0, .slice none 0 0] 26))).heap.size = w.heap.size + 1 := by simp
  have HE := hide hL
  have HSS := hide (show (Tryz.prog.info? 26).map (·.size) = some 2 by kernel_rfl)
  have HSE := hide (show (Tryz.prog.info? 42).map (·.size) = some 5 by kernel_rfl)
  clear hL
  go_enter Tryz.func36, Tryz.ntmps36
  by_cases h60 : 60 < (L.length : Int)
  · have d0 := cR.cell 0 _ rfl
    have d1 := cR.cell 1 _ rfl
    have f0 := cR.frozen 0 (by simp)
    have f1' := cR.frozen 1 (by simp)
    have hdc : decide (L.length ≤ 60) = false := decide_eq_false (by omega)
    have HP : Hid (PrPost w L (.returned (.tuple #[.agg #[.slice none 0 0, .slice none 0 0], .bool false])) (w.alloc (.cells #[.slice none 0 0, .slice none 0 0] 26))) := ⟨_, _, _, _, _, _, by rw [hdc], .inl ⟨hdc, rfl, rfl⟩, B1⟩
    have p1 := cR.cells
    clear B1 cR hdc s0
    go_wp2
    exact bodyPost_ret (res_cell_tmp Tryz.results36 _ _ w.heap.size [.slice none 0 0, .slice none 0 0] _ rfl p1 Tryz.underlying26 rfl (by kernel_rfl)) rfl (unhide HP)
  have hdc := hide (show decide (L.length ≤ 60) = true from decide_eq_true (by omega))
  go_wp2_with fail
  generalize (w.alloc (.cells #[.slice none 0 0, .slice none 0 0] 26)) = w1 at *
  refine (implNew_any w1).mono ?_
  rintro e w2 ⟨g, G, d, c1, rfl, o2, b2⟩
  have B2 := B1.trans (b2.mono B1.size)
  have q2 := b2.size
  replace cR := cR.below b2 (by omega)
  clear B1 b2
  have bN : Below w2.heap.size w2 (w2.alloc (.cells #[.slice (some ⟨g, 0, none⟩) 4 c1, .slice (some ⟨d, 0, none⟩) 6 6] 26)) := (Below.refl _ _).alloc (Nat.le_refl _) _
  have cT := store_box w2 (.slice (some ⟨g, 0, none⟩) 4 c1) (.slice (some ⟨d, 0, none⟩) 6 6)
  have B3 := B2.trans (bN.mono B2.size)
  replace cR := cR.below bN (by omega)
  have s3 : (w2.alloc (.cells #[.slice (some ⟨g, 0, none⟩) 4 c1, .slice (some ⟨d, 0, none⟩) 6 6] 26)).heap.size = w2.heap.size + 1 := by simp
  have o3 := o2.below bN (Nat.le_refl _)
  have hr : ∀ z ∈ d :: g :: G, w1.heap.size ≤ z ∧ z < w2.heap.size := fun z hz => by
    rcases List.mem_cons.1 hz with rfl | hz
    · exact ⟨o2.dlo, o2.dhi⟩
    · exact ⟨o2.own.lo z hz, o2.own.hi z hz⟩
  clear B2 bN o2
  have I3 : InT (w2.alloc (.cells #[.slice (some ⟨g, 0, none⟩) 4 c1, .slice (some ⟨d, 0, none⟩) 6 6] 26)) w1.heap.size w2.heap.size (.slice (some ⟨g, 0, none⟩) 4 c1) (.slice (some ⟨d, 0, none⟩) 6 6) true zFs zDk6 := .inr ⟨rfl, g, G, d, c1, 6, rfl, rfl, o3, hr, fours_zf, rfl, rfl⟩
  go_upto_region 4 with fail
  generalize w2.alloc (.cells #[.slice (some ⟨g, 0, none⟩) 4 c1, .slice (some ⟨d, 0, none⟩) 6 6] 26) = w3 at *
  generalize w2.heap.size = TB at *
  clear hr o3
  go_wp2
  go_loopw [14] (fun i w' => ∃ k : Nat, k ≤ L.length ∧ i = .int .i64 k ∧ ∃ g d c1 c2 lo hi, CsAt w' TB [.slice (some ⟨g, 0, none⟩) 4 c1, .slice (some ⟨d, 0, none⟩) 6 c2] ∧ InT w' lo hi (.slice (some ⟨g, 0, none⟩) 4 c1) (.slice (some ⟨d, 0, none⟩) 6 c2) true (runP (L.take k)).1 (runP (L.take k)).2 ∧ CsAt w' w.heap.size [.slice none 0 0, .slice none 0 0] ∧ (w.heap.size + 1 ≤ lo ∧ hi ≤ w'.heap.size ∧ (TB < lo ∨ hi ≤ TB) ∧ w.heap.size + 1 ≤ TB ∧ TB < w'.heap.size) ∧ Below w.heap.size w w') (fun i _ => L.length - (intOf i).toNat)
  case atStart => exact ⟨0, by omega, rfl, g, d, c1, 6, _, _, cT, I3, cR, ⟨by omega, by omega, by omega, by omega, by omega⟩, B3⟩
  case round =>
    clear cT I3 cR B3
    obtain ⟨k, hk, rfl, g, d, c1, c2, lo, hi, hT, hI, hR, hsz, bw⟩ := hrel
    by_cases h0 : k = L.length
    · subst h0
      rw [List.take_of_length_le (Nat.le_refl _)] at hI
      have d0 := hR.cell 0 _ rfl
      have d1 := hR.cell 1 _ rfl
      have f0 := hR.frozen 0 (by simp)
      have f1' := hR.frozen 1 (by simp)
      have t0 := hT.cell 0 _ rfl
      have t1 := hT.cell 1 _ rfl
      have p1 := hR.put [.slice (some ⟨g, 0, none⟩) 4 c1, .slice (some ⟨d, 0, none⟩) 6 c2] rfl
      have kz := kept_cells wr w.heap.size 0 [.slice (some ⟨g, 0, none⟩) 4 c1, .slice (some ⟨d, 0, none⟩) 6 c2]
      have IZ := InT.mono (lo' := w.heap.size) (hi' := (wr.setCells w.heap.size 0 [.slice (some ⟨g, 0, none⟩) 4 c1, .slice (some ⟨d, 0, none⟩) 6 c2]).heap.size) (InT.only hI (OnlyG.kept kz) (fun z hz => .inl (by simp at hz; omega))) (by omega) (by rw [size_setCells]; omega)
      have BZ := below_setCells w.heap.size (Nat.le_refl _) [.slice (some ⟨g, 0, none⟩) 4 c1, .slice (some ⟨d, 0, none⟩) 6 c2] 0 _ bw
      have HP : Hid (PrPost w L (.returned (.tuple #[.agg #[.slice (some ⟨g, 0, none⟩) 4 c1, .slice (some ⟨d, 0, none⟩) 6 c2], .bool true])) (wr.setCells w.heap.size 0 [.slice (some ⟨g, 0, none⟩) 4 c1, .slice (some ⟨d, 0, none⟩) 6 c2])) := ⟨_, _, _, _, _, _, by rw [unhide hdc], by rw [unhide hdc]; exact IZ, BZ⟩
      clear IZ BZ hI kz hR hT bw
      go_wp2
      exact bodyPost_ret (res_cell_tmp Tryz.results36 _ _ w.heap.size [.slice (some ⟨g, 0, none⟩) 4 c1, .slice (some ⟨d, 0, none⟩) 6 c2] _ rfl p1.cells Tryz.underlying26 rfl (by kernel_rfl)) rfl (unhide HP)
    · have hlt : (k : Int) < (L.length : Int) := by omega
      have hkb : k < L.length := by omega
      have hlo : (0 : Int) ≤ (k : Int) := by omega
      obtain ⟨b, o, rfl, rX, lX⟩ := ((unhide HE).below bw).at k hkb
      obtain ⟨v0, v1, v2, v3, v4⟩ := evC_cells rX
      have hx := hok _ (List.getElem_mem hkb)
      have HT := hide (runP_take L k hkb)
      have hst := runP_st (L.take k)
      clear rX
      generalize L[k] = x at *
      generalize runP (L.take k) = P at *
      obtain ⟨P1, P2⟩ := P
      simp only at hI HT hst
      have bA : Below wr.heap.size wr (wr.alloc (.cells #[.int .i64 x.k, .int .i64 x.a, .int .i64 x.b, .int .i64 x.c, .bool x.t] 42)) := (Below.refl _ _).alloc (Nat.le_refl _) _
      have cE := CsAt.new wr [.int .i64 x.k, .int .i64 x.a, .int .i64 x.b, .int .i64 x.c, .bool x.t] 42
      have hT4 := hT.below bA (by omega)
      have hR4 := hR.below bA (by omega)
      have hI4 := InT.below hI bA
      have bw4 := bw.trans (bA.mono bw.size)
      have s4 : (wr.alloc (.cells #[.int .i64 x.k, .int .i64 x.a, .int .i64 x.b, .int .i64 x.c, .bool x.t] 42)).heap.size = wr.heap.size + 1 := by simp
      obtain ⟨g0, d0, c0, c0', e1, e2, h4, h6, hsat⟩ := int_form hI4
      cases e1
      cases e2
      have HD := implDo_any x hx (some ⟨g, 0, none⟩) c1 P1 (some ⟨d, 0, none⟩) c2 P2 _ hsat (by omega) (by omega)
      rw [h4, h6] at HD
      replace HD := hide HD
      clear hT hR hI bA bw hsat h4 h6
      have t0 := hT4.cell 0 _ rfl
      have t1 := hT4.cell 1 _ rfl
      have e0 := cE.cell 0 _ rfl
      have e1 := cE.cell 1 _ rfl
      have e2 := cE.cell 2 _ rfl
      have e3 := cE.cell 3 _ rfl
      have e4 := cE.cell 4 _ rfl
      go_wp2_with fail
      generalize wr.alloc (.cells #[.int .i64 x.k, .int .i64 x.a, .int .i64 x.b, .int .i64 x.c, .bool x.t] 42) = w4 at *
      refine (unhide HD).mono ?_
      rintro e w5 ⟨X, Y, rfl, I5, b5⟩
      rw [hst] at I5
      obtain ⟨g', d', c1', c2', rfl, rfl, _, _, _⟩ := int_form I5
      have q5 := b5.size
      have hT5 := hT4.below b5 (by omega)
      have hR5 := hR4.below b5 (by omega)
      have bw5 := bw4.trans (b5.mono bw4.size)
      clear t0 t1 e0 e1 e2 e3 e4 cE hT4 hR4 hI4 bw4 b5 HD v0 v1 v2 v3 v4
      have t0 := hT5.cell 0 _ rfl
      have t1 := hT5.cell 1 _ rfl
      have f0 := hT5.frozen 0 (by simp)
      have f1' := hT5.frozen 1 (by simp)
      have p1 := hT5.put [.slice (some ⟨g', 0, none⟩) 4 c1', .slice (some ⟨d', 0, none⟩) 6 c2'] rfl
      have kz := kept_cells w5 TB 0 [.slice (some ⟨g', 0, none⟩) 4 c1', .slice (some ⟨d', 0, none⟩) 6 c2']
      have I6 := InT.only I5 (OnlyG.kept kz) (fun z hz => .inl (by simp at hz; omega))
      have hR6 := csAt_kept hR5 kz (by omega) (by simp; omega)
      have bw6 := below_setCells TB (show w.heap.size ≤ TB by omega) [.slice (some ⟨g', 0, none⟩) 4 c1', .slice (some ⟨d', 0, none⟩) 6 c2'] 0 _ bw5
      have s6 : (w5.setCells TB 0 [.slice (some ⟨g', 0, none⟩) 4 c1', .slice (some ⟨d', 0, none⟩) 6 c2']).heap.size = w5.heap.size := size_setCells _ _ _ _
      clear hT5 hR5 bw5 kz I5
      go_wp2
      go_roundw
      case rel =>
        refine ⟨k + 1, by omega, by first | rfl | go_num, g', d', c1', c2', w4.heap.size, w5.heap.size, p1, ?_, hR6, ⟨?_, ?_, ?_, by omega, ?_⟩, bw6⟩
        · rw [unhide HT]; exact I6
        · omega
        · show _ ≤ (w5.setCells TB 0 [.slice (some ⟨g', 0, none⟩) 4 c1', .slice (some ⟨d', 0, none⟩) 6 c2']).heap.size; rw [s6]; exact Nat.le_refl _
        · left; omega
        · show TB < (w5.setCells TB 0 [.slice (some ⟨g', 0, none⟩) 4 c1', .slice (some ⟨d', 0, none⟩) 6 c2']).heap.size; rw [s6]; omega
      case measure => simp [intOf]; omega

set_option maxRecDepth 100000 in
set_option maxHeartbeats 4000000 in
theorem specRun_any (a : Option Addr) (cap : Nat) (L : List Ev) (w : World) (hL : EsAt w a L) (hlen : L.length ≤ 1048576) :
    Calls Tryz.prog 37 #[.slice a L.length cap] w fun e w' => PrPost w L e w' := by
  have B1 : Below w.heap.size w (w.alloc (.cells #[.slice none 0 0, .slice none 0 0] 26)) := (Below.refl _ _).alloc (Nat.le_refl _) _
  have cR := store_box w (.slice none 0 0) (.slice none 0 0)
  have s0 : ((w.alloc (.cells #[.slice none 0 0, .slice none 0 0] 26))).heap.size = w.heap.size + 1 := by simp
  have HE := hide hL
  have HSS := hide (show (Tryz.prog.info? 26).map (·.size) = some 2 by kernel_rfl)
  have HSE := hide (show (Tryz.prog.info? 42).map (·.size) = some 5 by kernel_rfl)
  clear hL
  go_enter Tryz.func37, Tryz.ntmps37
  by_cases h60 : 60 < (L.length : Int)
  · have d0 := cR.cell 0 _ rfl
    have d1 := cR.cell 1 _ rfl
    have f0 := cR.frozen 0 (by simp)
    have f1' := cR.frozen 1 (by simp)
    have hdc : decide (L.length ≤ 60) = false := decide_eq_false (by omega)
    have HP : Hid (PrPost w L (.returned (.tuple #[.agg #[.slice none 0 0, .slice none 0 0], .bool false])) (w.alloc (.cells #[.slice none 0 0, .slice none 0 0] 26))) := ⟨_, _, _, _, _, _, by rw [hdc], .inl ⟨hdc, rfl, rfl⟩, B1⟩
    have p1 := cR.cells
    clear B1 cR hdc s0
    go_wp2
    exact bodyPost_ret (res_cell_tmp Tryz.results37 _ _ w.heap.size [.slice none 0 0, .slice none 0 0] _ rfl p1 Tryz.underlying26 rfl (by kernel_rfl)) rfl (unhide HP)
  have hdc := hide (show decide (L.length ≤ 60) = true from decide_eq_true (by omega))
  go_wp2_with fail
  generalize (w.alloc (.cells #[.slice none 0 0, .slice none 0 0] 26)) = w1 at *
  refine (specNew_any w1).mono ?_
  rintro e w2 ⟨g, G, d, c1, rfl, o2, b2⟩
  have B2 := B1.trans (b2.mono B1.size)
  have q2 := b2.size
  replace cR := cR.below b2 (by omega)
  clear B1 b2
  have bN : Below w2.heap.size w2 (w2.alloc (.cells #[.slice (some ⟨g, 0, none⟩) 4 c1, .slice (some ⟨d, 0, none⟩) 6 6] 26)) := (Below.refl _ _).alloc (Nat.le_refl _) _
  have cT := store_box w2 (.slice (some ⟨g, 0, none⟩) 4 c1) (.slice (some ⟨d, 0, none⟩) 6 6)
  have B3 := B2.trans (bN.mono B2.size)
  replace cR := cR.below bN (by omega)
  have s3 : (w2.alloc (.cells #[.slice (some ⟨g, 0, none⟩) 4 c1, .slice (some ⟨d, 0, none⟩) 6 6] 26)).heap.size = w2.heap.size + 1 := by simp
  have o3 := o2.below bN (Nat.le_refl _)
  have hr : ∀ z ∈ d :: g :: G, w1.heap.size ≤ z ∧ z < w2.heap.size := fun z hz => by
    rcases List.mem_cons.1 hz with rfl | hz
    · exact ⟨o2.dlo, o2.dhi⟩
    · exact ⟨o2.own.lo z hz, o2.own.hi z hz⟩
  clear B2 bN o2
  have hS3 : Hid (St (w2.alloc (.cells #[.slice (some ⟨g, 0, none⟩) 4 c1, .slice (some ⟨d, 0, none⟩) 6 6] 26)) w1.heap.size g d G zFs zDk6) := ⟨o3.own, o3.ds, o3.dlo, o3.dhi, o3.dne, rfl⟩
  go_upto_region 4 with fail
  generalize w2.alloc (.cells #[.slice (some ⟨g, 0, none⟩) 4 c1, .slice (some ⟨d, 0, none⟩) 6 6] 26) = w3 at *
  generalize w2.heap.size = TB at *
  clear o3
  go_wp2
  go_loopw [5] (fun i w' => ∃ k : Nat, k ≤ L.length ∧ i = .int .i64 k ∧ CsAt w' TB [.slice (some ⟨g, 0, none⟩) 4 c1, .slice (some ⟨d, 0, none⟩) 6 6] ∧ Hid (St w' w1.heap.size g d G (runP (L.take k)).1 (runP (L.take k)).2) ∧ CsAt w' w.heap.size [.slice none 0 0, .slice none 0 0] ∧ TB < w'.heap.size ∧ Below w.heap.size w w') (fun i _ => L.length - (intOf i).toNat)
  case atStart => exact ⟨0, by omega, rfl, cT, hS3, cR, by omega, B3⟩
  case round =>
    clear cT hS3 cR B3
    obtain ⟨k, hk, rfl, hT, hS, hR, hsz, bw⟩ := hrel
    by_cases h0 : k = L.length
    · subst h0
      rw [List.take_of_length_le (Nat.le_refl _)] at hS
      have hI : InT wr w1.heap.size TB (.slice (some ⟨g, 0, none⟩) 4 c1) (.slice (some ⟨d, 0, none⟩) 6 6) true (runP L).1 (runP L).2 := by
        obtain ⟨hok, h6⟩ := st_parts (runP_st L)
        have S := unhide hS
        exact .inr ⟨rfl, g, G, d, c1, 6, rfl, rfl, ⟨by rw [ok_len hok]; exact S.own, S.disk, S.dlo, S.dhi, S.dn⟩, hr, ok_fours hok, ok_len hok, h6⟩
      have d0 := hR.cell 0 _ rfl
      have d1 := hR.cell 1 _ rfl
      have f0 := hR.frozen 0 (by simp)
      have f1' := hR.frozen 1 (by simp)
      have t0 := hT.cell 0 _ rfl
      have t1 := hT.cell 1 _ rfl
      have p1 := hR.put [.slice (some ⟨g, 0, none⟩) 4 c1, .slice (some ⟨d, 0, none⟩) 6 6] rfl
      have kz := kept_cells wr w.heap.size 0 [.slice (some ⟨g, 0, none⟩) 4 c1, .slice (some ⟨d, 0, none⟩) 6 6]
      have IZ := InT.mono (lo' := w.heap.size) (hi' := (wr.setCells w.heap.size 0 [.slice (some ⟨g, 0, none⟩) 4 c1, .slice (some ⟨d, 0, none⟩) 6 6]).heap.size) (InT.only hI (OnlyG.kept kz) (fun z hz => .inl (by simp at hz; omega))) (by omega) (by rw [size_setCells]; omega)
      have BZ := below_setCells w.heap.size (Nat.le_refl _) [.slice (some ⟨g, 0, none⟩) 4 c1, .slice (some ⟨d, 0, none⟩) 6 6] 0 _ bw
      have HP : Hid (PrPost w L (.returned (.tuple #[.agg #[.slice (some ⟨g, 0, none⟩) 4 c1, .slice (some ⟨d, 0, none⟩) 6 6], .bool true])) (wr.setCells w.heap.size 0 [.slice (some ⟨g, 0, none⟩) 4 c1, .slice (some ⟨d, 0, none⟩) 6 6])) := ⟨_, _, _, _, _, _, by rw [unhide hdc], by rw [unhide hdc]; exact IZ, BZ⟩
      clear IZ BZ hI hS kz hR hT bw
      go_wp2
      exact bodyPost_ret (res_cell_tmp Tryz.results37 _ _ w.heap.size [.slice (some ⟨g, 0, none⟩) 4 c1, .slice (some ⟨d, 0, none⟩) 6 6] _ rfl p1.cells Tryz.underlying26 rfl (by kernel_rfl)) rfl (unhide HP)
    · have hlt : (k : Int) < (L.length : Int) := by omega
      have hkb : k < L.length := by omega
      have hlo : (0 : Int) ≤ (k : Int) := by omega
      obtain ⟨b, o, rfl, rX, lX⟩ := (unhide HE).at k hkb
      have rW := rangeAt_below rX bw lX
      have HT := hide (runP_take L k hkb)
      have hst := runP_st (L.take k)
      clear rX
      generalize L[k] = x at *
      generalize runP (L.take k) = P at *
      obtain ⟨P1, P2⟩ := P
      simp only at hS HT hst
      have hok := (st_parts hst).1
      have hd : ∀ z ∈ d :: g :: G, w.heap.size + 1 ≤ z ∧ z < TB := fun z hz => by have := hr z hz; omega
      have hT7 : TB ∉ d :: g :: G := fun hm => by have := hd _ hm; omega
      have HHX := hide (fun w' (h : St w' w1.heap.size g d G P1 P2) => happen_x w1.heap.size g d c1 6 G P1 P2 x.k x.a x.b x.c x.t w' h hok)
      have hSd : Hid (St wr.drew w1.heap.size g d G P1 P2) := St.keptL (unhide hS) (M := []) (Kept.refl [] wr).drew (by simp)
      clear hS hst hok
      go_upto_region 7 with fail
      have cT := hT
      clear hT
      refine wp_region_noPanic ?_
      refine wp_region_held_drew (S := fun w' => Kept (TB :: d :: g :: G) wr w') (by kernel_rfl) (Kept.refl _ _).drew (fun hHeld => ?_)
      replace cT := OrdL.ckept cT (L := []) (Kept.refl [] wr).drew (CsAt.lt cT (by first | (simp; done) | assumption)) (by simp)
      generalize wr.drew = y0 at *
      have z0 := hHeld.size
      refine takeL 1 (.slice (some ⟨b, o, none⟩) L.length cap) rfl (by kernel_rfl) (by kernel_rfl) (by kernel_rfl) (fun _ _ _ h => h) (Or.inl ⟨rfl, fun _ _ => rfl⟩) hHeld ?_
      try simp only [Act.put, List.setIfInBounds_toArray, List.set_cons_zero, List.set_cons_succ]
      refine takeL 2 (.int .i64 (k : Int)) rfl (by kernel_rfl) (by kernel_rfl) (by kernel_rfl) (fun _ _ _ h => h) (Or.inl ⟨rfl, fun _ _ => rfl⟩) hHeld ?_
      try simp only [Act.put, List.setIfInBounds_toArray, List.set_cons_zero, List.set_cons_succ]
      refine takeL 3 (.pointer (some ⟨b, o + k * 5, none⟩)) rfl (by kernel_rfl) (by kernel_rfl) (by kernel_rfl) (fun _ _ _ h => h) (Or.inl ⟨rfl, fun w9 hSw => by go_simp⟩) hHeld ?_
      try simp only [Act.put, List.setIfInBounds_toArray, List.set_cons_zero, List.set_cons_succ]
      refine takeL 4 (.agg #[.int .i64 x.k, .int .i64 x.a, .int .i64 x.b, .int .i64 x.c, .bool x.t]) rfl (by kernel_rfl) (by kernel_rfl) (by kernel_rfl) (fun _ _ _ h => h) (yieldsIf_load_mid rfl 42 _ rfl b (o + k * 5) rfl [.int .i64 x.k, .int .i64 x.a, .int .i64 x.b, .int .i64 x.c, .bool x.t] _ (fun _ h j v hv => (h.cell (b := b) (o + k * 5 + j) (Nat.lt_of_lt_of_le lX bw.size) (by intro hm; rcases List.mem_cons.1 hm with q | q; omega; have := hd _ q; omega)).trans (rW j v hv)) Tryz.underlying42 rfl (unhide HSE)) hHeld ?_
      try simp only [Act.put, List.setIfInBounds_toArray, List.set_cons_zero, List.set_cons_succ]
      refine oneL 0 rfl (by kernel_rfl) rfl (fun K hK => ?_)
      have x0 := cT.cell 0 _ rfl
      have x1 := cT.cell 1 _ rfl
      go_simp
      refine hK.out _ _ hHeld (fun hHeld => ?_)
      clear hK K x0 x1
      try simp only [Act.put, List.setIfInBounds_toArray, List.set_cons_zero, List.set_cons_succ]
      refine oneL 5 rfl (by kernel_rfl) rfl (fun K hK => ?_)
      go_simp
      refine (unhide HHX _ (unhide hSd)).mono ?_
      rintro e y1 ⟨rfl, hokP, hS5, k5⟩
      go_wp2_with fail
      have hS6 := hide hS5
      replace cT := csAt_kept cT k5 (CsAt.lt cT (by simp)) hT7
      refine hK.out _ _ (hHeld.then k5 (fun z hz => .inl (List.mem_cons_of_mem _ hz))) (fun hHeld => ?_)
      clear hK K
      try simp only [Act.put, List.setIfInBounds_toArray, List.set_cons_zero, List.set_cons_succ]
      have z1 := k5.size
      clear hS5 k5 hokP hSd
      refine oneL 6 rfl (by kernel_rfl) rfl (fun K hK => ?_)
      have pcT := cT.put [.slice (some ⟨g, 0, none⟩) 4 c1, .slice (some ⟨d, 0, none⟩) 6 6] rfl
      have kz := OrdL.kcells y1 TB 0 [.slice (some ⟨g, 0, none⟩) 4 c1, .slice (some ⟨d, 0, none⟩) 6 6]
      refine wp_store_mid 26 _ _ rfl TB 0 [.slice (some ⟨g, 0, none⟩) 4 c1, .slice (some ⟨d, 0, none⟩) 6 6].toArray rfl rfl cT.free (unhide HSS) (by kernel_rfl) ?_
      refine hK.out _ _ (hHeld.then kz (fun y hy => by simp at hy; subst hy; first | (left; simp; done) | (right; omega))) (fun hHeld => ?_)
      clear hK K
      try simp only [Act.put, List.setIfInBounds_toArray, List.set_cons_zero, List.set_cons_succ]
      replace hS6 := hide (St.keptL (unhide hS6) kz (fun z hz hm => by simp at hm; subst hm; exact hT7 hz))
      clear cT kz
      generalize y1.setCells TB 0 [.slice (some ⟨g, 0, none⟩) 4 c1, .slice (some ⟨d, 0, none⟩) 6 6] = y2 at *
      have cT := pcT
      clear pcT
      refine wpAnyH_done (by kernel_rfl) ?_ _
      refine NoPanic.normal ?_
      have kw := hHeld
      have bw2 := bw.trans ((hHeld.below (B := w.heap.size) (fun z hz => by rcases List.mem_cons.1 hz with q | q; omega; have := hd _ q; omega) (by have := bw.size; omega)).mono (Nat.le_refl _))
      have hR2 := csAt_kept hR hHeld (by have := bw.size; omega) (fun hm => by rcases List.mem_cons.1 hm with q | q; omega; have := hd _ q; omega)
      have hsz2 := Nat.lt_of_lt_of_le hsz hHeld.size
      clear kw hHeld bw hR hsz HHX rW
      go_wp2
      go_roundw
      case rel => exact ⟨k + 1, by omega, by first | rfl | go_num, cT, by rw [unhide HT]; exact hS6, hR2, hsz2, bw2⟩
      case measure => simp [intOf]; omega
end Go.Proofs.YtbiokmojjneleaaGreat.PrA

/-
  Plain facts of plays: what is read behind a play, what the slow disk has, which numbers there are.
-/
namespace Go.Proofs.YtbiokmojjneleaaGreat.Nr
open Go.ChangeShapes Go.WideShapes Go.ChangeAt Go.RowKit Go.Shelf OkA Big Fl ImplB ImplF ImplS ImplT ImplU SpecA SpecB SpecC SpecD SpecW SpecX SpecF SpecG SpecH Ok2 FindP FindO ImplL FindN FindL Pl Kp StA StB StC StD StE StF StG SpS SpT Sv NwA PlB PlC PlD SpecO ImplQ FindQ Py Pz RmA WrA FlA DoA ToA PlA SpU TwC QuB QuE Ct AlX PaA DpX Cu PrA Nf
set_option linter.unusedVariables false
set_option linter.unusedSimpArgs false
variable {bs : List Bk} {dk : List Int} {L : List Ev}

theorem run_push (l : List Ev) (x : Ev) : runP (l ++ [x]) = doP (runP l).1 (runP l).2 x := by unfold runP; rw [List.foldl_append]; rfl
theorem run_ind {P : List Ev → List Bk × List Int → Prop} (L : List Ev) (h0 : P [] (zFs, zDk6)) (hs : ∀ l x, (∀ y ∈ l, y ∈ L) → x ∈ L → l.length + 1 ≤ L.length → P l (runP l) → stB (runP l).1 (runP l).2 = true → P (l ++ [x]) (doP (runP l).1 (runP l).2 x)) : P L (runP L) := by
  have h : ∀ k, k ≤ L.length → P (L.take k) (runP (L.take k)) := by
    intro k
    induction k with
    | zero => intro _; exact h0
    | succ k ih =>
      intro hk
      have e := List.take_succ_eq_append_getElem (l := L) (i := k) (by omega)
      rw [e, run_push]
      exact hs _ _ (fun y hy => List.mem_of_mem_take hy) (List.getElem_mem _) (by rw [List.length_take]; omega) (ih (by omega)) (runP_st _)
  have := h L.length (Nat.le_refl _)
  rwa [List.take_of_length_le (Nat.le_refl _)] at this
/-- How great the numbers are. -/
theorem run_gr (L : List Ev) : mostB (runP L).1 ≤ 6 * (L.length : Int) ∧ ph (runP L).1 ≤ 6 * (L.length : Int) := by
  refine run_ind (P := fun l p => mostB p.1 ≤ 6 * (l.length : Int) ∧ ph p.1 ≤ 6 * (l.length : Int)) L ⟨by decide, by decide⟩ fun l x _ _ _ h hs => ?_
  have hg := doP_gr hs x
  have h1 := hg.1
  have h2 := hg.2
  rw [List.length_append]
  simp only [List.length_cons, List.length_nil]
  constructor <;> omega
def cntN (L : List Ev) : Int := L.foldl (fun n x => if x.k = 4 then n + 1 + 6 else n + 1) 1
theorem run_most (L : List Ev) : mostB (runP L).1 + 1 ≤ cntN L := by
  refine run_ind (P := fun l p => mostB p.1 + 1 ≤ cntN l) L (by decide) fun l x _ _ _ h hs => ?_
  have h1 := (doP_grN hs x).1
  have e : cntN (l ++ [x]) = if x.k = 4 then cntN l + 1 + 6 else cntN l + 1 := by unfold cntN; rw [List.foldl_append]; rfl
  rw [e]
  split at h1
  · rename_i q; rw [if_pos q]; omega
  · rename_i q; rw [if_neg q]; omega
theorem cntN_take (L : List Ev) (j : Nat) (hj : j < L.length) : cntN (L.take (j + 1)) = if L[j].k = 4 then cntN (L.take j) + 1 + 6 else cntN (L.take j) + 1 := by
  rw [List.take_succ_eq_append_getElem hj]
  unfold cntN
  rw [List.foldl_append]; rfl
theorem cntN_le (L : List Ev) (j : Nat) (hj : j ≤ L.length) : 1 ≤ cntN (L.take j) ∧ cntN (L.take j) ≤ 1 + 7 * (j : Int) := by
  induction j with
  | zero => rw [List.take_zero]; exact ⟨by decide, by decide⟩
  | succ j ih =>
    have := ih (by omega)
    rw [cntN_take L j (by omega)]
    split <;> omega
theorem rd_new (a : Int) (h1 : 1 ≤ a) (h6 : a ≤ 6) : readI zFs zDk6 a = 0 := by
  obtain ⟨j, hj, rfl⟩ : ∃ j : Nat, j < 6 ∧ a = (j : Int) + 1 := ⟨(a - 1).toNat, by omega, by omega⟩
  have : j = 0 ∨ j = 1 ∨ j = 2 ∨ j = 3 ∨ j = 4 ∨ j = 5 := by omega
  rcases this with rfl | rfl | rfl | rfl | rfl | rfl <;> decide
/-- What stands there was put, or is 0. -/
def WasPut (L : List Ev) (a v : Int) : Prop := v = 0 ∨ ∃ x ∈ L, x.k = 1 ∧ x.a = a ∧ x.b = v
theorem WasPut.more {l : List Ev} {a v : Int} (h : WasPut l a v) (x : Ev) : WasPut (l ++ [x]) a v := by
  rcases h with h | ⟨y, hy, h⟩
  · exact .inl h
  · exact .inr ⟨y, List.mem_append_left _ hy, h⟩
theorem run_put (L : List Ev) : ∀ j : Nat, j < 6 → WasPut L ((j : Int) + 1) (readI (runP L).1 (runP L).2 ((j : Int) + 1)) ∧ WasPut L ((j : Int) + 1) ((runP L).2.getD j 0) := by
  refine run_ind (P := fun l p => ∀ j : Nat, j < 6 → WasPut l ((j : Int) + 1) (readI p.1 p.2 ((j : Int) + 1)) ∧ WasPut l ((j : Int) + 1) (p.2.getD j 0)) L (fun j hj => ⟨.inl (rd_new _ (by omega) (by omega)), .inl ?_⟩) fun l x _ _ _ h hs j hj => ?_
  · have : j = 0 ∨ j = 1 ∨ j = 2 ∨ j = 3 ∨ j = 4 ∨ j = 5 := by omega
    rcases this with rfl | rfl | rfl | rfl | rfl | rfl <;> rfl
  obtain ⟨h1, h2⟩ := h j hj
  have hr := (doP_rd hs x).2 ((j : Int) + 1) (by omega) (by omega)
  have hd := doP_dk hs x j hj
  refine ⟨?_, ?_⟩
  · rw [hr]
    split
    · rename_i q; exact .inr ⟨x, by simp, q.1, q.2.1, rfl⟩
    · exact h1.more x
  · rcases hd with e | e
    · rw [e]; exact h2.more x
    · rw [e]; exact h1.more x
/-- A play without a put that falls behind its first step: what is read is what was put last. -/
def EvA (x : Ev) : Prop := x.k = 1 → 1 ≤ x.a ∧ x.a ≤ 6 ∧ 0 ≤ x.b ∧ x.b ≤ 9 ∧ 0 ≤ x.c
def pv (a : Int) (v : Int) (x : Ev) : Int := if x.k = 1 ∧ x.a = a ∧ 6 ≤ x.c then x.b else v
def lastV (L : List Ev) (a : Int) : Int := L.foldl (pv a) 0
theorem lastV_push (l : List Ev) (x : Ev) (a : Int) : lastV (l ++ [x]) a = pv a (lastV l a) x := by unfold lastV; rw [List.foldl_append]; rfl
theorem put_no (hs : stB bs dk = true) (x : Ev) (hk : x.k = 1) (hc : x.c = 0) (a : Int) (a1 : 1 ≤ a) (a6 : a ≤ 6) : readI (doP bs dk x).1 (doP bs dk x).2 a = readI bs dk a := by
  rw [(doP_rd hs x).2 a a1 a6, if_neg]
  rintro ⟨_, _, hne, hl⟩
  have : 0 < (evP bs dk x).length := List.length_pos_iff.2 hne
  omega
theorem run_last (L : List Ev) (hl : L.length ≤ 90) (hA : ∀ x ∈ L, EvA x) (hC : ∀ x ∈ L, x.k = 1 → x.c = 0 ∨ 6 ≤ x.c) : ∀ a : Int, 1 ≤ a → a ≤ 6 → readI (runP L).1 (runP L).2 a = lastV L a := by
  refine run_ind (P := fun l p => ∀ a : Int, 1 ≤ a → a ≤ 6 → readI p.1 p.2 a = lastV l a) L (fun a h1 h6 => rd_new a h1 h6) fun l x _ hx hlen h hs a h1 h6 => ?_
  rw [lastV_push]
  have hg := run_gr l
  unfold pv
  by_cases hk : x.k = 1
  · have hA := hA x hx hk
    rcases hC x hx hk with hc | hc
    · rw [put_no hs x hk hc a h1 h6, if_neg (by omega), h a h1 h6]
    · rw [put_rd hs (by omega) (by omega) x hk hA.1 hA.2.1 hA.2.2.1 hA.2.2.2.1 hc a h1 h6, h a h1 h6]
      by_cases q : x.a = a
      · rw [if_pos q, if_pos ⟨hk, q, hc⟩]
      · rw [if_neg q, if_neg (fun t => q t.2.1)]
  · rw [(doP_rd hs x).2 a h1 h6, if_neg (fun t => hk t.1), if_neg (fun t => hk t.1), h a h1 h6]
/-- What may be read, wherever it falls. -/
def canS (a : Int) (c : List Int) (x : Ev) : List Int := if x.k ≠ 1 ∨ x.a ≠ a ∨ x.c < 0 then c else (if 6 ≤ x.c then [] else c) ++ [x.b]
def canL (a : Int) (L : List Ev) : List Int := L.foldl (canS a) [0]
theorem canL_push (l : List Ev) (x : Ev) (a : Int) : canL a (l ++ [x]) = canS a (canL a l) x := by unfold canL; rw [List.foldl_append]; rfl
theorem run_can (L : List Ev) (hl : L.length ≤ 90) (hA : ∀ x ∈ L, EvA x) : ∀ a : Int, 1 ≤ a → a ≤ 6 → readI (runP L).1 (runP L).2 a ∈ canL a L := by
  refine run_ind (P := fun l p => ∀ a : Int, 1 ≤ a → a ≤ 6 → readI p.1 p.2 a ∈ canL a l) L (fun a h1 h6 => by rw [rd_new a h1 h6]; simp [canL]) fun l x _ hx hlen h hs a h1 h6 => ?_
  rw [canL_push]
  have hg := run_gr l
  have ih := h a h1 h6
  unfold canS
  by_cases hq : x.k ≠ 1 ∨ x.a ≠ a ∨ x.c < 0
  · rw [if_pos hq, (doP_rd hs x).2 a h1 h6, if_neg]
    · exact ih
    · rintro ⟨q1, q2, q3, q4⟩
      rcases hq with q | q | q
      · exact q q1
      · exact q q2
      · omega
  · rw [if_neg hq]
    have hk : x.k = 1 := Classical.byContradiction fun q => hq (.inl q)
    have hxa : x.a = a := Classical.byContradiction fun q => hq (.inr (.inl q))
    have hA := hA x hx hk
    by_cases hc : 6 ≤ x.c
    · rw [put_rd hs (by omega) (by omega) x hk hA.1 hA.2.1 hA.2.2.1 hA.2.2.2.1 hc a h1 h6, if_pos hxa, if_pos hc]; simp
    · rw [if_neg hc, (doP_rd hs x).2 a h1 h6]
      split
      · simp
      · exact List.mem_append_left _ ih
theorem run_len (L : List Ev) : (runP L).1.length = 4 ∧ (runP L).2.length = 6 := ⟨ok_len (st_parts (runP_st L)).1, st_len (runP_st L)⟩
/-- Whether a value was put there. -/
def anyPut (a : Int) (l : List Ev) : Bool := l.any fun x => x.k == 1 && x.a == a
theorem anyPut_take (a : Int) (L : List Ev) (j : Nat) (hj : j < L.length) : anyPut a (L.take (j + 1)) = (anyPut a (L.take j) || (L[j].k == 1 && L[j].a == a)) := by
  rw [List.take_succ_eq_append_getElem hj]
  unfold anyPut
  rw [List.any_append]; simp
theorem put_0 {a v : Int} (h : WasPut L a v) (hn : anyPut a L = false) : v = 0 := by
  rcases h with h | ⟨x, hx, h1, h2, _⟩
  · exact h
  · unfold anyPut at hn
    rw [List.any_eq_false] at hn
    exact absurd (by rw [h1, h2]; simp) (hn x hx)
def anyVal (a v : Int) (l : List Ev) : Bool := v == 0 || l.any fun x => x.k == 1 && (x.a == a && x.b == v)
theorem anyVal_take (a v : Int) (L : List Ev) (j : Nat) (hj : j < L.length) : anyVal a v (L.take (j + 1)) = (anyVal a v (L.take j) || (L[j].k == 1 && (L[j].a == a && L[j].b == v))) := by
  rw [List.take_succ_eq_append_getElem hj]
  unfold anyVal
  rw [List.any_append, Bool.or_assoc]; simp
theorem anyVal_0 (a v : Int) : anyVal a v [] = (v == 0) := by unfold anyVal; simp
theorem put_val {a v : Int} (h : WasPut L a v) : anyVal a v L = true := by
  unfold anyVal
  rw [Bool.or_eq_true, beq_iff_eq, List.any_eq_true]
  rcases h with h | ⟨x, hx, h1, h2, h3⟩
  · exact .inl h
  · exact .inr ⟨x, hx, by rw [h1, h2, h3]; simp⟩
/-- All is told behind a play. -/
def eAll : Ev := ⟨4, 0, 0, 0, false⟩
theorem all_facts (hs : stB bs dk = true) (hp : ph bs < 780) (hm : mostB bs < 580) : Nf.Clean (doP bs dk eAll).1 ∧ alS (doP bs dk eAll).1 (doP bs dk eAll).2 = (doP bs dk eAll).2 ∧ alS bs dk = (doP bs dk eAll).2 ∧ doP (doP bs dk eAll).1 (doP bs dk eAll).2 eAll = doP bs dk eAll := by
  have e : doP bs dk eAll = allA bs dk 6 := doP_all eAll rfl
  have hc : Nf.Clean (allA bs dk 6).1 := fun b h1 h6 => all_clean hs hp hm 6 (by omega) b h1 h6
  have hsm := allA_sm hs 6
  have ha := clean_al hsm.1 hc
  rw [e]
  refine ⟨hc, ha, ?_, ?_⟩
  · rw [← Sm.al hsm hs]; exact ha
  · rw [doP_all eAll rfl, allA_none hc 6 (by omega)]
theorem run_all (L : List Ev) (hl : L.length ≤ 60) : Nf.Clean (doP (runP L).1 (runP L).2 eAll).1 ∧ alS (doP (runP L).1 (runP L).2 eAll).1 (doP (runP L).1 (runP L).2 eAll).2 = (doP (runP L).1 (runP L).2 eAll).2 ∧ alS (runP L).1 (runP L).2 = (doP (runP L).1 (runP L).2 eAll).2 ∧ doP (doP (runP L).1 (runP L).2 eAll).1 (doP (runP L).1 (runP L).2 eAll).2 eAll = doP (runP L).1 (runP L).2 eAll := by
  have hg := run_gr L
  exact all_facts (runP_st L) (by omega) (by omega)
theorem stays (hs : stB bs dk = true) (x : Ev) (a : Int) (a1 : 1 ≤ a) (a6 : a ≤ 6) (h : ¬ (x.k = 1 ∧ x.a = a)) : readI (doP bs dk x).1 (doP bs dk x).2 a = readI bs dk a := by
  rw [(doP_rd hs x).2 a a1 a6, if_neg (fun q => h ⟨q.1, q.2.1⟩)]
end Go.Proofs.YtbiokmojjneleaaGreat.Nr

/-
  Steps done, as the laws ask it; what is read of a store behind them.
-/
namespace Go.Proofs.YtbiokmojjneleaaGreat.Ps
open Go.ChangeShapes Go.WideShapes Go.ChangeAt Go.RowKit Go.Shelf OkA Big Fl ImplB ImplF ImplS ImplT ImplU SpecA SpecB SpecC SpecD SpecW SpecX SpecF SpecG SpecH Ok2 FindP FindO ImplL FindN FindL Pl Kp StA StB StC StD StE StF StG SpS SpT Sv NwA PlB PlC PlD SpecO ImplQ FindQ Py Pz RmA WrA FlA DoA ToA PlA LawU LawS SpU TwC QuB QuE MkN Ct Cu Pw
set_option linter.unusedVariables false
set_option linter.unusedSimpArgs false
variable {fa da : Option Addr} {fc dc : Nat} {bs : List Bk} {dk : List Int} {L T : List Stp} {wp : Bool} {kb : Nat} {rk ra rv : Int}

def ToP (w : World) (B : List Bk) (K : List Int) (e : Ending) (w' : World) : Prop := ∃ fa fc da dc, e = .returned (.tuple #[.agg #[.slice fa B.length fc, .slice da K.length dc], .bool true]) ∧ SAt w' fa B da K ∧ Below w.heap.size w w'
theorem iTo {sa : Option Addr} {sc : Nat} (cut : Int) (torn : Bool) (w : World) (h : SAt w fa bs da dk) (h4 : bs.length ≤ 4) (h6 : dk.length ≤ 6) (hl : StAt w sa L) (hL : L.length ≤ 1048576) (h0 : 0 ≤ cut) (h1 : cut ≤ 1048576) (hok : toOk bs dk L cut = true) :
    Calls Tryz.prog 22 #[.agg #[.slice fa bs.length fc, .slice da dk.length dc], .slice sa L.length sc, .int .i64 cut, .bool torn] w fun e w' => ToP w (toB bs L cut torn) (toK dk L cut torn) e w' := by
  refine (implTo_any fa fc bs da dc dk sa sc L cut (by omega) (by omega) torn w h (by
    rcases hl with q | ⟨g, rfl, _, hr⟩
    · exact .inl q
    · exact .inr ⟨g, 0, rfl, hr⟩) (by omega) (by omega) hL).mono fun e w' hT => ?_
  obtain ⟨x, y, rfl, I, b⟩ := InT.of hT
  rw [hok] at I ⊢
  rcases I with ⟨q, _⟩ | ⟨_, g, G, d, c1, c2, rfl, rfl, o, _, _, e4, e6⟩
  · cases q
  · exact ⟨_, c1, _, c2, by rw [e4, e6], o.sat, b⟩
def ToI (w : World) (B : List Bk) (K : List Int) (e : Ending) (w' : World) : Prop := ∃ fa fc da dc, e = .returned (.tuple #[.agg #[.slice fa B.length fc, .slice da K.length dc], .bool true]) ∧ InT w' w.heap.size w'.heap.size (.slice fa B.length fc) (.slice da K.length dc) true B K ∧ Below w.heap.size w w'
theorem iToI {sa : Option Addr} {sc : Nat} (cut : Int) (torn : Bool) (w : World) (h : SAt w fa bs da dk) (h4 : bs.length ≤ 4) (h6 : dk.length ≤ 6) (hl : StAt w sa L) (hL : L.length ≤ 1048576) (h0 : 0 ≤ cut) (h1 : cut ≤ 1048576) (hok : toOk bs dk L cut = true) :
    Calls Tryz.prog 22 #[.agg #[.slice fa bs.length fc, .slice da dk.length dc], .slice sa L.length sc, .int .i64 cut, .bool torn] w fun e w' => ToI w (toB bs L cut torn) (toK dk L cut torn) e w' := by
  refine (implTo_any fa fc bs da dc dk sa sc L cut (by omega) (by omega) torn w h (by
    rcases hl with q | ⟨g, rfl, _, hr⟩
    · exact .inl q
    · exact .inr ⟨g, 0, rfl, hr⟩) (by omega) (by omega) hL).mono fun e w' hT => ?_
  obtain ⟨x, y, rfl, I, b⟩ := InT.of hT
  rw [hok] at I ⊢
  rcases I with ⟨q, _⟩ | ⟨_, g, G, d, c1, c2, rfl, rfl, o, hr, hF, e4, e6⟩
  · cases q
  · exact ⟨some ⟨g, 0, none⟩, c1, some ⟨d, 0, none⟩, c2, by rw [e4, e6], .inr ⟨rfl, g, G, d, c1, c2, by rw [e4], by rw [e6], o, hr, hF, e4, e6⟩, b⟩
theorem sat_of {w : World} {lo hi n m : Nat} {B : List Bk} {K : List Int} (h : InT w lo hi (.slice fa n fc) (.slice da m dc) true B K) : SAt w fa B da K := by
  rcases h with ⟨q, _⟩ | ⟨_, g, G, d, c1, c2, e1, e2, o, _⟩
  · cases q
  · cases e1; cases e2; exact o.sat
theorem al_en {B : List Bk} {K : List Int} (h : En bs dk rk ra rv B K) (hs : stB bs dk = true) (h1 : 1 ≤ ra) (h6 : ra ≤ 6) : alS B K = (alS bs dk).set (ra - 1).toNat rv := by
  unfold alS
  rw [if_pos h.st, if_pos hs]
  refine List.ext_getElem (by simp [alK]) fun j q1 q2 => ?_
  have q3 : j < 6 := by simpa [alK] using q1
  have hr := h.rd ((j : Int) + 1) (by omega) (by omega)
  by_cases e : ra = (j : Int) + 1
  · subst e
    rw [if_pos rfl] at hr
    have : ((j : Int) + 1 - 1).toNat = j := by omega
    simp only [this]
    rw [List.getElem_set_self]
    simpa [alK] using hr
  · rw [if_neg e] at hr
    rw [List.getElem_set_ne (by omega)]
    simpa [alK] using hr
theorem fl_en {B : List Bk} {K : List Int} (h : En bs dk rk ra rv B K) (h1 : 1 ≤ ra) (h6 : ra ≤ 6) (h0 : 1 ≤ mostB bs + 1) : flR B ra = ⟨rk, mostB bs + 1, ra, rv⟩ ∧ flO B ra = true := by
  have hok := (st_parts h.st).1
  have hin : inB ra 1 6 = true := by simp [inB]; omega
  unfold flO flR lastO
  rw [hok, hin, h.last]
  simp
  omega
theorem toB_len4 {cut : Int} {torn : Bool} (h : stB (toB bs L cut torn) (toK dk L cut torn) = true) : (toB bs L cut torn).length ≤ 4 ∧ (toK dk L cut torn).length ≤ 6 := by
  obtain ⟨q1, q2⟩ := st_parts h
  exact ⟨by have := ok_len q1; omega, by omega⟩
/-! What a put leaves. -/
structure PutE (bs : List Bk) (dk : List Int) (a v : Int) : Prop where
  hs : stB bs dk = true
  num : 1 ≤ a ∧ a ≤ 6 ∧ 0 ≤ v ∧ v ≤ 9
  tk : ∀ cut : Int, 0 ≤ cut → toOk bs dk (putS bs dk a v) cut = true
  full : En bs dk 1 a v (toB bs (putS bs dk a v) ((putS bs dk a v).length : Int) false) (toK dk (putS bs dk a v) ((putS bs dk a v).length : Int) false)
  part : ∀ (cut : Int) (torn : Bool), 0 ≤ cut → cut < (putS bs dk a v).length → Sm bs dk (toB bs (putS bs dk a v) cut torn) (toK dk (putS bs dk a v) cut torn)
theorem put_e {a v : Int} (hne : putS bs dk a v ≠ []) : PutE bs dk a v := by
  obtain ⟨T, wp, kb, P⟩ := put_plan hne
  have hn := P.num
  exact ⟨P.st, by omega, fun c h0 => P.tk c h0, P.done _ (Int.le_refl _) false, fun c t h0 h1 => P.cut c h0 h1 t⟩
/-! What a flush leaves. -/
theorem Pn.done_or (P : Pn bs dk L T wp kb rk ra rv) (e : rv = readI bs dk ra) (cut : Int) (h0 : 0 ≤ cut) (torn : Bool) : Sm bs dk (toB bs L cut torn) (toK dk L cut torn) := by
  by_cases h : cut < L.length
  · exact P.cut cut h0 h torn
  · exact En.sm (P.done cut (by omega) torn) e
structure FlushE (bs : List Bk) (dk : List Int) (a : Int) : Prop where
  hs : stB bs dk = true
  num : 1 ≤ a ∧ a ≤ 6
  dirty : dirtyB bs a = true
  tk : ∀ cut : Int, 0 ≤ cut → toOk bs dk (flushS bs dk a) cut = true
  full : En bs dk 2 a (readI bs dk a) (toB bs (flushS bs dk a) ((flushS bs dk a).length : Int) false) (toK dk (flushS bs dk a) ((flushS bs dk a).length : Int) false)
  disk : (toK dk (flushS bs dk a) ((flushS bs dk a).length : Int) false).getD (a - 1).toNat 0 = readI bs dk a
  part : ∀ (cut : Int) (torn : Bool), 0 ≤ cut → Sm bs dk (toB bs (flushS bs dk a) cut torn) (toK dk (flushS bs dk a) cut torn)
theorem flush_e {a : Int} (hne : flushS bs dk a ≠ []) : FlushE bs dk a := by
  obtain ⟨hd, hin, T, wp, kb, P⟩ := flush_plan hne
  exact ⟨P.st, hin, hd, fun c h0 => P.tk c h0, P.done _ (Int.le_refl _) false, by rw [(to_done (bs := bs) (Int.le_refl _) false).2, P.full.2]; exact P.dkv rfl, fun c t h0 => Pn.done_or P rfl c h0 t⟩
theorem en_clean {B : List Bk} {K : List Int} (h : En bs dk 2 ra rv B K) : dirtyB B ra = false := by unfold dirtyB; rw [h.last]; simp
theorem flush_no {a : Int} (hd : dirtyB bs a = false) : flushS bs dk a = [] := by
  unfold flushS flushP
  rw [hd]
  split <;> simp
structure FillE (bs : List Bk) (dk : List Int) (a : Int) : Prop where
  hs : stB bs dk = true
  num : 1 ≤ a ∧ a ≤ 6
  none : lastO bs a = false
  tk : ∀ cut : Int, 0 ≤ cut → toOk bs dk (fillS bs dk a) cut = true
  full : En bs dk 2 a (readI bs dk a) (toB bs (fillS bs dk a) ((fillS bs dk a).length : Int) false) (toK dk (fillS bs dk a) ((fillS bs dk a).length : Int) false)
  part : ∀ (cut : Int) (torn : Bool), 0 ≤ cut → Sm bs dk (toB bs (fillS bs dk a) cut torn) (toK dk (fillS bs dk a) cut torn)
theorem fill_e {a : Int} (hne : fillS bs dk a ≠ []) : FillE bs dk a := by
  obtain ⟨hd, hin, T, wp, kb, P⟩ := fill_plan hne
  exact ⟨P.st, hin, hd, fun c h0 => P.tk c h0, P.done _ (Int.le_refl _) false, fun c t h0 => Pn.done_or P rfl c h0 t⟩
end Go.Proofs.YtbiokmojjneleaaGreat.Ps
