/-
  What a new store is behind a list of events: the program's answer and the specification's.
-/
import Derived.Test.YtogfelpdgeionaaGreatHcB
import Derived.Test.YtogfelpdgeionaaGreatHcC
import Derived.Test.YtogfelpdgeionaaGreatHbL
namespace Go.Proofs.YtogfelpdgeionaaGreat.PrA
open TwA Go.ChangeShapes Go.WideShapes Go.ChangeAt Go.RowKit Go.Shelf OkA Big Fl ImplB ImplF ImplS _root_.Go.Proofs.YtogfelpdgeionaaGreat.Own ImplT ImplU SpecA SpecB SpecC SpecD SpecW SpecF SpecG SpecH Ok2 Pl FindP ImplL Kp StA StB StC StD StE StF StG SpS SpT RmA WrA FlA DoA ToA PlA LawU LawS LawV LawI LawT LawW SpU TwB TwC QuB QuE SpV MkN Ct AlX PaA PaB DpX Cu PdA PdB PdC PdD EvL EvS SnA
set_option linter.unusedVariables false
set_option linter.unusedSimpArgs false
attribute [local go_sem ↓] Go.wp_at_zero Go.wp_at_succ

def runP (l : List Ev) : List Bk × List Int := l.foldl (fun p x => doP p.1 p.2 x) (zFs, zDk6)
theorem fold_st : ∀ (l : List Ev) (p : List Bk × List Int), stB p.1 p.2 = true → stB (l.foldl (fun p x => doP p.1 p.2 x) p).1 (l.foldl (fun p x => doP p.1 p.2 x) p).2 = true
  | [], _, h => h
  | x :: r, p, h => fold_st r _ (doP_st h x)
theorem runP_st (l : List Ev) : stB (runP l).1 (runP l).2 = true := fold_st l _ (by decide)
theorem runP_take (l : List Ev) (k : Nat) (hk : k < l.length) : runP (l.take (k + 1)) = doP (runP (l.take k)).1 (runP (l.take k)).2 l[k] := by
  unfold runP; rw [List.take_succ_eq_append_getElem hk, List.foldl_append]; rfl
def PrPost (w : World) (L : List Ev) (e : Ending) (w' : World) : Prop := ∃ f1 n1 k1 f2 n2 k2, e = .returned (.tuple #[.agg #[.slice f1 n1 k1, .slice f2 n2 k2], .bool (decide (L.length ≤ 60))]) ∧ InT w' w.heap.size w'.heap.size (.slice f1 n1 k1) (.slice f2 n2 k2) (decide (L.length ≤ 60)) (runP L).1 (runP L).2 ∧ Below w.heap.size w w'
theorem St.keptL {w w' : World} {lo g d : Nat} {G : List Nat} {bs : List Bk} {dk : List Int} {M : List Nat} (h : St w lo g d G bs dk) (k : Kept M w w') (hn : ∀ z ∈ d :: g :: G, z ∉ M) : St w' lo g d G bs dk :=
  ⟨own_kept h.own k (fun z hz => hn z (List.mem_cons_of_mem _ hz)), csAt_kept h.disk k h.dhi (hn d (by simp)), h.dlo, Nat.lt_of_lt_of_le h.dhi k.size, h.dn, h.six⟩
theorem int_form {w : World} {lo hi : Nat} {X Y : Value} {B : List Bk} {K : List Int} (h : InT w lo hi X Y true B K) : ∃ g d c1 c2, X = .slice (some ⟨g, 0, none⟩) 4 c1 ∧ Y = .slice (some ⟨d, 0, none⟩) 6 c2 ∧ B.length = 4 ∧ K.length = 6 ∧ SAt w (some ⟨g, 0, none⟩) B (some ⟨d, 0, none⟩) K := by
  rcases h with ⟨q, _⟩ | ⟨_, g, G, d, c1, c2, e1, e2, o, _, _, h4, h6⟩
  · cases q
  · exact ⟨g, d, c1, c2, e1, e2, h4, h6, o.sat⟩

set_option maxRecDepth 100000 in
set_option maxHeartbeats 4000000 in
theorem implRun_any (a : Option Addr) (cap : Nat) (L : List Ev) (w : World) (hL : EsAt w a L) (hok : ∀ x ∈ L, EvOk x) (hlen : L.length ≤ 1048576) :
    Calls Tryz.prog 66 #[.slice a L.length cap] w fun e w' => PrPost w L e w' := by
  have B1 : Below w.heap.size w (w.alloc (.cells #[.slice none 0 0, .slice none 0 0] 26)) := (Below.refl _ _).alloc (Nat.le_refl _) _
  have cR := store_box w (.slice none 0 0) (.slice none 0 0)
  have s0 : ((w.alloc (.cells #[.slice none 0 0, .slice none 0 0] 26))).heap.size = w.heap.size + 1 := by simp
  have HE := hide hL
  have HSS := hide (show (Tryz.prog.info? 26).map (·.size) = some 2 by kernel_rfl)
  have HSE := hide (show (Tryz.prog.info? 62).map (·.size) = some 5 by kernel_rfl)
  clear hL
  go_enter Tryz.func66, Tryz.ntmps66
  by_cases h60 : 60 < (L.length : Int)
  · have d0 := cR.cell 0 _ rfl
    have d1 := cR.cell 1 _ rfl
    have f0 := cR.frozen 0 (by simp)
    have f1' := cR.frozen 1 (by simp)
    have hdc : decide (L.length ≤ 60) = false := decide_eq_false (by omega)
    have HP : Hid (PrPost w L (.returned (.tuple #[.agg #[.slice none 0 0, .slice none 0 0], .bool false])) (w.alloc (.cells #[.slice none 0 0, .slice none 0 0] 26))) := ⟨_, _, _, _, _, _, by rw [hdc], .inl ⟨hdc, rfl, rfl⟩, B1⟩
    have p1 := cR.cells
    clear B1 cR hdc s0
    go_wp2
    exact bodyPost_ret (res_cell_tmp Tryz.results66 _ _ w.heap.size [.slice none 0 0, .slice none 0 0] _ rfl p1 Tryz.underlying26 rfl (by kernel_rfl)) rfl (unhide HP)
  have hdc := hide (show decide (L.length ≤ 60) = true from decide_eq_true (by omega))
  go_wp2_with fail
  generalize (w.alloc (.cells #[.slice none 0 0, .slice none 0 0] 26)) = w1 at *
  refine (implNew_any w1).mono ?_
  rintro e w2 ⟨g, G, d, c1, rfl, o2, b2⟩
  have B2 := B1.trans (b2.mono B1.size)
  have q2 := b2.size
  replace cR := cR.below b2 (by omega)
  clear B1 b2
  have bN : Below w2.heap.size w2 (w2.alloc (.cells #[.slice (some ⟨g, 0, none⟩) 4 c1, .slice (some ⟨d, 0, none⟩) 6 6] 26)) := (Below.refl _ _).alloc (Nat.le_refl _) _
  have cT := store_box w2 (.slice (some ⟨g, 0, none⟩) 4 c1) (.slice (some ⟨d, 0, none⟩) 6 6)
  have B3 := B2.trans (bN.mono B2.size)
  replace cR := cR.below bN (by omega)
  have s3 : (w2.alloc (.cells #[.slice (some ⟨g, 0, none⟩) 4 c1, .slice (some ⟨d, 0, none⟩) 6 6] 26)).heap.size = w2.heap.size + 1 := by simp
  have o3 := o2.below bN (Nat.le_refl _)
  have hr : ∀ z ∈ d :: g :: G, w1.heap.size ≤ z ∧ z < w2.heap.size := fun z hz => by
    rcases List.mem_cons.1 hz with rfl | hz
    · exact ⟨o2.dlo, o2.dhi⟩
    · exact ⟨o2.own.lo z hz, o2.own.hi z hz⟩
  clear B2 bN o2
  have I3 : InT (w2.alloc (.cells #[.slice (some ⟨g, 0, none⟩) 4 c1, .slice (some ⟨d, 0, none⟩) 6 6] 26)) w1.heap.size w2.heap.size (.slice (some ⟨g, 0, none⟩) 4 c1) (.slice (some ⟨d, 0, none⟩) 6 6) true zFs zDk6 := .inr ⟨rfl, g, G, d, c1, 6, rfl, rfl, o3, hr, fours_zf, rfl, rfl⟩
  go_upto_region 4 with fail
  generalize w2.alloc (.cells #[.slice (some ⟨g, 0, none⟩) 4 c1, .slice (some ⟨d, 0, none⟩) 6 6] 26) = w3 at *
  generalize w2.heap.size = TB at *
  clear hr o3
  go_wp2
  go_loopw [14] (fun i w' => ∃ k : Nat, k ≤ L.length ∧ i = .int .i64 k ∧ ∃ g d c1 c2 lo hi, CsAt w' TB [.slice (some ⟨g, 0, none⟩) 4 c1, .slice (some ⟨d, 0, none⟩) 6 c2] ∧ InT w' lo hi (.slice (some ⟨g, 0, none⟩) 4 c1) (.slice (some ⟨d, 0, none⟩) 6 c2) true (runP (L.take k)).1 (runP (L.take k)).2 ∧ CsAt w' w.heap.size [.slice none 0 0, .slice none 0 0] ∧ (w.heap.size + 1 ≤ lo ∧ hi ≤ w'.heap.size ∧ (TB < lo ∨ hi ≤ TB) ∧ w.heap.size + 1 ≤ TB ∧ TB < w'.heap.size) ∧ Below w.heap.size w w') (fun i _ => L.length - (intOf i).toNat)
  case atStart => exact ⟨0, by omega, rfl, g, d, c1, 6, _, _, cT, I3, cR, ⟨by omega, by omega, by omega, by omega, by omega⟩, B3⟩
  case round =>
    clear cT I3 cR B3
    obtain ⟨k, hk, rfl, g, d, c1, c2, lo, hi, hT, hI, hR, hsz, bw⟩ := hrel
    by_cases h0 : k = L.length
    · subst h0
      rw [List.take_of_length_le (Nat.le_refl _)] at hI
      have d0 := hR.cell 0 _ rfl
      have d1 := hR.cell 1 _ rfl
      have f0 := hR.frozen 0 (by simp)
      have f1' := hR.frozen 1 (by simp)
      have t0 := hT.cell 0 _ rfl
      have t1 := hT.cell 1 _ rfl
      have p1 := hR.put [.slice (some ⟨g, 0, none⟩) 4 c1, .slice (some ⟨d, 0, none⟩) 6 c2] rfl
      have kz := kept_cells wr w.heap.size 0 [.slice (some ⟨g, 0, none⟩) 4 c1, .slice (some ⟨d, 0, none⟩) 6 c2]
      have IZ := InT.mono (lo' := w.heap.size) (hi' := (wr.setCells w.heap.size 0 [.slice (some ⟨g, 0, none⟩) 4 c1, .slice (some ⟨d, 0, none⟩) 6 c2]).heap.size) (InT.only hI (OnlyG.kept kz) (fun z hz => .inl (by simp at hz; omega))) (by omega) (by rw [size_setCells]; omega)
      have BZ := below_setCells w.heap.size (Nat.le_refl _) [.slice (some ⟨g, 0, none⟩) 4 c1, .slice (some ⟨d, 0, none⟩) 6 c2] 0 _ bw
      have HP : Hid (PrPost w L (.returned (.tuple #[.agg #[.slice (some ⟨g, 0, none⟩) 4 c1, .slice (some ⟨d, 0, none⟩) 6 c2], .bool true])) (wr.setCells w.heap.size 0 [.slice (some ⟨g, 0, none⟩) 4 c1, .slice (some ⟨d, 0, none⟩) 6 c2])) := ⟨_, _, _, _, _, _, by rw [unhide hdc], by rw [unhide hdc]; exact IZ, BZ⟩
      clear IZ BZ hI kz hR hT bw
      go_wp2
      exact bodyPost_ret (res_cell_tmp Tryz.results66 _ _ w.heap.size [.slice (some ⟨g, 0, none⟩) 4 c1, .slice (some ⟨d, 0, none⟩) 6 c2] _ rfl p1.cells Tryz.underlying26 rfl (by kernel_rfl)) rfl (unhide HP)
    · have hlt : (k : Int) < (L.length : Int) := by omega
      have hkb : k < L.length := by omega
      have hlo : (0 : Int) ≤ (k : Int) := by omega
      obtain ⟨b, o, rfl, rX, lX⟩ := ((unhide HE).below bw).at k hkb
      obtain ⟨v0, v1, v2, v3, v4⟩ := evC_cells rX
      have hx := hok _ (List.getElem_mem hkb)
      have HT := hide (runP_take L k hkb)
      have hst := runP_st (L.take k)
      clear rX
      generalize L[k] = x at *
      generalize runP (L.take k) = P at *
      obtain ⟨P1, P2⟩ := P
      simp only at hI HT hst
      have bA : Below wr.heap.size wr (wr.alloc (.cells #[.int .i64 x.k, .int .i64 x.a, .int .i64 x.b, .int .i64 x.c, .bool x.t] 62)) := (Below.refl _ _).alloc (Nat.le_refl _) _
      have cE := CsAt.new wr [.int .i64 x.k, .int .i64 x.a, .int .i64 x.b, .int .i64 x.c, .bool x.t] 62
      have hT4 := hT.below bA (by omega)
      have hR4 := hR.below bA (by omega)
      have hI4 := InT.below hI bA
      have bw4 := bw.trans (bA.mono bw.size)
      have s4 : (wr.alloc (.cells #[.int .i64 x.k, .int .i64 x.a, .int .i64 x.b, .int .i64 x.c, .bool x.t] 62)).heap.size = wr.heap.size + 1 := by simp
      obtain ⟨g0, d0, c0, c0', e1, e2, h4, h6, hsat⟩ := int_form hI4
      cases e1
      cases e2
      have HD := implDo_any x hx (some ⟨g, 0, none⟩) c1 P1 (some ⟨d, 0, none⟩) c2 P2 _ hsat (by omega) (by omega)
      rw [h4, h6] at HD
      replace HD := hide HD
      clear hT hR hI bA bw hsat h4 h6
      have t0 := hT4.cell 0 _ rfl
      have t1 := hT4.cell 1 _ rfl
      have e0 := cE.cell 0 _ rfl
      have e1 := cE.cell 1 _ rfl
      have e2 := cE.cell 2 _ rfl
      have e3 := cE.cell 3 _ rfl
      have e4 := cE.cell 4 _ rfl
      go_wp2_with fail
      generalize wr.alloc (.cells #[.int .i64 x.k, .int .i64 x.a, .int .i64 x.b, .int .i64 x.c, .bool x.t] 62) = w4 at *
      refine (unhide HD).mono ?_
      rintro e w5 ⟨X, Y, rfl, I5, b5⟩
      rw [hst] at I5
      obtain ⟨g', d', c1', c2', rfl, rfl, _, _, _⟩ := int_form I5
      have q5 := b5.size
      have hT5 := hT4.below b5 (by omega)
      have hR5 := hR4.below b5 (by omega)
      have bw5 := bw4.trans (b5.mono bw4.size)
      clear t0 t1 e0 e1 e2 e3 e4 cE hT4 hR4 hI4 bw4 b5 HD v0 v1 v2 v3 v4
      have t0 := hT5.cell 0 _ rfl
      have t1 := hT5.cell 1 _ rfl
      have f0 := hT5.frozen 0 (by simp)
      have f1' := hT5.frozen 1 (by simp)
      have p1 := hT5.put [.slice (some ⟨g', 0, none⟩) 4 c1', .slice (some ⟨d', 0, none⟩) 6 c2'] rfl
      have kz := kept_cells w5 TB 0 [.slice (some ⟨g', 0, none⟩) 4 c1', .slice (some ⟨d', 0, none⟩) 6 c2']
      have I6 := InT.only I5 (OnlyG.kept kz) (fun z hz => .inl (by simp at hz; omega))
      have hR6 := csAt_kept hR5 kz (by omega) (by simp; omega)
      have bw6 := below_setCells TB (show w.heap.size ≤ TB by omega) [.slice (some ⟨g', 0, none⟩) 4 c1', .slice (some ⟨d', 0, none⟩) 6 c2'] 0 _ bw5
      have s6 : (w5.setCells TB 0 [.slice (some ⟨g', 0, none⟩) 4 c1', .slice (some ⟨d', 0, none⟩) 6 c2']).heap.size = w5.heap.size := size_setCells _ _ _ _
      clear hT5 hR5 bw5 kz I5
      go_wp2
      go_roundw
      case rel =>
        refine ⟨k + 1, by omega, by first | rfl | go_num, g', d', c1', c2', w4.heap.size, w5.heap.size, p1, ?_, hR6, ⟨?_, ?_, ?_, by omega, ?_⟩, bw6⟩
        · rw [unhide HT]; exact I6
        · omega
        · show _ ≤ (w5.setCells TB 0 [.slice (some ⟨g', 0, none⟩) 4 c1', .slice (some ⟨d', 0, none⟩) 6 c2']).heap.size; rw [s6]; exact Nat.le_refl _
        · left; omega
        · show TB < (w5.setCells TB 0 [.slice (some ⟨g', 0, none⟩) 4 c1', .slice (some ⟨d', 0, none⟩) 6 c2']).heap.size; rw [s6]; omega
      case measure => simp [intOf]; omega

set_option maxRecDepth 100000 in
set_option maxHeartbeats 4000000 in
theorem specRun_any (a : Option Addr) (cap : Nat) (L : List Ev) (w : World) (hL : EsAt w a L) (hlen : L.length ≤ 1048576) :
    Calls Tryz.prog 64 #[.slice a L.length cap] w fun e w' => PrPost w L e w' := by
  have B1 : Below w.heap.size w (w.alloc (.cells #[.slice none 0 0, .slice none 0 0] 26)) := (Below.refl _ _).alloc (Nat.le_refl _) _
  have cR := store_box w (.slice none 0 0) (.slice none 0 0)
  have s0 : ((w.alloc (.cells #[.slice none 0 0, .slice none 0 0] 26))).heap.size = w.heap.size + 1 := by simp
  have HE := hide hL
  have HSS := hide (show (Tryz.prog.info? 26).map (·.size) = some 2 by kernel_rfl)
  have HSE := hide (show (Tryz.prog.info? 62).map (·.size) = some 5 by kernel_rfl)
  clear hL
  go_enter Tryz.func64, Tryz.ntmps64
  by_cases h60 : 60 < (L.length : Int)
  · have d0 := cR.cell 0 _ rfl
    have d1 := cR.cell 1 _ rfl
    have f0 := cR.frozen 0 (by simp)
    have f1' := cR.frozen 1 (by simp)
    have hdc : decide (L.length ≤ 60) = false := decide_eq_false (by omega)
    have HP : Hid (PrPost w L (.returned (.tuple #[.agg #[.slice none 0 0, .slice none 0 0], .bool false])) (w.alloc (.cells #[.slice none 0 0, .slice none 0 0] 26))) := ⟨_, _, _, _, _, _, by rw [hdc], .inl ⟨hdc, rfl, rfl⟩, B1⟩
    have p1 := cR.cells
    clear B1 cR hdc s0
    go_wp2
    exact bodyPost_ret (res_cell_tmp Tryz.results64 _ _ w.heap.size [.slice none 0 0, .slice none 0 0] _ rfl p1 Tryz.underlying26 rfl (by kernel_rfl)) rfl (unhide HP)
  have hdc := hide (show decide (L.length ≤ 60) = true from decide_eq_true (by omega))
  go_wp2_with fail
  generalize (w.alloc (.cells #[.slice none 0 0, .slice none 0 0] 26)) = w1 at *
  refine (specNew_any w1).mono ?_
  rintro e w2 ⟨g, G, d, c1, rfl, o2, b2⟩
  have B2 := B1.trans (b2.mono B1.size)
  have q2 := b2.size
  replace cR := cR.below b2 (by omega)
  clear B1 b2
  have bN : Below w2.heap.size w2 (w2.alloc (.cells #[.slice (some ⟨g, 0, none⟩) 4 c1, .slice (some ⟨d, 0, none⟩) 6 6] 26)) := (Below.refl _ _).alloc (Nat.le_refl _) _
  have cT := store_box w2 (.slice (some ⟨g, 0, none⟩) 4 c1) (.slice (some ⟨d, 0, none⟩) 6 6)
  have B3 := B2.trans (bN.mono B2.size)
  replace cR := cR.below bN (by omega)
  have s3 : (w2.alloc (.cells #[.slice (some ⟨g, 0, none⟩) 4 c1, .slice (some ⟨d, 0, none⟩) 6 6] 26)).heap.size = w2.heap.size + 1 := by simp
  have o3 := o2.below bN (Nat.le_refl _)
  have hr : ∀ z ∈ d :: g :: G, w1.heap.size ≤ z ∧ z < w2.heap.size := fun z hz => by
    rcases List.mem_cons.1 hz with rfl | hz
    · exact ⟨o2.dlo, o2.dhi⟩
    · exact ⟨o2.own.lo z hz, o2.own.hi z hz⟩
  clear B2 bN o2
  have hS3 : Hid (St (w2.alloc (.cells #[.slice (some ⟨g, 0, none⟩) 4 c1, .slice (some ⟨d, 0, none⟩) 6 6] 26)) w1.heap.size g d G zFs zDk6) := ⟨o3.own, o3.ds, o3.dlo, o3.dhi, o3.dne, rfl⟩
  go_upto_region 4 with fail
  generalize w2.alloc (.cells #[.slice (some ⟨g, 0, none⟩) 4 c1, .slice (some ⟨d, 0, none⟩) 6 6] 26) = w3 at *
  generalize w2.heap.size = TB at *
  clear o3
  go_wp2
  go_loopw [5] (fun i w' => ∃ k : Nat, k ≤ L.length ∧ i = .int .i64 k ∧ CsAt w' TB [.slice (some ⟨g, 0, none⟩) 4 c1, .slice (some ⟨d, 0, none⟩) 6 6] ∧ Hid (St w' w1.heap.size g d G (runP (L.take k)).1 (runP (L.take k)).2) ∧ CsAt w' w.heap.size [.slice none 0 0, .slice none 0 0] ∧ TB < w'.heap.size ∧ Below w.heap.size w w') (fun i _ => L.length - (intOf i).toNat)
  case atStart => exact ⟨0, by omega, rfl, cT, hS3, cR, by omega, B3⟩
  case round =>
    clear cT hS3 cR B3
    obtain ⟨k, hk, rfl, hT, hS, hR, hsz, bw⟩ := hrel
    by_cases h0 : k = L.length
    · subst h0
      rw [List.take_of_length_le (Nat.le_refl _)] at hS
      have hI : InT wr w1.heap.size TB (.slice (some ⟨g, 0, none⟩) 4 c1) (.slice (some ⟨d, 0, none⟩) 6 6) true (runP L).1 (runP L).2 := by
        obtain ⟨hok, h6⟩ := st_parts (runP_st L)
        have S := unhide hS
        exact .inr ⟨rfl, g, G, d, c1, 6, rfl, rfl, ⟨by rw [ok_len hok]; exact S.own, S.disk, S.dlo, S.dhi, S.dn⟩, hr, ok_fours hok, ok_len hok, h6⟩
      have d0 := hR.cell 0 _ rfl
      have d1 := hR.cell 1 _ rfl
      have f0 := hR.frozen 0 (by simp)
      have f1' := hR.frozen 1 (by simp)
      have t0 := hT.cell 0 _ rfl
      have t1 := hT.cell 1 _ rfl
      have p1 := hR.put [.slice (some ⟨g, 0, none⟩) 4 c1, .slice (some ⟨d, 0, none⟩) 6 6] rfl
      have kz := kept_cells wr w.heap.size 0 [.slice (some ⟨g, 0, none⟩) 4 c1, .slice (some ⟨d, 0, none⟩) 6 6]
      have IZ := InT.mono (lo' := w.heap.size) (hi' := (wr.setCells w.heap.size 0 [.slice (some ⟨g, 0, none⟩) 4 c1, .slice (some ⟨d, 0, none⟩) 6 6]).heap.size) (InT.only hI (OnlyG.kept kz) (fun z hz => .inl (by simp at hz; omega))) (by omega) (by rw [size_setCells]; omega)
      have BZ := below_setCells w.heap.size (Nat.le_refl _) [.slice (some ⟨g, 0, none⟩) 4 c1, .slice (some ⟨d, 0, none⟩) 6 6] 0 _ bw
      have HP : Hid (PrPost w L (.returned (.tuple #[.agg #[.slice (some ⟨g, 0, none⟩) 4 c1, .slice (some ⟨d, 0, none⟩) 6 6], .bool true])) (wr.setCells w.heap.size 0 [.slice (some ⟨g, 0, none⟩) 4 c1, .slice (some ⟨d, 0, none⟩) 6 6])) := ⟨_, _, _, _, _, _, by rw [unhide hdc], by rw [unhide hdc]; exact IZ, BZ⟩
      clear IZ BZ hI hS kz hR hT bw
      go_wp2
      exact bodyPost_ret (res_cell_tmp Tryz.results64 _ _ w.heap.size [.slice (some ⟨g, 0, none⟩) 4 c1, .slice (some ⟨d, 0, none⟩) 6 6] _ rfl p1.cells Tryz.underlying26 rfl (by kernel_rfl)) rfl (unhide HP)
    · have hlt : (k : Int) < (L.length : Int) := by omega
      have hkb : k < L.length := by omega
      have hlo : (0 : Int) ≤ (k : Int) := by omega
      obtain ⟨b, o, rfl, rX, lX⟩ := (unhide HE).at k hkb
      have rW := rangeAt_below rX bw lX
      have HT := hide (runP_take L k hkb)
      have hst := runP_st (L.take k)
      clear rX
      generalize L[k] = x at *
      generalize runP (L.take k) = P at *
      obtain ⟨P1, P2⟩ := P
      simp only at hS HT hst
      have hok := (st_parts hst).1
      have hd : ∀ z ∈ d :: g :: G, w.heap.size + 1 ≤ z ∧ z < TB := fun z hz => by have := hr z hz; omega
      have hT7 : TB ∉ d :: g :: G := fun hm => by have := hd _ hm; omega
      have HHX := hide (fun w' (h : St w' w1.heap.size g d G P1 P2) => happen_x w1.heap.size g d c1 6 G P1 P2 x.k x.a x.b x.c x.t w' h hok)
      have hSd : Hid (St wr.drew w1.heap.size g d G P1 P2) := St.keptL (unhide hS) (M := []) (Kept.refl [] wr).drew (by simp)
      clear hS hst hok
      go_upto_region 7 with fail
      have cT := hT
      clear hT
      refine wp_region_noPanic ?_
      refine wp_region_held_drew (S := fun w' => Kept (TB :: d :: g :: G) wr w') (by kernel_rfl) (Kept.refl _ _).drew (fun hHeld => ?_)
      replace cT := OrdL.ckept cT (L := []) (Kept.refl [] wr).drew (CsAt.lt cT (by first | (simp; done) | assumption)) (by simp)
      generalize wr.drew = y0 at *
      have z0 := hHeld.size
      refine takeL 1 (.slice (some ⟨b, o, none⟩) L.length cap) rfl (by kernel_rfl) (by kernel_rfl) (by kernel_rfl) (fun _ _ _ h => h) (Or.inl ⟨rfl, fun _ _ => rfl⟩) hHeld ?_
      try simp only [Act.put, List.setIfInBounds_toArray, List.set_cons_zero, List.set_cons_succ]
      refine takeL 2 (.int .i64 (k : Int)) rfl (by kernel_rfl) (by kernel_rfl) (by kernel_rfl) (fun _ _ _ h => h) (Or.inl ⟨rfl, fun _ _ => rfl⟩) hHeld ?_
      try simp only [Act.put, List.setIfInBounds_toArray, List.set_cons_zero, List.set_cons_succ]
      refine takeL 3 (.pointer (some ⟨b, o + k * 5, none⟩)) rfl (by kernel_rfl) (by kernel_rfl) (by kernel_rfl) (fun _ _ _ h => h) (Or.inl ⟨rfl, fun w9 hSw => by go_simp⟩) hHeld ?_
      try simp only [Act.put, List.setIfInBounds_toArray, List.set_cons_zero, List.set_cons_succ]
      refine takeL 4 (.agg #[.int .i64 x.k, .int .i64 x.a, .int .i64 x.b, .int .i64 x.c, .bool x.t]) rfl (by kernel_rfl) (by kernel_rfl) (by kernel_rfl) (fun _ _ _ h => h) (yieldsIf_load_mid rfl 62 _ rfl b (o + k * 5) rfl [.int .i64 x.k, .int .i64 x.a, .int .i64 x.b, .int .i64 x.c, .bool x.t] _ (fun _ h j v hv => (h.cell (b := b) (o + k * 5 + j) (Nat.lt_of_lt_of_le lX bw.size) (by intro hm; rcases List.mem_cons.1 hm with q | q; omega; have := hd _ q; omega)).trans (rW j v hv)) Tryz.underlying62 rfl (unhide HSE)) hHeld ?_
      try simp only [Act.put, List.setIfInBounds_toArray, List.set_cons_zero, List.set_cons_succ]
      refine oneL 0 rfl (by kernel_rfl) rfl (fun K hK => ?_)
      have x0 := cT.cell 0 _ rfl
      have x1 := cT.cell 1 _ rfl
      go_simp
      refine hK.out _ _ hHeld (fun hHeld => ?_)
      clear hK K x0 x1
      try simp only [Act.put, List.setIfInBounds_toArray, List.set_cons_zero, List.set_cons_succ]
      refine oneL 5 rfl (by kernel_rfl) rfl (fun K hK => ?_)
      go_simp
      refine (unhide HHX _ (unhide hSd)).mono ?_
      rintro e y1 ⟨rfl, hokP, hS5, k5⟩
      go_wp2_with fail
      have hS6 := hide hS5
      replace cT := csAt_kept cT k5 (CsAt.lt cT (by simp)) hT7
      refine hK.out _ _ (hHeld.then k5 (fun z hz => .inl (List.mem_cons_of_mem _ hz))) (fun hHeld => ?_)
      clear hK K
      try simp only [Act.put, List.setIfInBounds_toArray, List.set_cons_zero, List.set_cons_succ]
      have z1 := k5.size
      clear hS5 k5 hokP hSd
      refine oneL 6 rfl (by kernel_rfl) rfl (fun K hK => ?_)
      have pcT := cT.put [.slice (some ⟨g, 0, none⟩) 4 c1, .slice (some ⟨d, 0, none⟩) 6 6] rfl
      have kz := OrdL.kcells y1 TB 0 [.slice (some ⟨g, 0, none⟩) 4 c1, .slice (some ⟨d, 0, none⟩) 6 6]
      refine wp_store_mid 26 _ _ rfl TB 0 [.slice (some ⟨g, 0, none⟩) 4 c1, .slice (some ⟨d, 0, none⟩) 6 6].toArray rfl rfl cT.free (unhide HSS) (by kernel_rfl) ?_
      refine hK.out _ _ (hHeld.then kz (fun y hy => by simp at hy; subst hy; first | (left; simp; done) | (right; omega))) (fun hHeld => ?_)
      clear hK K
      try simp only [Act.put, List.setIfInBounds_toArray, List.set_cons_zero, List.set_cons_succ]
      replace hS6 := hide (St.keptL (unhide hS6) kz (fun z hz hm => by simp at hm; subst hm; exact hT7 hz))
      clear cT kz
      generalize y1.setCells TB 0 [.slice (some ⟨g, 0, none⟩) 4 c1, .slice (some ⟨d, 0, none⟩) 6 6] = y2 at *
      have cT := pcT
      clear pcT
      refine wpAnyH_done (by kernel_rfl) ?_ _
      refine NoPanic.normal ?_
      have kw := hHeld
      have bw2 := bw.trans ((hHeld.below (B := w.heap.size) (fun z hz => by rcases List.mem_cons.1 hz with q | q; omega; have := hd _ q; omega) (by have := bw.size; omega)).mono (Nat.le_refl _))
      have hR2 := csAt_kept hR hHeld (by have := bw.size; omega) (fun hm => by rcases List.mem_cons.1 hm with q | q; omega; have := hd _ q; omega)
      have hsz2 := Nat.lt_of_lt_of_le hsz hHeld.size
      clear kw hHeld bw hR hsz HHX rW
      go_wp2
      go_roundw
      case rel => exact ⟨k + 1, by omega, by first | rfl | go_num, cT, by rw [unhide HT]; exact hS6, hR2, hsz2, bw2⟩
      case measure => simp [intOf]; omega
end Go.Proofs.YtogfelpdgeionaaGreat.PrA
