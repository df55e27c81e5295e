/-
  Texts that belong together, one behind the other: PdA, PdB.
-/
import Derived.Test.YtogfelpdgeionaaGreatHbK
import Derived.Test.YtogfelpdgeionaaGreatHbW
import Derived.Test.YtogfelpdgeionaaGreatHbJ
import Derived.Laws.AppendOwnNone
import Derived.Maps.AppendAt

/-
  The program's steps of an event that are begun, and its telling the slow disk of all.
-/
namespace Go.Proofs.YtogfelpdgeionaaGreat.PdA
open TwA Go.ChangeShapes Go.WideShapes Go.ChangeAt Go.RowKit Go.Shelf OkA Big Fl ImplB ImplF ImplS _root_.Go.Proofs.YtogfelpdgeionaaGreat.Own ImplT ImplU SpecA SpecB SpecC SpecD SpecW SpecF SpecG SpecH Ok2 Pl FindP ImplL Kp StA StB StC StD StE StF StG SpS SpT RmA WrA FlA DoA ToA PlA LawU LawS LawV LawI LawT LawW SpU TwB TwC QuB QuE SpV MkN Ct AlX PaA PaB DpX Cu
set_option linter.unusedVariables false
set_option linter.unusedSimpArgs false
attribute [local go_sem ↓] Go.wp_at_zero Go.wp_at_succ

theorem stsC_app (l m : List Stp) : stsC (l ++ m) = stsC l ++ stsC m := by simp [stsC]
theorem stsC_take (l : List Stp) (n : Nat) (hn : n ≤ l.length) : stsC (l.take n) = (stsC l).take (n * 8) := by
  have e : stsC l = stsC (l.take n) ++ stsC (l.drop n) := by rw [← stsC_app, List.take_append_drop]
  rw [e]
  exact (List.take_left' (by rw [len_stsC, List.length_take]; congr 1; omega)).symm
theorem form2 {w : World} {lo : Nat} {v : Value} {l : List Stp} (h : Sts w lo v l) : (v = .slice none 0 0 ∧ l = []) ∨ ∃ g cap, v = .slice (some ⟨g, 0, none⟩) l.length cap ∧ l.length ≤ cap ∧ cap ≤ maxLen ∧ lo ≤ g ∧ g < w.heap.size ∧ ∀ j u, (stsC l)[j]? = some u → w.cell? ((⟨g, 0, none⟩ : Addr).add j) = some u := by
  obtain ⟨_, h2⟩ := h.row
  rcases h2 with ⟨e, hn⟩ | ⟨g, cap, cur, e, hb, hh, h3, h4, _⟩
  · exact .inl ⟨e, List.eq_nil_of_length_eq_zero hn⟩
  · have hg := h.lt g (by rw [e]; rfl)
    refine .inr ⟨g, cap, e, h3, h4, hg.1, hg.2, fun j u hu => ?_⟩
    exact h.row.cells (by rw [e]; rfl) j u hu
theorem Sts.take {w : World} {lo g cap : Nat} {l : List Stp} (h : Sts w lo (.slice (some ⟨g, 0, none⟩) l.length cap) l) (n : Nat) (hn : n ≤ l.length) : Sts w lo (.slice (some ⟨g, 0, none⟩) n cap) (l.take n) := by
  obtain ⟨h1, h2⟩ := h.row
  rcases h2 with ⟨e, _⟩ | ⟨g', cap', cur, e, hb, hh, h3, h4, h5, h6⟩
  · cases e
  · cases e
    have hl : (l.take n).length = n := by rw [List.length_take]; omega
    refine ⟨⟨len_stsC _, .inr ⟨g, cap, cur, by rw [hl], hb, hh, by omega, h4, h5, ?_⟩⟩, fun k hk => h.lt k hk⟩
    rw [hl, stsC_take l n hn, ← h6, List.take_take]
    congr 1
    have := Nat.mul_le_mul_right 8 hn
    omega
theorem Sts.pushA {w w' : World} {lo : Nat} {v v' : Value} {l m : List Stp} (h : Sts w lo v l) (hlo : lo ≤ w.heap.size) (ho : w'.ownsRow lo 50 8 v' (l.length + m.length) (stsC l ++ stsC m)) (hg : w.grownBy w' v.ownBlock) : Sts w' lo v' (l ++ m) ∧ Below lo w w' :=
  ⟨⟨by rw [stsC_app, List.length_append]; exact ho, fun g e => ho.lt g e⟩, (Below.refl _ _).grown hg hlo (fun k e => (h.lt k e).1)⟩

/-- How many of the steps of an event are begun. -/
def begN (c : Int) (t : Bool) (n : Nat) : Nat := if (n : Int) ≤ c then n else if t then c.toNat + 1 else c.toNat
theorem begN_le (c : Int) (t : Bool) (n : Nat) (hc : 0 ≤ c) : begN c t n ≤ n := by
  unfold begN
  split
  · omega
  · split <;> omega
def BgPost (w : World) (lo : Nat) (L : List Stp) (c : Int) (t : Bool) (e : Ending) (w' : World) : Prop := ∃ v', e = .returned v' ∧ Sts w' lo v' (L.take (begN c t L.length)) ∧ Below w.heap.size w w'

set_option maxRecDepth 100000 in
set_option maxHeartbeats 2000000 in
theorem begun_any (k a b c : Int) (t : Bool) (hc0 : 0 ≤ c) (hc1 : c ≤ 9223372036854775807) (v : Value) (lo : Nat) (L : List Stp) (w : World) (h : Sts w lo v L) (hl : L.length ≤ 1048576) :
    Calls Tryz.prog 200 #[.agg #[.int .i64 k, .int .i64 a, .int .i64 b, .int .i64 c, .bool t], v] w fun e w' => BgPost w lo L c t e w' := by
  have B0 : Below w.heap.size w (w.alloc (.cells #[.int .i64 k, .int .i64 a, .int .i64 b, .int .i64 c, .bool t] 62)) := (Below.refl _ _).alloc (Nat.le_refl _) _
  have cE := CsAt.new w [.int .i64 k, .int .i64 a, .int .i64 b, .int .i64 c, .bool t] 62
  have h0 := h.below B0 (Nat.le_refl _)
  have e3 := cE.cell 3 _ rfl
  have e4 := cE.cell 4 _ rfl
  rcases form2 h0 with ⟨rfl, rfl⟩ | ⟨g, cap, rfl, hcap, hmx, _, _, _⟩
  · have HP : Hid (BgPost w lo [] c t (.returned (.slice none 0 0)) (w.alloc (.cells #[.int .i64 k, .int .i64 a, .int .i64 b, .int .i64 c, .bool t] 62))) := ⟨_, rfl, by simpa using h0, B0⟩
    clear h0 h B0 cE
    go_enter Tryz.func200, Tryz.ntmps200
    by_cases hz : c = 0
    · subst hz
      cases t
      · go_wp2
        go_ret
        exact unhide HP
      · go_wp2
        go_ret
        exact unhide HP
    · have hp : 0 < c := by omega
      have hn : ¬ c < 0 := by omega
      cases t
      · go_wp2
        go_ret
        exact unhide HP
      · go_wp2
        go_ret
        exact unhide HP
  · have HP : Hid (∀ n, n = begN c t L.length → BgPost w lo L c t (.returned (.slice (some ⟨g, 0, none⟩) n cap)) (w.alloc (.cells #[.int .i64 k, .int .i64 a, .int .i64 b, .int .i64 c, .bool t] 62))) := fun n hn => ⟨_, rfl, by rw [← hn]; exact Sts.take h0 n (by rw [hn]; exact begN_le c t _ hc0), B0⟩
    have hmx' : cap ≤ 9223372036854775807 := by simpa [maxLen] using hmx
    clear h0 h B0 cE hmx
    have HB : Hid (begN c t L.length = if (L.length : Int) ≤ c then L.length else if t then c.toNat + 1 else c.toNat) := rfl
    generalize begN c t L.length = N at *
    generalize L.length = n at *
    go_enter Tryz.func200, Tryz.ntmps200
    by_cases hlt : c < (n : Int)
    · obtain ⟨m, rfl⟩ : ∃ m : Nat, c = (m : Int) := ⟨c.toNat, by omega⟩
      have hge : ¬ (n : Int) < (m : Int) := by omega
      have hm1 : (m : Int) + 1 ≤ (cap : Int) := by omega
      have hm2 : (m : Int) ≤ (cap : Int) := by omega
      cases t
      · have HN := hide (unhide HP m (by rw [unhide HB, if_neg (by omega), if_neg (by simp)]; rfl))
        go_wp2
        go_ret
        simpa using unhide HN
      · have HN := hide (unhide HP (m + 1) (by rw [unhide HB, if_neg (by omega), if_pos rfl]; rfl))
        go_wp2
        go_ret
        simpa using unhide HN
    · have HN := hide (unhide HP n (by rw [unhide HB, if_pos (by omega)]))
      have hnc : (n : Int) ≤ (cap : Int) := by omega
      by_cases hz : c = (n : Int)
      · subst hz
        cases t
        · go_wp2
          go_ret
          simpa using unhide HN
        · go_wp2
          go_ret
          simpa using unhide HN
      · have hp : (n : Int) < c := by omega
        cases t
        · go_wp2
          go_ret
          simpa using unhide HN
        · go_wp2
          go_ret
          simpa using unhide HN
end Go.Proofs.YtogfelpdgeionaaGreat.PdA

/-
  The program's telling the slow disk of all.
-/
namespace Go.Proofs.YtogfelpdgeionaaGreat.PdB
open TwA Go.ChangeShapes Go.WideShapes Go.ChangeAt Go.RowKit Go.Shelf OkA Big Fl ImplB ImplF ImplS _root_.Go.Proofs.YtogfelpdgeionaaGreat.Own ImplT ImplU SpecA SpecB SpecC SpecD SpecW SpecF SpecG SpecH Ok2 Pl FindP ImplL Kp StA StB StC StD StE StF StG SpS SpT RmA WrA FlA DoA ToA PlA LawU LawS LawV LawI LawT LawW SpU TwB TwC QuB QuE SpV MkN Ct AlX PaA PaB DpX Cu PdA
set_option linter.unusedVariables false
set_option linter.unusedSimpArgs false
attribute [local go_sem ↓] Go.wp_at_zero Go.wp_at_succ

theorem Sts.kept {w w' : World} {lo : Nat} {v : Value} {l : List Stp} (h : Sts w lo v l) {M : List Nat} (k : Kept M w w') (hL : ∀ x ∈ M, x < lo) : Sts w' lo v l := by
  obtain ⟨h1, h2⟩ := h.row
  refine ⟨⟨h1, ?_⟩, fun g hg => ⟨(h.lt g hg).1, Nat.lt_of_lt_of_le (h.lt g hg).2 k.size⟩⟩
  rcases h2 with h2 | ⟨g, cap, cur, e, hb, hh, r⟩
  · exact .inl h2
  · have hg := h.lt g (by rw [e]; rfl)
    exact .inr ⟨g, cap, cur, e, hb, by rw [k.block g hg.2 (fun hm => by have := hL g hm; omega)]; exact hh, r⟩
theorem InT.mono {w : World} {lo hi lo' hi' : Nat} {x y : Value} {ok : Bool} {bs : List Bk} {dk : List Int} (h : InT w lo hi x y ok bs dk) (hl : lo' ≤ lo) (hh : hi ≤ hi') : InT w lo' hi' x y ok bs dk := by
  rcases h with h | ⟨rfl, g, G, d, c1, c2, rfl, rfl, o, hr, r⟩
  · exact .inl h
  · exact .inr ⟨rfl, g, G, d, c1, c2, rfl, rfl, o.mono hl, fun z hz => by have := hr z hz; omega, r⟩
theorem InT.sat {w : World} {lo hi : Nat} {x y : Value} {bs : List Bk} {dk : List Int} (h : InT w lo hi x y true bs dk) : ∃ fa fc da dc, x = .slice fa 4 fc ∧ y = .slice da 6 dc ∧ SAt w fa bs da dk := by
  rcases h with ⟨h, _⟩ | ⟨_, g, G, d, c1, c2, rfl, rfl, o, _⟩
  · cases h
  · exact ⟨_, _, _, _, rfl, rfl, o.sat⟩
theorem satI {w : World} {lo hi n m : Nat} {fa da : Option Addr} {fc dc : Nat} {B : List Bk} {K : List Int} (h : InT w lo hi (.slice fa n fc) (.slice da m dc) true B K) : SAt w fa B da K := by
  rcases h with ⟨q, _⟩ | ⟨_, g, G, d, c1, c2, e1, e2, o, _⟩
  · cases q
  · cases e1; cases e2; exact o.sat
theorem stepsArg {w : World} {lo : Nat} {v : Value} {l : List Stp} (h : Sts w lo v l) : ∃ sa sc, v = .slice sa l.length sc ∧ SsAt w sa l ∧ ((sa = none ∧ l = [] ∧ sc = 0) ∨ ∃ g, sa = some ⟨g, 0, none⟩) := by
  rcases form2 h with ⟨rfl, rfl⟩ | ⟨g, cap, rfl, _, _, _, _, hc⟩
  · exact ⟨none, 0, rfl, .inl rfl, .inl ⟨rfl, rfl, rfl⟩⟩
  · exact ⟨_, cap, rfl, .inr ⟨g, 0, rfl, fun j u hu => by have := hc j u hu; rw [Addr.add_lit] at this; exact this⟩, .inr ⟨g, rfl⟩⟩
theorem cellsOf {w : World} {lo g n cap : Nat} {l : List Stp} (h : Sts w lo (.slice (some ⟨g, 0, none⟩) n cap) l) : ∀ j u, (stsC l)[j]? = some u → w.cell? ((⟨g, 0, none⟩ : Addr).add j) = some u := fun j u hu => h.row.cells rfl j u hu
/-- The steps of telling all. -/
def allL (bs : List Bk) (dk : List Int) : Nat → List Stp
  | 0 => []
  | n + 1 => allL bs dk n ++ flushP (allA bs dk n).1 (allA bs dk n).2 ((n + 1 : Nat) : Int)
theorem allA_step (bs : List Bk) (dk : List Int) {n : Nat} (h : 1 ≤ n) : allA bs dk n = flA (allA bs dk (n - 1)) n := by
  obtain ⟨m, rfl⟩ : ∃ m, n = m + 1 := ⟨n - 1, by omega⟩
  rfl
theorem allL_step (bs : List Bk) (dk : List Int) {n : Nat} (h : 1 ≤ n) : allL bs dk n = allL bs dk (n - 1) ++ flushP (allA bs dk (n - 1)).1 (allA bs dk (n - 1)).2 (n : Int) := by
  obtain ⟨m, rfl⟩ : ∃ m, n = m + 1 := ⟨n - 1, by omega⟩
  rfl
def FePost (w : World) (bs : List Bk) (dk : List Int) (e : Ending) (w' : World) : Prop := ∃ x y v, e = .returned (.tuple #[.agg #[x, y], v]) ∧ InT w' w.heap.size w'.heap.size x y (stB bs dk) (allA bs dk 6).1 (allA bs dk 6).2 ∧ Sts w' w.heap.size v (if stB bs dk then allL bs dk 6 else []) ∧ Below w.heap.size w w'
def SepV (v : Value) (lo hi : Nat) : Prop := ∀ g, v.ownBlock = some g → g < lo ∨ hi ≤ g

set_option maxRecDepth 100000 in
set_option maxHeartbeats 4000000 in
theorem each_ok (fa : Option Addr) (fc : Nat) (bs : List Bk) (da : Option Addr) (dc : Nat) (dk : List Int) (w : World) (h : SAt w fa bs da dk) (hs : stB bs dk = true) :
    Calls Tryz.prog 199 #[.agg #[.slice fa 4 fc, .slice da 6 dc]] w fun e w' => FePost w bs dk e w' := by
  have HA := hide (fun n => (allA_sm hs n).1)
  have HS := hide hs
  have HAT := hide h
  have BX := ((Below.refl w.heap.size w).alloc (Nat.le_refl _) (.cells #[.slice fa 4 fc, .slice da 6 dc] 26)).alloc (by simp) (.cells #[.slice none 0 0, .slice none 0 0] 26)
  have cS := (store_box w (.slice fa 4 fc) (.slice da 6 dc)).alloc (by simp) (.cells #[.slice none 0 0, .slice none 0 0] 26)
  have cR := store_box (w.alloc (.cells #[.slice fa 4 fc, .slice da 6 dc] 26)) (.slice none 0 0) (.slice none 0 0)
  rw [World.size_alloc] at cR
  have s0 : ((w.alloc (.cells #[.slice fa 4 fc, .slice da 6 dc] 26)).alloc (.cells #[.slice none 0 0, .slice none 0 0] 26)).heap.size = w.heap.size + 2 := by simp
  clear h hs
  go_enter Tryz.func199, Tryz.ntmps199
  go_upto_region 1 with fail
  generalize (w.alloc (.cells #[.slice fa 4 fc, .slice da 6 dc] 26)).alloc (.cells #[.slice none 0 0, .slice none 0 0] 26) = w1 at *
  have hA1 := hide ((unhide HAT).below BX)
  clear HAT
  go_wp2
  go_loopw [5, 4] (fun i v w' => ∃ (n : Nat) (fa' : Option Addr) (fc' : Nat) (da' : Option Addr) (dc' : Nat), 1 ≤ n ∧ n ≤ 7 ∧ i = .int .i64 n ∧ Hid (SAt w' fa' (allA bs dk (n - 1)).1 da' (allA bs dk (n - 1)).2) ∧ Hid (1 < n → ∃ lo hi, w.heap.size + 2 ≤ lo ∧ hi ≤ w'.heap.size ∧ InT w' lo hi (.slice fa' 4 fc') (.slice da' 6 dc') true (allA bs dk (n - 1)).1 (allA bs dk (n - 1)).2 ∧ SepV v lo hi) ∧ Hid (Sts w' (w.heap.size + 2) v (allL bs dk (n - 1)) ∧ (allL bs dk (n - 1)).length ≤ 7 * (n - 1)) ∧ CsAt w' w.heap.size [.slice fa' 4 fc', .slice da' 6 dc'] ∧ CsAt w' (w.heap.size + 1) [.slice none 0 0, .slice none 0 0] ∧ w.heap.size + 2 ≤ w'.heap.size ∧ Below w.heap.size w w') (fun i _ _ => 7 - (intOf i).toNat)
  case atStart => exact ⟨1, fa, fc, da, dc, by omega, by omega, rfl, hA1, (fun q => by omega), ⟨TwA.Sts.nilN _ _, by simp [allL]⟩, cS, cR, by omega, BX⟩
  case round =>
    clear BX cS cR s0 hA1
    obtain ⟨n, fa', fc', da', dc', hn1, hn7, rfl, hSA, hIN, hST, cS, cR, hsz, hB⟩ := hrel
    generalize u4 = vA at *
    have HA0 := hide (unhide HA (n - 1))
    have HAn := hide (unhide HA n)
    have HEA := hide (allA_step bs dk hn1)
    have HEL := hide (allL_step bs dk hn1)
    obtain ⟨hok4, hD6⟩ := st_parts (unhide HA0)
    have hB4 := ok_len hok4
    by_cases h6 : n ≤ 6
    · have hni : (n : Int) ≤ 6 := by omega
      have y0 := cS.cell 0 _ rfl
      have y1 := cS.cell 1 _ rfl
      have HE1 := hide (ev_flush (unhide HA0) (n : Int))
      have HL7 := hide (flushP_len (allA bs dk (n - 1)).1 (allA bs dk (n - 1)).2 (n : Int) hok4)
      have HTK := hide (fl_tk (unhide HA0) (n : Int) ((flushP (allA bs dk (n - 1)).1 (allA bs dk (n - 1)).2 (n : Int)).length : Int) (by omega))
      have HFL := hide (implFlush_any fa' fc' (allA bs dk (n - 1)).1 da' dc' (allA bs dk (n - 1)).2 (n : Int) (by omega) (by omega) wr (unhide hSA) (by omega) (by omega))
      have HIM := hide (fun (sa : Option Addr) (sc : Nat) (w' : World) (h : SAt w' fa' (allA bs dk (n - 1)).1 da' (allA bs dk (n - 1)).2) (hL : SsAt w' sa (flushP (allA bs dk (n - 1)).1 (allA bs dk (n - 1)).2 (n : Int))) => implTo_any fa' fc' (allA bs dk (n - 1)).1 da' dc' (allA bs dk (n - 1)).2 sa sc (flushP (allA bs dk (n - 1)).1 (allA bs dk (n - 1)).2 (n : Int)) ((flushP (allA bs dk (n - 1)).1 (allA bs dk (n - 1)).2 (n : Int)).length : Int) (by omega) (by have := unhide HL7; omega) false w' h hL (by omega) (by omega) (by have := unhide HL7; omega))
      rw [hB4, hD6] at HFL HIM
      rw [← unhide HE1] at HFL
      clear HE1
      have HQA : Hid (allA bs dk n = (toB (allA bs dk (n - 1)).1 (flushP (allA bs dk (n - 1)).1 (allA bs dk (n - 1)).2 (n : Int)) ((flushP (allA bs dk (n - 1)).1 (allA bs dk (n - 1)).2 (n : Int)).length : Int) false, toK (allA bs dk (n - 1)).2 (flushP (allA bs dk (n - 1)).1 (allA bs dk (n - 1)).2 (n : Int)) ((flushP (allA bs dk (n - 1)).1 (allA bs dk (n - 1)).2 (n : Int)).length : Int) false)) := unhide HEA
      generalize (allA bs dk (n - 1)).1 = B at *
      generalize (allA bs dk (n - 1)).2 = D at *
      go_wp2_with fail
      refine (unhide HFL).mono ?_
      rintro e w2 ⟨v2, rfl, r2, d2⟩
      generalize flushP B D (n : Int) = L at *
      obtain ⟨sa, sc, rfl, hss, hap⟩ := stepsArg r2
      have q2 := d2.size
      have S2 := hide ((unhide hSA).below d2)
      have V2 := hide (((unhide hST).1).below d2 (Nat.le_refl _))
      have cS2 := cS.below d2 (by omega)
      have cR2 := cR.below d2 (by omega)
      have B2 := hB.trans (d2.mono hB.size)
      have HV2 : Hid (∀ g, vA.ownBlock = some g → g < wr.heap.size) := fun g hg => ((unhide hST).1.lt g hg).2
      clear y0 y1 cS cR hB HFL hSA
      have y0 := cS2.cell 0 _ rfl
      have y1 := cS2.cell 1 _ rfl
      go_wp2_with fail
      refine (unhide HIM sa sc w2 (unhide S2) hss).mono ?_
      intro e w3 hT
      rcases hT with ⟨hf, _⟩ | ⟨_, g, G, d, c1, c2, rfl, o3, d3⟩
      · rw [unhide HTK] at hf; cases hf
      have hi3 : ∀ z ∈ d :: g :: G, w2.heap.size ≤ z ∧ z < w3.heap.size := fun z hz => by
        rcases List.mem_cons.1 hz with rfl | hz
        · exact ⟨o3.dlo, o3.dhi⟩
        · exact ⟨o3.own.lo z hz, o3.own.hi z hz⟩
      have hEB := congrArg Prod.fst (unhide HQA)
      have hEK := congrArg Prod.snd (unhide HQA)
      dsimp only at hEB hEK
      rw [← hEB, ← hEK] at o3
      clear hEB hEK HQA HTK
      obtain ⟨hokn, hDn⟩ := st_parts (unhide HAn)
      have I3 := hide (show InT w3 w2.heap.size w3.heap.size (.slice (some ⟨g, 0, none⟩) 4 c1) (.slice (some ⟨d, 0, none⟩) 6 c2) true (allA bs dk n).1 (allA bs dk n).2 from .inr ⟨rfl, g, G, d, c1, c2, rfl, rfl, o3, hi3, ok_fours hokn, ok_len hokn, hDn⟩)
      have q3 := d3.size
      have V3 := hide ((unhide V2).below d3 (Nat.le_refl _))
      have L3 := r2.below d3 (Nat.le_refl _)
      have cS3 := cS2.below d3 (by omega)
      have cR3 := cR2.below d3 (by omega)
      have B3 := B2.trans (d3.mono B2.size)
      clear y0 y1 cS2 cR2 B2 d2 d3 S2 V2 o3 r2 hss HIM
      have f0 := cS3.frozen 0 (by simp)
      have f1 := cS3.frozen 1 (by simp)
      have y0 := cS3.cell 0 _ rfl
      have y1 := cS3.cell 1 _ rfl
      have kz := kept_cells w3 w.heap.size 0 [.slice (some ⟨g, 0, none⟩) 4 c1, .slice (some ⟨d, 0, none⟩) 6 c2]
      have I4 := hide ((unhide I3).only (OnlyG.kept kz) (fun z hz => by simp at hz; subst hz; left; omega))
      have V4 := hide (Sts.kept (unhide V3) kz (fun z hz => by simp at hz; omega))
      have L4 := Sts.kept L3 kz (fun z hz => by simp at hz; omega)
      have cS4 := cS3.put [.slice (some ⟨g, 0, none⟩) 4 c1, .slice (some ⟨d, 0, none⟩) 6 c2] rfl
      have cR4 := csAt_kept cR3 kz (by omega) (by simp)
      have B4 := below_setCells w.heap.size (Nat.le_refl _) [.slice (some ⟨g, 0, none⟩) 4 c1, .slice (some ⟨d, 0, none⟩) 6 c2] 0 _ B3
      have q4 : w3.heap.size ≤ (w3.setCells w.heap.size 0 [.slice (some ⟨g, 0, none⟩) 4 c1, .slice (some ⟨d, 0, none⟩) 6 c2]).heap.size := by rw [size_setCells]; exact Nat.le_refl _
      have q5 : (w3.setCells w.heap.size 0 [.slice (some ⟨g, 0, none⟩) 4 c1, .slice (some ⟨d, 0, none⟩) 6 c2]).heap.size ≤ w3.heap.size := by rw [size_setCells]; exact Nat.le_refl _
      clear I3 V3 L3 cS3 cR3 B3 kz
      go_upto_region 7 with fail
      rw [show (w3.setCell ⟨w.heap.size, 0, none⟩ (.slice (some ⟨g, 0, none⟩) 4 c1)).setCell ⟨w.heap.size, 1, none⟩ (.slice (some ⟨d, 0, none⟩) 6 c2) = w3.setCells w.heap.size 0 [.slice (some ⟨g, 0, none⟩) 4 c1, .slice (some ⟨d, 0, none⟩) 6 c2] from rfl]
      generalize w3.setCells w.heap.size 0 [.slice (some ⟨g, 0, none⟩) 4 c1, .slice (some ⟨d, 0, none⟩) 6 c2] = w4 at *
      obtain ⟨iS, hiS, hzS, hsS, hbS⟩ := infoS
      clear f0 f1 y0 y1
      have hV := (unhide V4).row
      have hVl : (unhide hST).2 = (unhide hST).2 := rfl
      rcases hap with ⟨rfl, rfl, rfl⟩ | ⟨g2, rfl⟩
      · go_wp2_with (refine wpList_append_own_none rfl _ _ 29 rfl (w.heap.size + 2) 50 iS 8 Tryz.underlying29 hiS vA _ _ rfl hV rfl ?_)
        go_roundw
        case rel => exact ⟨n + 1, _, c1, _, c2, by omega, by omega, by first | rfl | go_num, satI (unhide I4), (fun _ => ⟨w2.heap.size, w3.heap.size, by omega, by omega, unhide I4, fun k hk => .inl (by have := unhide HV2 k hk; omega)⟩), ⟨by show Sts w4 _ vA (allL bs dk n); rw [unhide HEL, List.append_nil]; exact unhide V4, by show (allL bs dk n).length ≤ 7 * n; rw [unhide HEL, List.append_nil]; have := (unhide hST).2; omega⟩, cS4, cR4, by omega, B4⟩
        case measure => simp [intOf]; omega
      · have hcl := cellsOf L4
        have hLL := hide (len_stsC L)
        have hll := (unhide hST).2
        go_wp2_with (refine wpList_append_own_at _ rfl _ _ 29 rfl (w.heap.size + 2) 50 iS (.agg (stC zSt).toArray) 8 64 Tryz.underlying29 hiS hzS hsS hbS rfl (by omega) vA _ _ rfl hV ⟨g2, 0, none⟩ L.length sc (stsC L) rfl (unhide hLL) hcl (one_stsC _) (by have := unhide HL7; simp [maxLen]; omega) (by have := unhide HL7; omega) (by omega) ?_; intro v' w5 ho5 hg5 _ hat)
        obtain ⟨V5, b5⟩ := Sts.pushA (unhide V4) (by omega) ho5 hg5
        have kZ : Kept vA.ownBlock.toList w4 w5 := (Kept.refl _ w4).grown hg5 (fun k e => .inl (by simp [e]))
        have cS5 := cS4.below b5 (by omega)
        have cR5 := cR4.below b5 (by omega)
        have B5 := B4.trans (b5.mono (by omega))
        have q5 := b5.size
        clear ho5 hg5 hV hcl
        have I5 := hide ((unhide I4).only (OnlyG.kept kZ) (fun z hz => .inl (by simp at hz; have := unhide HV2 z hz; omega)))
        have HSP : Hid (SepV v' w2.heap.size w3.heap.size) := fun k hk => by
          rcases hat with h9 | h9
          · rw [h9] at hk; left; have := unhide HV2 k hk; omega
          · rw [h9] at hk; right; simp at hk; omega
        go_roundw
        case rel => exact ⟨n + 1, _, c1, _, c2, by omega, by omega, by first | rfl | go_num, satI (unhide I5), (fun _ => ⟨w2.heap.size, w3.heap.size, by omega, by omega, unhide I5, unhide HSP⟩), ⟨by show Sts w5 _ v' (allL bs dk n); rw [unhide HEL]; exact V5, by show (allL bs dk n).length ≤ 7 * n; rw [unhide HEL, List.length_append]; have := (unhide hST).2; have := unhide HL7; omega⟩, cS5, cR5, by omega, B5⟩
        case measure => simp [intOf]; omega
    · have hni : ¬ (n : Int) ≤ 6 := by omega
      obtain rfl : n = 7 := by omega
      obtain ⟨lo, hi, hlo, hhi, hI, _⟩ := unhide hIN (by omega)
      have y0 := cS.cell 0 _ rfl
      have y1 := cS.cell 1 _ rfl
      have d0 := cR.cell 0 _ rfl
      have d1 := cR.cell 1 _ rfl
      have f0 := cR.frozen 0 (by simp)
      have f1 := cR.frozen 1 (by simp)
      have p1 := cR.put [.slice fa' 4 fc', .slice da' 6 dc'] rfl
      have kz := kept_cells wr (w.heap.size + 1) 0 [.slice fa' 4 fc', .slice da' 6 dc']
      have IZ := InT.mono (lo' := w.heap.size) (hi' := (wr.setCells (w.heap.size + 1) 0 [.slice fa' 4 fc', .slice da' 6 dc']).heap.size) (hI.only (OnlyG.kept kz) (fun z hz => .inl (by simp at hz; omega))) (by omega) (by rw [size_setCells]; omega)
      have VZ := (Sts.kept (unhide hST).1 kz (fun z hz => by simp at hz; omega)).mono (lo' := w.heap.size) (by omega)
      have BZ := below_setCells (w.heap.size + 1) (by omega) [.slice fa' 4 fc', .slice da' 6 dc'] 0 _ hB
      have HP : Hid (FePost w bs dk (.returned (.tuple #[.agg #[.slice fa' 4 fc', .slice da' 6 dc'], vA])) (wr.setCells (w.heap.size + 1) 0 [.slice fa' 4 fc', .slice da' 6 dc'])) := ⟨_, _, _, rfl, by rw [unhide HS]; exact IZ, by rw [unhide HS]; exact VZ, BZ⟩
      clear hSA hIN hST IZ VZ BZ hI HEA HEL HA0 HAn hok4 hD6 hB4
      go_wp2
      exact bodyPost_ret (res_cell_tmp Tryz.results199 _ _ (w.heap.size + 1) [.slice fa' 4 fc', .slice da' 6 dc'] _ rfl p1.cells Tryz.underlying26 rfl (by kernel_rfl)) rfl (unhide HP)

set_option maxRecDepth 100000 in
set_option maxHeartbeats 4000000 in
theorem each_no (fa : Option Addr) (fc : Nat) (bs : List Bk) (da : Option Addr) (dc : Nat) (dk : List Int) (w : World) (h : SAt w fa bs da dk) (hs : stB bs dk = false) (hm : bs.length ≤ 9223372036854775807) (hm2 : dk.length ≤ 9223372036854775807) :
    Calls Tryz.prog 199 #[.agg #[.slice fa bs.length fc, .slice da dk.length dc]] w fun e w' => FePost w bs dk e w' := by
  have HS := hide hs
  have HAT := hide h
  have HM := hide (And.intro hm hm2)
  have BX := ((Below.refl w.heap.size w).alloc (Nat.le_refl _) (.cells #[.slice fa bs.length fc, .slice da dk.length dc] 26)).alloc (by simp) (.cells #[.slice none 0 0, .slice none 0 0] 26)
  have cS := (store_box w (.slice fa bs.length fc) (.slice da dk.length dc)).alloc (by simp) (.cells #[.slice none 0 0, .slice none 0 0] 26)
  have cR := store_box (w.alloc (.cells #[.slice fa bs.length fc, .slice da dk.length dc] 26)) (.slice none 0 0) (.slice none 0 0)
  rw [World.size_alloc] at cR
  have s0 : ((w.alloc (.cells #[.slice fa bs.length fc, .slice da dk.length dc] 26)).alloc (.cells #[.slice none 0 0, .slice none 0 0] 26)).heap.size = w.heap.size + 2 := by simp
  clear h hs hm hm2
  go_enter Tryz.func199, Tryz.ntmps199
  go_upto_region 1 with fail
  generalize (w.alloc (.cells #[.slice fa bs.length fc, .slice da dk.length dc] 26)).alloc (.cells #[.slice none 0 0, .slice none 0 0] 26) = w1 at *
  have hA1 := hide ((unhide HAT).below BX)
  clear HAT
  go_wp2
  go_loopw [5, 4] (fun i v w' => ∃ (n : Nat) (fa' : Option Addr) (fc' : Nat) (xs : List Bk) (da' : Option Addr) (dc' : Nat) (ds : List Int), 1 ≤ n ∧ n ≤ 7 ∧ i = .int .i64 n ∧ Hid (SAt w' fa' xs da' ds ∧ stB xs ds = false ∧ xs.length ≤ 9223372036854775807 ∧ ds.length ≤ 9223372036854775807) ∧ Hid (1 < n → fa' = none ∧ fc' = 0 ∧ xs = [] ∧ da' = none ∧ dc' = 0 ∧ ds = []) ∧ Hid (Sts w' (w.heap.size + 2) v []) ∧ CsAt w' w.heap.size [.slice fa' xs.length fc', .slice da' ds.length dc'] ∧ CsAt w' (w.heap.size + 1) [.slice none 0 0, .slice none 0 0] ∧ w.heap.size + 2 ≤ w'.heap.size ∧ Below w.heap.size w w') (fun i _ _ => 7 - (intOf i).toNat)
  case atStart => exact ⟨1, fa, fc, bs, da, dc, dk, by omega, by omega, rfl, ⟨hA1, unhide HS, (unhide HM).1, (unhide HM).2⟩, (fun q => by omega), TwA.Sts.nilN _ _, cS, cR, by omega, BX⟩
  case round =>
    clear BX cS cR s0 hA1
    obtain ⟨n, fa', fc', xs, da', dc', ds, hn1, hn7, rfl, hSA, hIN, hST, cS, cR, hsz, hB⟩ := hrel
    generalize u4 = vA at *
    by_cases h6 : n ≤ 6
    · have hni : (n : Int) ≤ 6 := by omega
      have y0 := cS.cell 0 _ rfl
      have y1 := cS.cell 1 _ rfl
      obtain ⟨L, hLe⟩ : ∃ L : List Stp, flushS xs ds (n : Int) = L := ⟨_, rfl⟩
      have hL0 : L = [] := by rw [← hLe]; unfold flushS; rw [(unhide hSA).2.1]; rfl
      have HFL := hide (implFlush_any fa' fc' xs da' dc' ds (n : Int) (by omega) (by omega) wr (unhide hSA).1 (unhide hSA).2.2.1 (unhide hSA).2.2.2)
      rw [hLe] at HFL
      have HIM := hide (fun (sa : Option Addr) (sc : Nat) (w' : World) (h : SAt w' fa' xs da' ds) (hL : SsAt w' sa L) => implTo_any fa' fc' xs da' dc' ds sa sc L (L.length : Int) (by omega) (by rw [hL0]; simp) false w' h hL (unhide hSA).2.2.1 (unhide hSA).2.2.2 (by rw [hL0]; simp))
      have HTK : Hid (toOk xs ds L (L.length : Int) = false) := by show _ = _; unfold toOk; rw [(unhide hSA).2.1]; rfl
      have HL7 : Hid (L.length ≤ 7) := by show _ ≤ _; rw [hL0]; simp
      have HL0 := hide hL0
      clear hLe hL0
      go_wp2_with fail
      refine (unhide HFL).mono ?_
      rintro e w2 ⟨v2, rfl, r2, d2⟩
      obtain ⟨sa, sc, rfl, hss, hap⟩ := stepsArg r2
      have q2 := d2.size
      have S2 := hide ((unhide hSA).1.below d2)
      have V2 := hide ((unhide hST).below d2 (Nat.le_refl _))
      have cS2 := cS.below d2 (by omega)
      have cR2 := cR.below d2 (by omega)
      have B2 := hB.trans (d2.mono hB.size)
      clear y0 y1 cS cR hB HFL hSA
      have y0 := cS2.cell 0 _ rfl
      have y1 := cS2.cell 1 _ rfl
      go_wp2_with fail
      refine (unhide HIM sa sc w2 (unhide S2) hss).mono ?_
      intro e w3 hT
      rcases hT with ⟨_, rfl, d3⟩ | ⟨ht, _⟩
      rotate_left
      · rw [unhide HTK] at ht; cases ht
      have q3 := d3.size
      have V3 := hide ((unhide V2).below d3 (Nat.le_refl _))
      have L3 := r2.below d3 (Nat.le_refl _)
      have cS3 := cS2.below d3 (by omega)
      have cR3 := cR2.below d3 (by omega)
      have B3 := B2.trans (d3.mono B2.size)
      clear y0 y1 cS2 cR2 B2 d2 d3 S2 V2 r2 hss HIM HTK
      have f0 := cS3.frozen 0 (by simp)
      have f1 := cS3.frozen 1 (by simp)
      have y0 := cS3.cell 0 _ rfl
      have y1 := cS3.cell 1 _ rfl
      have kz := kept_cells w3 w.heap.size 0 [.slice none 0 0, .slice none 0 0]
      have V4 := hide (Sts.kept (unhide V3) kz (fun z hz => by simp at hz; omega))
      have L4 := Sts.kept L3 kz (fun z hz => by simp at hz; omega)
      have cS4 := cS3.put [.slice none 0 0, .slice none 0 0] rfl
      have cR4 := csAt_kept cR3 kz (by omega) (by simp)
      have B4 := below_setCells w.heap.size (Nat.le_refl _) [.slice none 0 0, .slice none 0 0] 0 _ B3
      have q4 : w3.heap.size ≤ (w3.setCells w.heap.size 0 [.slice none 0 0, .slice none 0 0]).heap.size := by rw [size_setCells]; exact Nat.le_refl _
      clear V3 L3 cS3 cR3 B3 kz
      go_upto_region 7 with fail
      rw [show (w3.setCell ⟨w.heap.size, 0, none⟩ (.slice none 0 0)).setCell ⟨w.heap.size, 1, none⟩ (.slice none 0 0) = w3.setCells w.heap.size 0 [.slice none 0 0, .slice none 0 0] from rfl]
      generalize w3.setCells w.heap.size 0 [.slice none 0 0, .slice none 0 0] = w4 at *
      obtain ⟨iS, hiS, hzS, hsS, hbS⟩ := infoS
      clear f0 f1 y0 y1
      have hV := (unhide V4).row
      rcases hap with ⟨rfl, rfl, rfl⟩ | ⟨g2, rfl⟩
      · go_wp2_with (refine wpList_append_own_none rfl _ _ 29 rfl (w.heap.size + 2) 50 iS 8 Tryz.underlying29 hiS vA _ _ rfl hV rfl ?_)
        go_roundw
        case rel => exact ⟨n + 1, none, 0, [], none, 0, [], by omega, by omega, by first | rfl | go_num, ⟨⟨.inl rfl, .inl rfl⟩, by decide, by simp, by simp⟩, (fun _ => ⟨rfl, rfl, rfl, rfl, rfl, rfl⟩), unhide V4, cS4, cR4, by omega, B4⟩
        case measure => simp [intOf]; omega
      · have hcl := cellsOf L4
        have hLL := hide (len_stsC L)
        have hll : ([] : List Stp).length = 0 := rfl
        go_wp2_with (refine wpList_append_own_at _ rfl _ _ 29 rfl (w.heap.size + 2) 50 iS (.agg (stC zSt).toArray) 8 64 Tryz.underlying29 hiS hzS hsS hbS rfl (by omega) vA _ _ rfl hV ⟨g2, 0, none⟩ L.length sc (stsC L) rfl (unhide hLL) hcl (one_stsC _) (by have := unhide HL7; simp [maxLen]; omega) (by have := unhide HL7; omega) (by omega) ?_; intro v' w5 ho5 hg5 _ hat)
        obtain ⟨V5, b5⟩ := Sts.pushA (unhide V4) (by omega) ho5 hg5
        have kZ : Kept vA.ownBlock.toList w4 w5 := (Kept.refl _ w4).grown hg5 (fun k e => .inl (by simp [e]))
        have cS5 := cS4.below b5 (by omega)
        have cR5 := cR4.below b5 (by omega)
        have B5 := B4.trans (b5.mono (by omega))
        have q5 := b5.size
        clear ho5 hg5 hV hcl
        have V6 : Sts w5 (w.heap.size + 2) v' [] := by have := V5; rw [unhide HL0] at this; exact this
        go_roundw
        case rel => exact ⟨n + 1, none, 0, [], none, 0, [], by omega, by omega, by first | rfl | go_num, ⟨⟨.inl rfl, .inl rfl⟩, by decide, by simp, by simp⟩, (fun _ => ⟨rfl, rfl, rfl, rfl, rfl, rfl⟩), V6, cS5, cR5, by omega, B5⟩
        case measure => simp [intOf]; omega
    · have hni : ¬ (n : Int) ≤ 6 := by omega
      obtain rfl : n = 7 := by omega
      obtain ⟨rfl, rfl, rfl, rfl, rfl, rfl⟩ := unhide hIN (by omega)
      have y0 := cS.cell 0 _ rfl
      have y1 := cS.cell 1 _ rfl
      have d0 := cR.cell 0 _ rfl
      have d1 := cR.cell 1 _ rfl
      have f0 := cR.frozen 0 (by simp)
      have f1 := cR.frozen 1 (by simp)
      have p1 := cR.put [.slice none 0 0, .slice none 0 0] rfl
      have kz := kept_cells wr (w.heap.size + 1) 0 [.slice none 0 0, .slice none 0 0]
      have VZ := (Sts.kept (unhide hST) kz (fun z hz => by simp at hz; omega)).mono (lo' := w.heap.size) (by omega)
      have BZ := below_setCells (w.heap.size + 1) (by omega) [.slice none 0 0, .slice none 0 0] 0 _ hB
      have HP : Hid (FePost w bs dk (.returned (.tuple #[.agg #[.slice none 0 0, .slice none 0 0], vA])) (wr.setCells (w.heap.size + 1) 0 [.slice none 0 0, .slice none 0 0])) := ⟨_, _, _, rfl, by rw [unhide HS]; exact .inl ⟨rfl, rfl, rfl⟩, by rw [unhide HS]; exact VZ, BZ⟩
      clear hSA hIN hST VZ BZ
      go_wp2
      exact bodyPost_ret (res_cell_tmp Tryz.results199 _ _ (w.heap.size + 1) [.slice none 0 0, .slice none 0 0] _ rfl p1.cells Tryz.underlying26 rfl (by kernel_rfl)) rfl (unhide HP)
theorem each_any (fa : Option Addr) (fc : Nat) (bs : List Bk) (da : Option Addr) (dc : Nat) (dk : List Int) (w : World) (h : SAt w fa bs da dk) (hm : bs.length ≤ 9223372036854775807) (hm2 : dk.length ≤ 9223372036854775807) :
    Calls Tryz.prog 199 #[.agg #[.slice fa bs.length fc, .slice da dk.length dc]] w fun e w' => FePost w bs dk e w' := by
  cases hs : stB bs dk
  · exact each_no fa fc bs da dc dk w h hs hm hm2
  · obtain ⟨hok, h6⟩ := st_parts hs
    have := each_ok fa fc bs da dc dk w h hs
    rw [ok_len hok, h6]
    exact this
end Go.Proofs.YtogfelpdgeionaaGreat.PdB
