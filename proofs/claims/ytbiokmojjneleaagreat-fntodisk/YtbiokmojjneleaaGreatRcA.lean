/-
  Texts that belong together, one behind the other: PdA, PdB, EvL, PdC, PdD, EvS, ExS, SnA.
-/
import Derived.Test.YtbiokmojjneleaaGreatHbK
import Derived.Test.YtbiokmojjneleaaGreatHbW
import Derived.Test.YtbiokmojjneleaaGreatRbI
import Derived.Laws.AppendOwnNone
import Derived.Maps.AppendAt
import Derived.Test.YtbiokmojjneleaaGreatRbS
import Derived.Test.YtbiokmojjneleaaGreatRbB
import Derived.Test.YtbiokmojjneleaaGreatHaZ
import Derived.Test.YtbiokmojjneleaaGreatHaF
import Derived.Test.YtbiokmojjneleaaGreatHaG

/-
  The program's steps of an event that are begun, and its telling the slow disk of all.
-/
namespace Go.Proofs.YtbiokmojjneleaaGreat.PdA
open TwA Go.ChangeShapes Go.WideShapes Go.ChangeAt Go.RowKit Go.Shelf OkA Big Fl ImplB ImplF ImplS _root_.Go.Proofs.YtbiokmojjneleaaGreat.Own ImplT ImplU SpecA SpecB SpecC SpecD SpecW SpecF SpecG SpecH Ok2 Pl FindP ImplL Kp StA StB StC StD StE StF StG SpS SpT RmA WrA FlA DoA ToA PlA LawU LawS LawV LawI LawT LawW SpU TwB TwC QuB QuE SpV MkN Ct AlX PaA PaB DpX Cu
set_option linter.unusedVariables false
set_option linter.unusedSimpArgs false
attribute [local go_sem ↓] Go.wp_at_zero Go.wp_at_succ

theorem stsC_app (l m : List Stp) : stsC (l ++ m) = stsC l ++ stsC m := by simp [stsC]
theorem stsC_take (l : List Stp) (n : Nat) (hn : n ≤ l.length) : stsC (l.take n) = (stsC l).take (n * 8) := by
  have e : stsC l = stsC (l.take n) ++ stsC (l.drop n) := by rw [← stsC_app, List.take_append_drop]
  rw [e]
  exact (List.take_left' (by rw [len_stsC, List.length_take]; congr 1; omega)).symm
theorem form2 {w : World} {lo : Nat} {v : Value} {l : List Stp} (h : Sts w lo v l) : (v = .slice none 0 0 ∧ l = []) ∨ ∃ g cap, v = .slice (some ⟨g, 0, none⟩) l.length cap ∧ l.length ≤ cap ∧ cap ≤ maxLen ∧ lo ≤ g ∧ g < w.heap.size ∧ ∀ j u, (stsC l)[j]? = some u → w.cell? ((⟨g, 0, none⟩ : Addr).add j) = some u := by
  obtain ⟨_, h2⟩ := h.row
  rcases h2 with ⟨e, hn⟩ | ⟨g, cap, cur, e, hb, hh, h3, h4, _⟩
  · exact .inl ⟨e, List.eq_nil_of_length_eq_zero hn⟩
  · have hg := h.lt g (by rw [e]; rfl)
    refine .inr ⟨g, cap, e, h3, h4, hg.1, hg.2, fun j u hu => ?_⟩
    exact h.row.cells (by rw [e]; rfl) j u hu
theorem Sts.take {w : World} {lo g cap : Nat} {l : List Stp} (h : Sts w lo (.slice (some ⟨g, 0, none⟩) l.length cap) l) (n : Nat) (hn : n ≤ l.length) : Sts w lo (.slice (some ⟨g, 0, none⟩) n cap) (l.take n) := by
  obtain ⟨h1, h2⟩ := h.row
  rcases h2 with ⟨e, _⟩ | ⟨g', cap', cur, e, hb, hh, h3, h4, h5, h6⟩
  · cases e
  · cases e
    have hl : (l.take n).length = n := by rw [List.length_take]; omega
    refine ⟨⟨len_stsC _, .inr ⟨g, cap, cur, by rw [hl], hb, hh, by omega, h4, h5, ?_⟩⟩, fun k hk => h.lt k hk⟩
    rw [hl, stsC_take l n hn, ← h6, List.take_take]
    congr 1
    have := Nat.mul_le_mul_right 8 hn
    omega
theorem Sts.pushA {w w' : World} {lo : Nat} {v v' : Value} {l m : List Stp} (h : Sts w lo v l) (hlo : lo ≤ w.heap.size) (ho : w'.ownsRow lo 38 8 v' (l.length + m.length) (stsC l ++ stsC m)) (hg : w.grownBy w' v.ownBlock) : Sts w' lo v' (l ++ m) ∧ Below lo w w' :=
  ⟨⟨by rw [stsC_app, List.length_append]; exact ho, fun g e => ho.lt g e⟩, (Below.refl _ _).grown hg hlo (fun k e => (h.lt k e).1)⟩

/-- How many of the steps of an event are begun. -/
def begN (c : Int) (t : Bool) (n : Nat) : Nat := if (n : Int) ≤ c then n else if t then c.toNat + 1 else c.toNat
theorem begN_le (c : Int) (t : Bool) (n : Nat) (hc : 0 ≤ c) : begN c t n ≤ n := by
  unfold begN
  split
  · omega
  · split <;> omega
def BgPost (w : World) (lo : Nat) (L : List Stp) (c : Int) (t : Bool) (e : Ending) (w' : World) : Prop := ∃ v', e = .returned v' ∧ Sts w' lo v' (L.take (begN c t L.length)) ∧ Below w.heap.size w w'

set_option maxRecDepth 100000 in
set_option maxHeartbeats 2000000 in
theorem begun_any (k a b c : Int) (t : Bool) (hc0 : 0 ≤ c) (hc1 : c ≤ 9223372036854775807) (v : Value) (lo : Nat) (L : List Stp) (w : World) (h : Sts w lo v L) (hl : L.length ≤ 1048576) :
    Calls Tryz.prog 88 #[.agg #[.int .i64 k, .int .i64 a, .int .i64 b, .int .i64 c, .bool t], v] w fun e w' => BgPost w lo L c t e w' := by
  have B0 : Below w.heap.size w (w.alloc (.cells #[.int .i64 k, .int .i64 a, .int .i64 b, .int .i64 c, .bool t] 42)) := (Below.refl _ _).alloc (Nat.le_refl _) _
  have cE := CsAt.new w [.int .i64 k, .int .i64 a, .int .i64 b, .int .i64 c, .bool t] 42
  have h0 := h.below B0 (Nat.le_refl _)
  have e3 := cE.cell 3 _ rfl
  have e4 := cE.cell 4 _ rfl
  rcases form2 h0 with ⟨rfl, rfl⟩ | ⟨g, cap, rfl, hcap, hmx, _, _, _⟩
  · have HP : Hid (BgPost w lo [] c t (.returned (.slice none 0 0)) (w.alloc (.cells #[.int .i64 k, .int .i64 a, .int .i64 b, .int .i64 c, .bool t] 42))) := ⟨_, rfl, by simpa using h0, B0⟩
    clear h0 h B0 cE
    go_enter Tryz.func88, Tryz.ntmps88
    by_cases hz : c = 0
    · subst hz
      cases t
      · go_wp2
        go_ret
        exact unhide HP
      · go_wp2
        go_ret
        exact unhide HP
    · have hp : 0 < c := by omega
      have hn : ¬ c < 0 := by omega
      cases t
      · go_wp2
        go_ret
        exact unhide HP
      · go_wp2
        go_ret
        exact unhide HP
  · have HP : Hid (∀ n, n = begN c t L.length → BgPost w lo L c t (.returned (.slice (some ⟨g, 0, none⟩) n cap)) (w.alloc (.cells #[.int .i64 k, .int .i64 a, .int .i64 b, .int .i64 c, .bool t] 42))) := fun n hn => ⟨_, rfl, by rw [← hn]; exact Sts.take h0 n (by rw [hn]; exact begN_le c t _ hc0), B0⟩
    have hmx' : cap ≤ 9223372036854775807 := by simpa [maxLen] using hmx
    clear h0 h B0 cE hmx
    have HB : Hid (begN c t L.length = if (L.length : Int) ≤ c then L.length else if t then c.toNat + 1 else c.toNat) := rfl
    generalize begN c t L.length = N at *
    generalize L.length = n at *
    go_enter Tryz.func88, Tryz.ntmps88
    by_cases hlt : c < (n : Int)
    · obtain ⟨m, rfl⟩ : ∃ m : Nat, c = (m : Int) := ⟨c.toNat, by omega⟩
      have hge : ¬ (n : Int) < (m : Int) := by omega
      have hm1 : (m : Int) + 1 ≤ (cap : Int) := by omega
      have hm2 : (m : Int) ≤ (cap : Int) := by omega
      cases t
      · have HN := hide (unhide HP m (by rw [unhide HB, if_neg (by omega), if_neg (by simp)]; rfl))
        go_wp2
        go_ret
        simpa using unhide HN
      · have HN := hide (unhide HP (m + 1) (by rw [unhide HB, if_neg (by omega), if_pos rfl]; rfl))
        go_wp2
        go_ret
        simpa using unhide HN
    · have HN := hide (unhide HP n (by rw [unhide HB, if_pos (by omega)]))
      have hnc : (n : Int) ≤ (cap : Int) := by omega
      by_cases hz : c = (n : Int)
      · subst hz
        cases t
        · go_wp2
          go_ret
          simpa using unhide HN
        · go_wp2
          go_ret
          simpa using unhide HN
      · have hp : (n : Int) < c := by omega
        cases t
        · go_wp2
          go_ret
          simpa using unhide HN
        · go_wp2
          go_ret
          simpa using unhide HN
end Go.Proofs.YtbiokmojjneleaaGreat.PdA

/-
  The program's telling the slow disk of all.
-/
namespace Go.Proofs.YtbiokmojjneleaaGreat.PdB
open TwA Go.ChangeShapes Go.WideShapes Go.ChangeAt Go.RowKit Go.Shelf OkA Big Fl ImplB ImplF ImplS _root_.Go.Proofs.YtbiokmojjneleaaGreat.Own ImplT ImplU SpecA SpecB SpecC SpecD SpecW SpecF SpecG SpecH Ok2 Pl FindP ImplL Kp StA StB StC StD StE StF StG SpS SpT RmA WrA FlA DoA ToA PlA LawU LawS LawV LawI LawT LawW SpU TwB TwC QuB QuE SpV MkN Ct AlX PaA PaB DpX Cu PdA
set_option linter.unusedVariables false
set_option linter.unusedSimpArgs false
attribute [local go_sem ↓] Go.wp_at_zero Go.wp_at_succ

theorem Sts.kept {w w' : World} {lo : Nat} {v : Value} {l : List Stp} (h : Sts w lo v l) {M : List Nat} (k : Kept M w w') (hL : ∀ x ∈ M, x < lo) : Sts w' lo v l := by
  obtain ⟨h1, h2⟩ := h.row
  refine ⟨⟨h1, ?_⟩, fun g hg => ⟨(h.lt g hg).1, Nat.lt_of_lt_of_le (h.lt g hg).2 k.size⟩⟩
  rcases h2 with h2 | ⟨g, cap, cur, e, hb, hh, r⟩
  · exact .inl h2
  · have hg := h.lt g (by rw [e]; rfl)
    exact .inr ⟨g, cap, cur, e, hb, by rw [k.block g hg.2 (fun hm => by have := hL g hm; omega)]; exact hh, r⟩
theorem InT.mono {w : World} {lo hi lo' hi' : Nat} {x y : Value} {ok : Bool} {bs : List Bk} {dk : List Int} (h : InT w lo hi x y ok bs dk) (hl : lo' ≤ lo) (hh : hi ≤ hi') : InT w lo' hi' x y ok bs dk := by
  rcases h with h | ⟨rfl, g, G, d, c1, c2, rfl, rfl, o, hr, r⟩
  · exact .inl h
  · exact .inr ⟨rfl, g, G, d, c1, c2, rfl, rfl, o.mono hl, fun z hz => by have := hr z hz; omega, r⟩
theorem InT.sat {w : World} {lo hi : Nat} {x y : Value} {bs : List Bk} {dk : List Int} (h : InT w lo hi x y true bs dk) : ∃ fa fc da dc, x = .slice fa 4 fc ∧ y = .slice da 6 dc ∧ SAt w fa bs da dk := by
  rcases h with ⟨h, _⟩ | ⟨_, g, G, d, c1, c2, rfl, rfl, o, _⟩
  · cases h
  · exact ⟨_, _, _, _, rfl, rfl, o.sat⟩
theorem satI {w : World} {lo hi n m : Nat} {fa da : Option Addr} {fc dc : Nat} {B : List Bk} {K : List Int} (h : InT w lo hi (.slice fa n fc) (.slice da m dc) true B K) : SAt w fa B da K := by
  rcases h with ⟨q, _⟩ | ⟨_, g, G, d, c1, c2, e1, e2, o, _⟩
  · cases q
  · cases e1; cases e2; exact o.sat
theorem stepsArg {w : World} {lo : Nat} {v : Value} {l : List Stp} (h : Sts w lo v l) : ∃ sa sc, v = .slice sa l.length sc ∧ SsAt w sa l ∧ ((sa = none ∧ l = [] ∧ sc = 0) ∨ ∃ g, sa = some ⟨g, 0, none⟩) := by
  rcases form2 h with ⟨rfl, rfl⟩ | ⟨g, cap, rfl, _, _, _, _, hc⟩
  · exact ⟨none, 0, rfl, .inl rfl, .inl ⟨rfl, rfl, rfl⟩⟩
  · exact ⟨_, cap, rfl, .inr ⟨g, 0, rfl, fun j u hu => by have := hc j u hu; rw [Addr.add_lit] at this; exact this⟩, .inr ⟨g, rfl⟩⟩
theorem cellsOf {w : World} {lo g n cap : Nat} {l : List Stp} (h : Sts w lo (.slice (some ⟨g, 0, none⟩) n cap) l) : ∀ j u, (stsC l)[j]? = some u → w.cell? ((⟨g, 0, none⟩ : Addr).add j) = some u := fun j u hu => h.row.cells rfl j u hu
/-- The steps of telling all. -/
def allL (bs : List Bk) (dk : List Int) : Nat → List Stp
  | 0 => []
  | n + 1 => allL bs dk n ++ flushP (allA bs dk n).1 (allA bs dk n).2 ((n + 1 : Nat) : Int)
theorem allA_step (bs : List Bk) (dk : List Int) {n : Nat} (h : 1 ≤ n) : allA bs dk n = flA (allA bs dk (n - 1)) n := by
  obtain ⟨m, rfl⟩ : ∃ m, n = m + 1 := ⟨n - 1, by omega⟩
  rfl
theorem allL_step (bs : List Bk) (dk : List Int) {n : Nat} (h : 1 ≤ n) : allL bs dk n = allL bs dk (n - 1) ++ flushP (allA bs dk (n - 1)).1 (allA bs dk (n - 1)).2 (n : Int) := by
  obtain ⟨m, rfl⟩ : ∃ m, n = m + 1 := ⟨n - 1, by omega⟩
  rfl
def FePost (w : World) (bs : List Bk) (dk : List Int) (e : Ending) (w' : World) : Prop := ∃ x y v, e = .returned (.tuple #[.agg #[x, y], v]) ∧ InT w' w.heap.size w'.heap.size x y (stB bs dk) (allA bs dk 6).1 (allA bs dk 6).2 ∧ Sts w' w.heap.size v (if stB bs dk then allL bs dk 6 else []) ∧ Below w.heap.size w w'
def SepV (v : Value) (lo hi : Nat) : Prop := ∀ g, v.ownBlock = some g → g < lo ∨ hi ≤ g

set_option maxRecDepth 100000 in
set_option maxHeartbeats 4000000 in
theorem each_ok (fa : Option Addr) (fc : Nat) (bs : List Bk) (da : Option Addr) (dc : Nat) (dk : List Int) (w : World) (h : SAt w fa bs da dk) (hs : stB bs dk = true) :
    Calls Tryz.prog 87 #[.agg #[.slice fa 4 fc, .slice da 6 dc]] w fun e w' => FePost w bs dk e w' := by
  have HA := hide (fun n => (allA_sm hs n).1)
  have HS := hide hs
  have HAT := hide h
  have BX := ((Below.refl w.heap.size w).alloc (Nat.le_refl _) (.cells #[.slice fa 4 fc, .slice da 6 dc] 26)).alloc (by simp) (.cells #[.slice none 0 0, .slice none 0 0] 26)
  have cS := (store_box w (.slice fa 4 fc) (.slice da 6 dc)).alloc (by simp) (.cells #[.slice none 0 0, .slice none 0 0] 26)
  have cR := store_box (w.alloc (.cells #[.slice fa 4 fc, .slice da 6 dc] 26)) (.slice none 0 0) (.slice none 0 0)
  rw [World.size_alloc] at cR
  have s0 : ((w.alloc (.cells #[.slice fa 4 fc, .slice da 6 dc] 26)).alloc (.cells #[.slice none 0 0, .slice none 0 0] 26)).heap.size = w.heap.size + 2 := by simp
  clear h hs
  go_enter Tryz.func87, Tryz.ntmps87
  go_upto_region 1 with fail
  generalize (w.alloc (.cells #[.slice fa 4 fc, .slice da 6 dc] 26)).alloc (.cells #[.slice none 0 0, .slice none 0 0] 26) = w1 at *
  have hA1 := hide ((unhide HAT).below BX)
  clear HAT
  go_wp2
  go_loopw [5, 4] (fun i v w' => ∃ (n : Nat) (fa' : Option Addr) (fc' : Nat) (da' : Option Addr) (dc' : Nat), 1 ≤ n ∧ n ≤ 7 ∧ i = .int .i64 n ∧ Hid (SAt w' fa' (allA bs dk (n - 1)).1 da' (allA bs dk (n - 1)).2) ∧ Hid (1 < n → ∃ lo hi, w.heap.size + 2 ≤ lo ∧ hi ≤ w'.heap.size ∧ InT w' lo hi (.slice fa' 4 fc') (.slice da' 6 dc') true (allA bs dk (n - 1)).1 (allA bs dk (n - 1)).2 ∧ SepV v lo hi) ∧ Hid (Sts w' (w.heap.size + 2) v (allL bs dk (n - 1)) ∧ (allL bs dk (n - 1)).length ≤ 7 * (n - 1)) ∧ CsAt w' w.heap.size [.slice fa' 4 fc', .slice da' 6 dc'] ∧ CsAt w' (w.heap.size + 1) [.slice none 0 0, .slice none 0 0] ∧ w.heap.size + 2 ≤ w'.heap.size ∧ Below w.heap.size w w') (fun i _ _ => 7 - (intOf i).toNat)
  case atStart => exact ⟨1, fa, fc, da, dc, by omega, by omega, rfl, hA1, (fun q => by omega), ⟨TwA.Sts.nilN _ _, by simp [allL]⟩, cS, cR, by omega, BX⟩
  case round =>
    clear BX cS cR s0 hA1
    obtain ⟨n, fa', fc', da', dc', hn1, hn7, rfl, hSA, hIN, hST, cS, cR, hsz, hB⟩ := hrel
    generalize u4 = vA at *
    have HA0 := hide (unhide HA (n - 1))
    have HAn := hide (unhide HA n)
    have HEA := hide (allA_step bs dk hn1)
    have HEL := hide (allL_step bs dk hn1)
    obtain ⟨hok4, hD6⟩ := st_parts (unhide HA0)
    have hB4 := ok_len hok4
    by_cases h6 : n ≤ 6
    · have hni : (n : Int) ≤ 6 := by omega
      have y0 := cS.cell 0 _ rfl
      have y1 := cS.cell 1 _ rfl
      have HE1 := hide (ev_flush (unhide HA0) (n : Int))
      have HL7 := hide (flushP_len (allA bs dk (n - 1)).1 (allA bs dk (n - 1)).2 (n : Int) hok4)
      have HTK := hide (fl_tk (unhide HA0) (n : Int) ((flushP (allA bs dk (n - 1)).1 (allA bs dk (n - 1)).2 (n : Int)).length : Int) (by omega))
      have HFL := hide (implFlush_any fa' fc' (allA bs dk (n - 1)).1 da' dc' (allA bs dk (n - 1)).2 (n : Int) (by omega) (by omega) wr (unhide hSA) (by omega) (by omega))
      have HIM := hide (fun (sa : Option Addr) (sc : Nat) (w' : World) (h : SAt w' fa' (allA bs dk (n - 1)).1 da' (allA bs dk (n - 1)).2) (hL : SsAt w' sa (flushP (allA bs dk (n - 1)).1 (allA bs dk (n - 1)).2 (n : Int))) => implTo_any fa' fc' (allA bs dk (n - 1)).1 da' dc' (allA bs dk (n - 1)).2 sa sc (flushP (allA bs dk (n - 1)).1 (allA bs dk (n - 1)).2 (n : Int)) ((flushP (allA bs dk (n - 1)).1 (allA bs dk (n - 1)).2 (n : Int)).length : Int) (by omega) (by have := unhide HL7; omega) false w' h hL (by omega) (by omega) (by have := unhide HL7; omega))
      rw [hB4, hD6] at HFL HIM
      rw [← unhide HE1] at HFL
      clear HE1
      have HQA : Hid (allA bs dk n = (toB (allA bs dk (n - 1)).1 (flushP (allA bs dk (n - 1)).1 (allA bs dk (n - 1)).2 (n : Int)) ((flushP (allA bs dk (n - 1)).1 (allA bs dk (n - 1)).2 (n : Int)).length : Int) false, toK (allA bs dk (n - 1)).2 (flushP (allA bs dk (n - 1)).1 (allA bs dk (n - 1)).2 (n : Int)) ((flushP (allA bs dk (n - 1)).1 (allA bs dk (n - 1)).2 (n : Int)).length : Int) false)) := unhide HEA
      generalize (allA bs dk (n - 1)).1 = B at *
      generalize (allA bs dk (n - 1)).2 = D at *
      go_wp2_with fail
      refine (unhide HFL).mono ?_
      rintro e w2 ⟨v2, rfl, r2, d2⟩
      generalize flushP B D (n : Int) = L at *
      obtain ⟨sa, sc, rfl, hss, hap⟩ := stepsArg r2
      have q2 := d2.size
      have S2 := hide ((unhide hSA).below d2)
      have V2 := hide (((unhide hST).1).below d2 (Nat.le_refl _))
      have cS2 := cS.below d2 (by omega)
      have cR2 := cR.below d2 (by omega)
      have B2 := hB.trans (d2.mono hB.size)
      have HV2 : Hid (∀ g, vA.ownBlock = some g → g < wr.heap.size) := fun g hg => ((unhide hST).1.lt g hg).2
      clear y0 y1 cS cR hB HFL hSA
      have y0 := cS2.cell 0 _ rfl
      have y1 := cS2.cell 1 _ rfl
      go_wp2_with fail
      refine (unhide HIM sa sc w2 (unhide S2) hss).mono ?_
      intro e w3 hT
      rcases hT with ⟨hf, _⟩ | ⟨_, g, G, d, c1, c2, rfl, o3, d3⟩
      · rw [unhide HTK] at hf; cases hf
      have hi3 : ∀ z ∈ d :: g :: G, w2.heap.size ≤ z ∧ z < w3.heap.size := fun z hz => by
        rcases List.mem_cons.1 hz with rfl | hz
        · exact ⟨o3.dlo, o3.dhi⟩
        · exact ⟨o3.own.lo z hz, o3.own.hi z hz⟩
      have hEB := congrArg Prod.fst (unhide HQA)
      have hEK := congrArg Prod.snd (unhide HQA)
      dsimp only at hEB hEK
      rw [← hEB, ← hEK] at o3
      clear hEB hEK HQA HTK
      obtain ⟨hokn, hDn⟩ := st_parts (unhide HAn)
      have I3 := hide (show InT w3 w2.heap.size w3.heap.size (.slice (some ⟨g, 0, none⟩) 4 c1) (.slice (some ⟨d, 0, none⟩) 6 c2) true (allA bs dk n).1 (allA bs dk n).2 from .inr ⟨rfl, g, G, d, c1, c2, rfl, rfl, o3, hi3, ok_fours hokn, ok_len hokn, hDn⟩)
      have q3 := d3.size
      have V3 := hide ((unhide V2).below d3 (Nat.le_refl _))
      have L3 := r2.below d3 (Nat.le_refl _)
      have cS3 := cS2.below d3 (by omega)
      have cR3 := cR2.below d3 (by omega)
      have B3 := B2.trans (d3.mono B2.size)
      clear y0 y1 cS2 cR2 B2 d2 d3 S2 V2 o3 r2 hss HIM
      have f0 := cS3.frozen 0 (by simp)
      have f1 := cS3.frozen 1 (by simp)
      have y0 := cS3.cell 0 _ rfl
      have y1 := cS3.cell 1 _ rfl
      have kz := kept_cells w3 w.heap.size 0 [.slice (some ⟨g, 0, none⟩) 4 c1, .slice (some ⟨d, 0, none⟩) 6 c2]
      have I4 := hide ((unhide I3).only (OnlyG.kept kz) (fun z hz => by simp at hz; subst hz; left; omega))
      have V4 := hide (Sts.kept (unhide V3) kz (fun z hz => by simp at hz; omega))
      have L4 := Sts.kept L3 kz (fun z hz => by simp at hz; omega)
      have cS4 := cS3.put [.slice (some ⟨g, 0, none⟩) 4 c1, .slice (some ⟨d, 0, none⟩) 6 c2] rfl
      have cR4 := csAt_kept cR3 kz (by omega) (by simp)
      have B4 := below_setCells w.heap.size (Nat.le_refl _) [.slice (some ⟨g, 0, none⟩) 4 c1, .slice (some ⟨d, 0, none⟩) 6 c2] 0 _ B3
      have q4 : w3.heap.size ≤ (w3.setCells w.heap.size 0 [.slice (some ⟨g, 0, none⟩) 4 c1, .slice (some ⟨d, 0, none⟩) 6 c2]).heap.size := by rw [size_setCells]; exact Nat.le_refl _
      have q5 : (w3.setCells w.heap.size 0 [.slice (some ⟨g, 0, none⟩) 4 c1, .slice (some ⟨d, 0, none⟩) 6 c2]).heap.size ≤ w3.heap.size := by rw [size_setCells]; exact Nat.le_refl _
      clear I3 V3 L3 cS3 cR3 B3 kz
      go_upto_region 7 with fail
      rw [show (w3.setCell ⟨w.heap.size, 0, none⟩ (.slice (some ⟨g, 0, none⟩) 4 c1)).setCell ⟨w.heap.size, 1, none⟩ (.slice (some ⟨d, 0, none⟩) 6 c2) = w3.setCells w.heap.size 0 [.slice (some ⟨g, 0, none⟩) 4 c1, .slice (some ⟨d, 0, none⟩) 6 c2] from rfl]
      generalize w3.setCells w.heap.size 0 [.slice (some ⟨g, 0, none⟩) 4 c1, .slice (some ⟨d, 0, none⟩) 6 c2] = w4 at *
      obtain ⟨iS, hiS, hzS, hsS, hbS⟩ := infoS
      clear f0 f1 y0 y1
      have hV := (unhide V4).row
      have hVl : (unhide hST).2 = (unhide hST).2 := rfl
      rcases hap with ⟨rfl, rfl, rfl⟩ | ⟨g2, rfl⟩
      · go_wp2_with (refine wpList_append_own_none rfl _ _ 27 rfl (w.heap.size + 2) 38 iS 8 Tryz.underlying27 hiS vA _ _ rfl hV rfl ?_)
        go_roundw
        case rel => exact ⟨n + 1, _, c1, _, c2, by omega, by omega, by first | rfl | go_num, satI (unhide I4), (fun _ => ⟨w2.heap.size, w3.heap.size, by omega, by omega, unhide I4, fun k hk => .inl (by have := unhide HV2 k hk; omega)⟩), ⟨by show Sts w4 _ vA (allL bs dk n); rw [unhide HEL, List.append_nil]; exact unhide V4, by show (allL bs dk n).length ≤ 7 * n; rw [unhide HEL, List.append_nil]; have := (unhide hST).2; omega⟩, cS4, cR4, by omega, B4⟩
        case measure => simp [intOf]; omega
      · have hcl := cellsOf L4
        have hLL := hide (len_stsC L)
        have hll := (unhide hST).2
        go_wp2_with (refine wpList_append_own_at _ rfl _ _ 27 rfl (w.heap.size + 2) 38 iS (.agg (stC zSt).toArray) 8 64 Tryz.underlying27 hiS hzS hsS hbS rfl (by omega) vA _ _ rfl hV ⟨g2, 0, none⟩ L.length sc (stsC L) rfl (unhide hLL) hcl (one_stsC _) (by have := unhide HL7; simp [maxLen]; omega) (by have := unhide HL7; omega) (by omega) ?_; intro v' w5 ho5 hg5 _ hat)
        obtain ⟨V5, b5⟩ := Sts.pushA (unhide V4) (by omega) ho5 hg5
        have kZ : Kept vA.ownBlock.toList w4 w5 := (Kept.refl _ w4).grown hg5 (fun k e => .inl (by simp [e]))
        have cS5 := cS4.below b5 (by omega)
        have cR5 := cR4.below b5 (by omega)
        have B5 := B4.trans (b5.mono (by omega))
        have q5 := b5.size
        clear ho5 hg5 hV hcl
        have I5 := hide ((unhide I4).only (OnlyG.kept kZ) (fun z hz => .inl (by simp at hz; have := unhide HV2 z hz; omega)))
        have HSP : Hid (SepV v' w2.heap.size w3.heap.size) := fun k hk => by
          rcases hat with h9 | h9
          · rw [h9] at hk; left; have := unhide HV2 k hk; omega
          · rw [h9] at hk; right; simp at hk; omega
        go_roundw
        case rel => exact ⟨n + 1, _, c1, _, c2, by omega, by omega, by first | rfl | go_num, satI (unhide I5), (fun _ => ⟨w2.heap.size, w3.heap.size, by omega, by omega, unhide I5, unhide HSP⟩), ⟨by show Sts w5 _ v' (allL bs dk n); rw [unhide HEL]; exact V5, by show (allL bs dk n).length ≤ 7 * n; rw [unhide HEL, List.length_append]; have := (unhide hST).2; have := unhide HL7; omega⟩, cS5, cR5, by omega, B5⟩
        case measure => simp [intOf]; omega
    · have hni : ¬ (n : Int) ≤ 6 := by omega
      obtain rfl : n = 7 := by omega
      obtain ⟨lo, hi, hlo, hhi, hI, _⟩ := unhide hIN (by omega)
      have y0 := cS.cell 0 _ rfl
      have y1 := cS.cell 1 _ rfl
      have d0 := cR.cell 0 _ rfl
      have d1 := cR.cell 1 _ rfl
      have f0 := cR.frozen 0 (by simp)
      have f1 := cR.frozen 1 (by simp)
      have p1 := cR.put [.slice fa' 4 fc', .slice da' 6 dc'] rfl
      have kz := kept_cells wr (w.heap.size + 1) 0 [.slice fa' 4 fc', .slice da' 6 dc']
      have IZ := InT.mono (lo' := w.heap.size) (hi' := (wr.setCells (w.heap.size + 1) 0 [.slice fa' 4 fc', .slice da' 6 dc']).heap.size) (hI.only (OnlyG.kept kz) (fun z hz => .inl (by simp at hz; omega))) (by omega) (by rw [size_setCells]; omega)
      have VZ := (Sts.kept (unhide hST).1 kz (fun z hz => by simp at hz; omega)).mono (lo' := w.heap.size) (by omega)
      have BZ := below_setCells (w.heap.size + 1) (by omega) [.slice fa' 4 fc', .slice da' 6 dc'] 0 _ hB
      have HP : Hid (FePost w bs dk (.returned (.tuple #[.agg #[.slice fa' 4 fc', .slice da' 6 dc'], vA])) (wr.setCells (w.heap.size + 1) 0 [.slice fa' 4 fc', .slice da' 6 dc'])) := ⟨_, _, _, rfl, by rw [unhide HS]; exact IZ, by rw [unhide HS]; exact VZ, BZ⟩
      clear hSA hIN hST IZ VZ BZ hI HEA HEL HA0 HAn hok4 hD6 hB4
      go_wp2
      exact bodyPost_ret (res_cell_tmp Tryz.results87 _ _ (w.heap.size + 1) [.slice fa' 4 fc', .slice da' 6 dc'] _ rfl p1.cells Tryz.underlying26 rfl (by kernel_rfl)) rfl (unhide HP)

set_option maxRecDepth 100000 in
set_option maxHeartbeats 4000000 in
theorem each_no (fa : Option Addr) (fc : Nat) (bs : List Bk) (da : Option Addr) (dc : Nat) (dk : List Int) (w : World) (h : SAt w fa bs da dk) (hs : stB bs dk = false) (hm : bs.length ≤ 9223372036854775807) (hm2 : dk.length ≤ 9223372036854775807) :
    Calls Tryz.prog 87 #[.agg #[.slice fa bs.length fc, .slice da dk.length dc]] w fun e w' => FePost w bs dk e w' := by
  have HS := hide hs
  have HAT := hide h
  have HM := hide (And.intro hm hm2)
  have BX := ((Below.refl w.heap.size w).alloc (Nat.le_refl _) (.cells #[.slice fa bs.length fc, .slice da dk.length dc] 26)).alloc (by simp) (.cells #[.slice none 0 0, .slice none 0 0] 26)
  have cS := (store_box w (.slice fa bs.length fc) (.slice da dk.length dc)).alloc (by simp) (.cells #[.slice none 0 0, .slice none 0 0] 26)
  have cR := store_box (w.alloc (.cells #[.slice fa bs.length fc, .slice da dk.length dc] 26)) (.slice none 0 0) (.slice none 0 0)
  rw [World.size_alloc] at cR
  have s0 : ((w.alloc (.cells #[.slice fa bs.length fc, .slice da dk.length dc] 26)).alloc (.cells #[.slice none 0 0, .slice none 0 0] 26)).heap.size = w.heap.size + 2 := by simp
  clear h hs hm hm2
  go_enter Tryz.func87, Tryz.ntmps87
  go_upto_region 1 with fail
  generalize (w.alloc (.cells #[.slice fa bs.length fc, .slice da dk.length dc] 26)).alloc (.cells #[.slice none 0 0, .slice none 0 0] 26) = w1 at *
  have hA1 := hide ((unhide HAT).below BX)
  clear HAT
  go_wp2
  go_loopw [5, 4] (fun i v w' => ∃ (n : Nat) (fa' : Option Addr) (fc' : Nat) (xs : List Bk) (da' : Option Addr) (dc' : Nat) (ds : List Int), 1 ≤ n ∧ n ≤ 7 ∧ i = .int .i64 n ∧ Hid (SAt w' fa' xs da' ds ∧ stB xs ds = false ∧ xs.length ≤ 9223372036854775807 ∧ ds.length ≤ 9223372036854775807) ∧ Hid (1 < n → fa' = none ∧ fc' = 0 ∧ xs = [] ∧ da' = none ∧ dc' = 0 ∧ ds = []) ∧ Hid (Sts w' (w.heap.size + 2) v []) ∧ CsAt w' w.heap.size [.slice fa' xs.length fc', .slice da' ds.length dc'] ∧ CsAt w' (w.heap.size + 1) [.slice none 0 0, .slice none 0 0] ∧ w.heap.size + 2 ≤ w'.heap.size ∧ Below w.heap.size w w') (fun i _ _ => 7 - (intOf i).toNat)
  case atStart => exact ⟨1, fa, fc, bs, da, dc, dk, by omega, by omega, rfl, ⟨hA1, unhide HS, (unhide HM).1, (unhide HM).2⟩, (fun q => by omega), TwA.Sts.nilN _ _, cS, cR, by omega, BX⟩
  case round =>
    clear BX cS cR s0 hA1
    obtain ⟨n, fa', fc', xs, da', dc', ds, hn1, hn7, rfl, hSA, hIN, hST, cS, cR, hsz, hB⟩ := hrel
    generalize u4 = vA at *
    by_cases h6 : n ≤ 6
    · have hni : (n : Int) ≤ 6 := by omega
      have y0 := cS.cell 0 _ rfl
      have y1 := cS.cell 1 _ rfl
      obtain ⟨L, hLe⟩ : ∃ L : List Stp, flushS xs ds (n : Int) = L := ⟨_, rfl⟩
      have hL0 : L = [] := by rw [← hLe]; unfold flushS; rw [(unhide hSA).2.1]; rfl
      have HFL := hide (implFlush_any fa' fc' xs da' dc' ds (n : Int) (by omega) (by omega) wr (unhide hSA).1 (unhide hSA).2.2.1 (unhide hSA).2.2.2)
      rw [hLe] at HFL
      have HIM := hide (fun (sa : Option Addr) (sc : Nat) (w' : World) (h : SAt w' fa' xs da' ds) (hL : SsAt w' sa L) => implTo_any fa' fc' xs da' dc' ds sa sc L (L.length : Int) (by omega) (by rw [hL0]; simp) false w' h hL (unhide hSA).2.2.1 (unhide hSA).2.2.2 (by rw [hL0]; simp))
      have HTK : Hid (toOk xs ds L (L.length : Int) = false) := by show _ = _; unfold toOk; rw [(unhide hSA).2.1]; rfl
      have HL7 : Hid (L.length ≤ 7) := by show _ ≤ _; rw [hL0]; simp
      have HL0 := hide hL0
      clear hLe hL0
      go_wp2_with fail
      refine (unhide HFL).mono ?_
      rintro e w2 ⟨v2, rfl, r2, d2⟩
      obtain ⟨sa, sc, rfl, hss, hap⟩ := stepsArg r2
      have q2 := d2.size
      have S2 := hide ((unhide hSA).1.below d2)
      have V2 := hide ((unhide hST).below d2 (Nat.le_refl _))
      have cS2 := cS.below d2 (by omega)
      have cR2 := cR.below d2 (by omega)
      have B2 := hB.trans (d2.mono hB.size)
      clear y0 y1 cS cR hB HFL hSA
      have y0 := cS2.cell 0 _ rfl
      have y1 := cS2.cell 1 _ rfl
      go_wp2_with fail
      refine (unhide HIM sa sc w2 (unhide S2) hss).mono ?_
      intro e w3 hT
      rcases hT with ⟨_, rfl, d3⟩ | ⟨ht, _⟩
      rotate_left
      · rw [unhide HTK] at ht; cases ht
      have q3 := d3.size
      have V3 := hide ((unhide V2).below d3 (Nat.le_refl _))
      have L3 := r2.below d3 (Nat.le_refl _)
      have cS3 := cS2.below d3 (by omega)
      have cR3 := cR2.below d3 (by omega)
      have B3 := B2.trans (d3.mono B2.size)
      clear y0 y1 cS2 cR2 B2 d2 d3 S2 V2 r2 hss HIM HTK
      have f0 := cS3.frozen 0 (by simp)
      have f1 := cS3.frozen 1 (by simp)
      have y0 := cS3.cell 0 _ rfl
      have y1 := cS3.cell 1 _ rfl
      have kz := kept_cells w3 w.heap.size 0 [.slice none 0 0, .slice none 0 0]
      have V4 := hide (Sts.kept (unhide V3) kz (fun z hz => by simp at hz; omega))
      have L4 := Sts.kept L3 kz (fun z hz => by simp at hz; omega)
      have cS4 := cS3.put [.slice none 0 0, .slice none 0 0] rfl
      have cR4 := csAt_kept cR3 kz (by omega) (by simp)
      have B4 := below_setCells w.heap.size (Nat.le_refl _) [.slice none 0 0, .slice none 0 0] 0 _ B3
      have q4 : w3.heap.size ≤ (w3.setCells w.heap.size 0 [.slice none 0 0, .slice none 0 0]).heap.size := by rw [size_setCells]; exact Nat.le_refl _
      clear V3 L3 cS3 cR3 B3 kz
      go_upto_region 7 with fail
      rw [show (w3.setCell ⟨w.heap.size, 0, none⟩ (.slice none 0 0)).setCell ⟨w.heap.size, 1, none⟩ (.slice none 0 0) = w3.setCells w.heap.size 0 [.slice none 0 0, .slice none 0 0] from rfl]
      generalize w3.setCells w.heap.size 0 [.slice none 0 0, .slice none 0 0] = w4 at *
      obtain ⟨iS, hiS, hzS, hsS, hbS⟩ := infoS
      clear f0 f1 y0 y1
      have hV := (unhide V4).row
      rcases hap with ⟨rfl, rfl, rfl⟩ | ⟨g2, rfl⟩
      · go_wp2_with (refine wpList_append_own_none rfl _ _ 27 rfl (w.heap.size + 2) 38 iS 8 Tryz.underlying27 hiS vA _ _ rfl hV rfl ?_)
        go_roundw
        case rel => exact ⟨n + 1, none, 0, [], none, 0, [], by omega, by omega, by first | rfl | go_num, ⟨⟨.inl rfl, .inl rfl⟩, by decide, by simp, by simp⟩, (fun _ => ⟨rfl, rfl, rfl, rfl, rfl, rfl⟩), unhide V4, cS4, cR4, by omega, B4⟩
        case measure => simp [intOf]; omega
      · have hcl := cellsOf L4
        have hLL := hide (len_stsC L)
        have hll : ([] : List Stp).length = 0 := rfl
        go_wp2_with (refine wpList_append_own_at _ rfl _ _ 27 rfl (w.heap.size + 2) 38 iS (.agg (stC zSt).toArray) 8 64 Tryz.underlying27 hiS hzS hsS hbS rfl (by omega) vA _ _ rfl hV ⟨g2, 0, none⟩ L.length sc (stsC L) rfl (unhide hLL) hcl (one_stsC _) (by have := unhide HL7; simp [maxLen]; omega) (by have := unhide HL7; omega) (by omega) ?_; intro v' w5 ho5 hg5 _ hat)
        obtain ⟨V5, b5⟩ := Sts.pushA (unhide V4) (by omega) ho5 hg5
        have kZ : Kept vA.ownBlock.toList w4 w5 := (Kept.refl _ w4).grown hg5 (fun k e => .inl (by simp [e]))
        have cS5 := cS4.below b5 (by omega)
        have cR5 := cR4.below b5 (by omega)
        have B5 := B4.trans (b5.mono (by omega))
        have q5 := b5.size
        clear ho5 hg5 hV hcl
        have V6 : Sts w5 (w.heap.size + 2) v' [] := by have := V5; rw [unhide HL0] at this; exact this
        go_roundw
        case rel => exact ⟨n + 1, none, 0, [], none, 0, [], by omega, by omega, by first | rfl | go_num, ⟨⟨.inl rfl, .inl rfl⟩, by decide, by simp, by simp⟩, (fun _ => ⟨rfl, rfl, rfl, rfl, rfl, rfl⟩), V6, cS5, cR5, by omega, B5⟩
        case measure => simp [intOf]; omega
    · have hni : ¬ (n : Int) ≤ 6 := by omega
      obtain rfl : n = 7 := by omega
      obtain ⟨rfl, rfl, rfl, rfl, rfl, rfl⟩ := unhide hIN (by omega)
      have y0 := cS.cell 0 _ rfl
      have y1 := cS.cell 1 _ rfl
      have d0 := cR.cell 0 _ rfl
      have d1 := cR.cell 1 _ rfl
      have f0 := cR.frozen 0 (by simp)
      have f1 := cR.frozen 1 (by simp)
      have p1 := cR.put [.slice none 0 0, .slice none 0 0] rfl
      have kz := kept_cells wr (w.heap.size + 1) 0 [.slice none 0 0, .slice none 0 0]
      have VZ := (Sts.kept (unhide hST) kz (fun z hz => by simp at hz; omega)).mono (lo' := w.heap.size) (by omega)
      have BZ := below_setCells (w.heap.size + 1) (by omega) [.slice none 0 0, .slice none 0 0] 0 _ hB
      have HP : Hid (FePost w bs dk (.returned (.tuple #[.agg #[.slice none 0 0, .slice none 0 0], vA])) (wr.setCells (w.heap.size + 1) 0 [.slice none 0 0, .slice none 0 0])) := ⟨_, _, _, rfl, by rw [unhide HS]; exact .inl ⟨rfl, rfl, rfl⟩, by rw [unhide HS]; exact VZ, BZ⟩
      clear hSA hIN hST VZ BZ
      go_wp2
      exact bodyPost_ret (res_cell_tmp Tryz.results87 _ _ (w.heap.size + 1) [.slice none 0 0, .slice none 0 0] _ rfl p1.cells Tryz.underlying26 rfl (by kernel_rfl)) rfl (unhide HP)
theorem each_any (fa : Option Addr) (fc : Nat) (bs : List Bk) (da : Option Addr) (dc : Nat) (dk : List Int) (w : World) (h : SAt w fa bs da dk) (hm : bs.length ≤ 9223372036854775807) (hm2 : dk.length ≤ 9223372036854775807) :
    Calls Tryz.prog 87 #[.agg #[.slice fa bs.length fc, .slice da dk.length dc]] w fun e w' => FePost w bs dk e w' := by
  cases hs : stB bs dk
  · exact each_no fa fc bs da dc dk w h hs hm hm2
  · obtain ⟨hok, h6⟩ := st_parts hs
    have := each_ok fa fc bs da dc dk w h hs
    rw [ok_len hok, h6]
    exact this
end Go.Proofs.YtbiokmojjneleaaGreat.PdB

/-
  The laws' helper that takes an event over; an argument that is an event.
-/
namespace Go.Proofs.YtbiokmojjneleaaGreat.EvL
open Go.ChangeShapes Go.WideShapes Go.ChangeAt Go.RowKit Go.Shelf OkA Big Fl ImplB ImplF ImplS _root_.Go.Proofs.YtbiokmojjneleaaGreat.Own ImplT ImplU SpecA SpecB SpecC SpecD SpecW Ok2 Pl ImplL Kp StA StB StD StF StG RmA FlA LawsA LawsB LawsE LawV MarkB LawI LawT LawU LawW PaA
set_option linter.unusedVariables false
set_option linter.unusedSimpArgs false
attribute [local go_sem ↓] Go.wp_at_zero Go.wp_at_succ

/-! An argument that is an event. -/
theorem list5 {cs : List Value} (h : cs.length = 5) : ∃ a b c d e, cs = [a, b, c, d, e] := by
  match cs, h with
  | [a, b, c, d, e], _ => exact ⟨a, b, c, d, e, rfl⟩
theorem wf64 {n : Int} (h : (Lit.int .i64 n).wf = true) : -9223372036854775808 ≤ n ∧ n ≤ 9223372036854775807 := by
  simpa [Lit.wf, IntKind.has, IntKind.min, IntKind.max, IntKind.bits, IntKind.signed] using h
variable {H : Type} {enc : TypeId × Value → H} {w : World}
def EvOk (x : Ev) : Prop := (-9223372036854775808 ≤ x.a ∧ x.a ≤ 9223372036854775807) ∧ (-9223372036854775808 ≤ x.c ∧ x.c ≤ 9223372036854775807)
theorem here : True := trivial
end Go.Proofs.YtbiokmojjneleaaGreat.EvL

/-
  The program's letting something happen, and what stands there then.
-/
namespace Go.Proofs.YtbiokmojjneleaaGreat.PdC
open TwA Go.ChangeShapes Go.WideShapes Go.ChangeAt Go.RowKit Go.Shelf OkA Big Fl ImplB ImplF ImplS _root_.Go.Proofs.YtbiokmojjneleaaGreat.Own ImplT ImplU SpecA SpecB SpecC SpecD SpecW SpecF SpecG SpecH Ok2 Pl FindP ImplL Kp StA StB StC StD StE StF StG SpS SpT RmA WrA FlA DoA ToA PlA LawU LawS LawV LawI LawT LawW SpU TwB TwC QuB QuE SpV MkN Ct AlX PaA PaB DpX Cu PdA PdB EvL
set_option linter.unusedVariables false
set_option linter.unusedSimpArgs false
attribute [local go_sem ↓] Go.wp_at_zero Go.wp_at_succ

/-- The steps of an event that are begun. -/
def bgL (bs : List Bk) (dk : List Int) (x : Ev) : List Stp := if x.k = 4 then allL bs dk 6 else if x.c < 0 then [] else (evP bs dk x).take (begN x.c x.t (evP bs dk x).length)
def HpPost (w : World) (bs : List Bk) (dk : List Int) (x : Ev) (e : Ending) (w' : World) : Prop := ∃ X Y v, e = .returned (.tuple #[.agg #[X, Y], v]) ∧ InT w' w.heap.size w'.heap.size X Y (stB bs dk) (doP bs dk x).1 (doP bs dk x).2 ∧ Sts w' w.heap.size v (if stB bs dk then bgL bs dk x else []) ∧ Below w.heap.size w w'
theorem InT.congr {w : World} {lo hi : Nat} {x y : Value} {ok ok' : Bool} {B B' : List Bk} {K K' : List Int} (h : InT w lo hi x y ok B K) (ho : ok = ok') (e : ok' = true → B = B' ∧ K = K') : InT w lo hi x y ok' B' K' := by
  subst ho
  cases ok
  · rcases h with h | ⟨q, _⟩
    · exact .inl h
    · cases q
  · obtain ⟨rfl, rfl⟩ := e rfl
    exact h
/-- What the store is told to do: nothing, where it falls behind a number of steps below 0. -/
def xC (x : Ev) : Ev := if x.c < 0 then ⟨0, 0, 0, 0, false⟩ else x
theorem ev_tkS (bs : List Bk) (dk : List Int) (x : Ev) (hc : 0 ≤ x.c) : toOk bs dk (evS bs dk x) x.c = stB bs dk := by
  cases hs : stB bs dk
  · unfold toOk; rw [hs]; rfl
  · have : evS bs dk x = evP bs dk x := by unfold evS; rw [if_pos hs]
    rw [this]; exact ev_tk hs x x.c hc
theorem doP_of (bs : List Bk) (dk : List Int) (x : Ev) (h4 : ¬ x.k = 4) (hs : stB bs dk = true) : toB bs (evS bs dk (xC x)) (xC x).c (xC x).t = (doP bs dk x).1 ∧ toK dk (evS bs dk (xC x)) (xC x).c (xC x).t = (doP bs dk x).2 := by
  unfold doP xC evS
  rw [if_neg h4, if_pos hs]
  by_cases hc : x.c < 0
  · rw [if_pos hc, if_pos hc]
    exact to_nil 0 false
  · rw [if_neg hc, if_neg hc]
    exact ⟨rfl, rfl⟩
theorem bgL_of (bs : List Bk) (dk : List Int) (x : Ev) (h4 : ¬ x.k = 4) : (evS bs dk (xC x)).take (begN (xC x).c (xC x).t (evS bs dk (xC x)).length) = if stB bs dk then bgL bs dk x else [] := by
  unfold evS
  cases hs : stB bs dk
  · simp
  · rw [if_pos rfl, if_pos rfl]
    unfold bgL xC
    rw [if_neg h4]
    by_cases hc : x.c < 0
    · rw [if_pos hc, if_pos hc]; simp [evP]
    · rw [if_neg hc, if_neg hc]

set_option maxRecDepth 100000 in
set_option maxHeartbeats 4000000 in
theorem happen_i (x : Ev) (hx : EvOk x) (fa : Option Addr) (fc : Nat) (bs : List Bk) (da : Option Addr) (dc : Nat) (dk : List Int) (w : World) (h : SAt w fa bs da dk) (hm : bs.length ≤ 9223372036854775807) (hm2 : dk.length ≤ 9223372036854775807) :
    Calls Tryz.prog 57 #[.agg #[.int .i64 x.k, .int .i64 x.a, .int .i64 x.b, .int .i64 x.c, .bool x.t], .agg #[.slice fa bs.length fc, .slice da dk.length dc]] w fun e w' => HpPost w bs dk x e w' := by
  have B1 : Below w.heap.size w (((w.alloc (.cells #[.int .i64 x.k, .int .i64 x.a, .int .i64 x.b, .int .i64 x.c, .bool x.t] 42)).alloc (.cells #[.slice fa bs.length fc, .slice da dk.length dc] 26)).alloc (.cells #[.slice none 0 0, .slice none 0 0] 26)) := (((Below.refl _ _).alloc (Nat.le_refl _) _).alloc (by simp) _).alloc (by simp; omega) _
  have cE := ((CsAt.new w [.int .i64 x.k, .int .i64 x.a, .int .i64 x.b, .int .i64 x.c, .bool x.t] 42).alloc (by simp) (.cells #[.slice fa bs.length fc, .slice da dk.length dc] 26)).alloc (by simp; omega) (.cells #[.slice none 0 0, .slice none 0 0] 26)
  have cS := (store_box (w.alloc (.cells #[.int .i64 x.k, .int .i64 x.a, .int .i64 x.b, .int .i64 x.c, .bool x.t] 42)) (.slice fa bs.length fc) (.slice da dk.length dc)).alloc (by simp) (.cells #[.slice none 0 0, .slice none 0 0] 26)
  rw [World.size_alloc] at cS
  have cR := store_box ((w.alloc (.cells #[.int .i64 x.k, .int .i64 x.a, .int .i64 x.b, .int .i64 x.c, .bool x.t] 42)).alloc (.cells #[.slice fa bs.length fc, .slice da dk.length dc] 26)) (.slice none 0 0) (.slice none 0 0)
  rw [World.size_alloc, World.size_alloc] at cR
  have s0 : w.heap.size + 3 ≤ (((w.alloc (.cells #[.int .i64 x.k, .int .i64 x.a, .int .i64 x.b, .int .i64 x.c, .bool x.t] 42)).alloc (.cells #[.slice fa bs.length fc, .slice da dk.length dc] 26)).alloc (.cells #[.slice none 0 0, .slice none 0 0] 26)).heap.size := by simp
  have HA0 := hide h
  have HA1 := hide (h.below B1)
  have HM := hide (And.intro hm hm2)
  have HSS := hide (show (Tryz.prog.info? 26).map (·.size) = some 2 by kernel_rfl)
  have HSE := hide (show (Tryz.prog.info? 42).map (·.size) = some 5 by kernel_rfl)
  clear h hm hm2
  go_enter Tryz.func57, Tryz.ntmps57
  go_upto_region 1 with fail
  generalize ((w.alloc (.cells #[.int .i64 x.k, .int .i64 x.a, .int .i64 x.b, .int .i64 x.c, .bool x.t] 42)).alloc (.cells #[.slice fa bs.length fc, .slice da dk.length dc] 26)).alloc (.cells #[.slice none 0 0, .slice none 0 0] 26) = w1 at *
  by_cases h4 : x.k = 4
  · have h4b : (x.k == 4) = true := by simpa using h4
    have e0 := cE.cell 0 _ rfl
    have y0 := cS.cell 0 _ rfl
    have y1 := cS.cell 1 _ rfl
    have HFE := hide (each_any fa fc bs da dc dk w1 (unhide HA1) (unhide HM).1 (unhide HM).2)
    have HDP : Hid (doP bs dk x = allA bs dk 6) := if_pos h4
    have HDL : Hid (bgL bs dk x = allL bs dk 6) := if_pos h4
    clear h4
    go_wp2_with fail
    refine (unhide HFE).mono ?_
    rintro e w2 ⟨X, Y, v, rfl, I, hV, b2⟩
    obtain ⟨f1, n1, c1, f2, n2, c2, rfl, rfl⟩ := I.form
    have q2 := b2.size
    have cR2 := cR.below b2 (by omega)
    have B2 := B1.trans (b2.mono B1.size)
    clear e0 y0 y1 cE cS cR HFE HA1 b2 B1
    have d0 := cR2.cell 0 _ rfl
    have d1 := cR2.cell 1 _ rfl
    have f0 := cR2.frozen 0 (by simp)
    have f1' := cR2.frozen 1 (by simp)
    have p1 := cR2.put [.slice f1 n1 c1, .slice f2 n2 c2] rfl
    have kz := kept_cells w2 (w.heap.size + 1 + 1) 0 [.slice f1 n1 c1, .slice f2 n2 c2]
    have IZ := InT.mono (lo' := w.heap.size) (hi' := (w2.setCells (w.heap.size + 1 + 1) 0 [.slice f1 n1 c1, .slice f2 n2 c2]).heap.size) (I.only (OnlyG.kept kz) (fun z hz => .inl (by simp at hz; omega))) (by omega) (by rw [size_setCells]; omega)
    have VZ := (Sts.kept hV kz (fun z hz => by simp at hz; omega)).mono (lo' := w.heap.size) (by omega)
    have BZ := below_setCells (w.heap.size + 1 + 1) (by omega) [.slice f1 n1 c1, .slice f2 n2 c2] 0 _ B2
    have HP : Hid (HpPost w bs dk x (.returned (.tuple #[.agg #[.slice f1 n1 c1, .slice f2 n2 c2], v])) (w2.setCells (w.heap.size + 1 + 1) 0 [.slice f1 n1 c1, .slice f2 n2 c2])) := ⟨_, _, _, rfl, by rw [unhide HDP]; exact IZ, by rw [unhide HDL]; exact VZ, BZ⟩
    clear IZ VZ BZ I hV B2
    go_wp2
    exact bodyPost_ret (res_cell_tmp Tryz.results57 _ _ (w.heap.size + 1 + 1) [.slice f1 n1 c1, .slice f2 n2 c2] _ rfl p1.cells Tryz.underlying26 rfl (by kernel_rfl)) rfl (unhide HP)
  have h4b : (x.k == 4) = false := by simpa using h4
  have e0 := cE.cell 0 _ rfl
  have e3 := cE.cell 3 _ rfl
  by_cases hc : x.c < 0
  · have HXC : Hid (xC x = ⟨0, 0, 0, 0, false⟩) := if_pos hc
    have e1 := cE.cell 1 _ rfl
    have e2 := cE.cell 2 _ rfl
    have e4 := cE.cell 4 _ rfl
    have f0 := cE.frozen 0 (by simp)
    have f1 := cE.frozen 1 (by simp)
    have f2 := cE.frozen 2 (by simp)
    have f3 := cE.frozen 3 (by simp)
    have f4 := cE.frozen 4 (by simp)
    have kz := kept_cells w1 w.heap.size 0 [.int .i64 0, .int .i64 0, .int .i64 0, .int .i64 0, .bool false]
    have cEz := cE.put [.int .i64 0, .int .i64 0, .int .i64 0, .int .i64 0, .bool false] rfl
    have cSz := csAt_kept cS kz (by omega) (by simp)
    have cRz := csAt_kept cR kz (by omega) (by simp; omega)
    have Bz := below_setCells w.heap.size (Nat.le_refl _) [.int .i64 0, .int .i64 0, .int .i64 0, .int .i64 0, .bool false] 0 _ B1
    have HAz := hide ((unhide HA0).below Bz)
    have sz : w.heap.size + 3 ≤ (w1.setCells w.heap.size 0 [.int .i64 0, .int .i64 0, .int .i64 0, .int .i64 0, .bool false]).heap.size := by rw [size_setCells]; exact s0
    go_upto_region 5 with fail
    rw [show ((((w1.setCell ⟨w.heap.size, 0, none⟩ (.int .i64 0)).setCell ⟨w.heap.size, 1, none⟩ (.int .i64 0)).setCell ⟨w.heap.size, 2, none⟩ (.int .i64 0)).setCell ⟨w.heap.size, 3, none⟩ (.int .i64 0)).setCell ⟨w.heap.size, 4, none⟩ (.bool false) = w1.setCells w.heap.size 0 [.int .i64 0, .int .i64 0, .int .i64 0, .int .i64 0, .bool false] from rfl]
    generalize w1.setCells w.heap.size 0 [.int .i64 0, .int .i64 0, .int .i64 0, .int .i64 0, .bool false] = wz at *
    clear e0 e1 e2 e3 e4 f0 f1 f2 f3 f4 kz cE cS cR B1 HA1 s0 HA0
    have cE := cEz
    have cS := cSz
    have cR := cRz
    have B1 := Bz
    have HA1 := HAz
    have s0 := sz
    clear cEz cSz cRz Bz HAz sz
    have w1s := wz
    clear w1s
    have e0 := cE.cell 0 _ rfl
    have e1 := cE.cell 1 _ rfl
    have e2 := cE.cell 2 _ rfl
    have e3 := cE.cell 3 _ rfl
    have e4 := cE.cell 4 _ rfl
    have y0 := cS.cell 0 _ rfl
    have y1 := cS.cell 1 _ rfl
    have HPS := hide (implPlaySteps_any (⟨0, 0, 0, 0, false⟩ : Ev) (by show (-9223372036854775808 : Int) ≤ 0; omega) (by show (0 : Int) ≤ 9223372036854775807; omega) fa fc bs da dc dk wz (unhide HA1) (unhide HM).1 (unhide HM).2)
    go_wp2_with fail
    refine (unhide HPS).mono ?_
    rintro e w2 ⟨v1, rfl, r2, b2⟩
    have HL9 := hide (show (evS bs dk (⟨0, 0, 0, 0, false⟩ : Ev)).length ≤ 1048576 from by have := ev_len bs dk (⟨0, 0, 0, 0, false⟩ : Ev); omega)
    have HIM := hide (fun (sa : Option Addr) (sc : Nat) (w' : World) (h : SAt w' fa bs da dk) (hL : SsAt w' sa (evS bs dk (⟨0, 0, 0, 0, false⟩ : Ev))) => implTo_any fa fc bs da dc dk sa sc (evS bs dk (⟨0, 0, 0, 0, false⟩ : Ev)) ((⟨0, 0, 0, 0, false⟩ : Ev)).c (by show (-9223372036854775808 : Int) ≤ 0; omega) (by show (0 : Int) ≤ 9223372036854775807; omega) ((⟨0, 0, 0, 0, false⟩ : Ev)).t w' h hL (unhide HM).1 (unhide HM).2 (unhide HL9))
    have HOF := hide (fun (w' : World) (e : Ending) (w'' : World) (h : TpPost w' bs dk (evS bs dk (⟨0, 0, 0, 0, false⟩ : Ev)) ((⟨0, 0, 0, 0, false⟩ : Ev)).c ((⟨0, 0, 0, 0, false⟩ : Ev)).t e w'') => InT.of h)
    have HTK := hide (ev_tkS bs dk (⟨0, 0, 0, 0, false⟩ : Ev) (by show (0 : Int) ≤ 0; omega))
    rw [unhide HTK] at HOF
    have HQ := hide (fun (w' : World) (lo hi : Nat) (X Y : Value) (h : InT w' lo hi X Y (stB bs dk) (toB bs (evS bs dk (⟨0, 0, 0, 0, false⟩ : Ev)) ((⟨0, 0, 0, 0, false⟩ : Ev)).c ((⟨0, 0, 0, 0, false⟩ : Ev)).t) (toK dk (evS bs dk (⟨0, 0, 0, 0, false⟩ : Ev)) ((⟨0, 0, 0, 0, false⟩ : Ev)).c ((⟨0, 0, 0, 0, false⟩ : Ev)).t)) => InT.congr h rfl (fun q => by have := doP_of bs dk x h4 q; rw [unhide HXC] at this; exact this))
    have HBG := hide (bgL_of bs dk x h4)
    rw [unhide HXC] at HBG
    clear HTK
    generalize evS bs dk (⟨0, 0, 0, 0, false⟩ : Ev) = L at *
    obtain ⟨sa, sc, rfl, hss, hap⟩ := stepsArg r2
    have q2 := b2.size
    have cE2 := cE.below b2 (by omega)
    have cS2 := cS.below b2 (by omega)
    have cR2 := cR.below b2 (by omega)
    have B2 := B1.trans (b2.mono B1.size)
    have HA2 := hide ((unhide HA1).below b2)
    clear e0 e1 e2 e3 e4 y0 y1 cE cS cR B1 HA1 b2 HPS hap
    have e3 := cE2.cell 3 _ rfl
    have e4 := cE2.cell 4 _ rfl
    have y0 := cS2.cell 0 _ rfl
    have y1 := cS2.cell 1 _ rfl
    go_wp2_with fail
    refine (unhide HIM _ _ _ (unhide HA2) hss).mono ?_
    intro e w3 hT
    obtain ⟨X, Y, rfl, I3, b3⟩ := unhide HOF _ _ _ hT
    clear hT
    replace I3 := unhide HQ _ _ _ _ _ I3
    obtain ⟨f1, n1, c1, f2, n2, c2, rfl, rfl⟩ := I3.form
    have q3 := b3.size
    have r3 := r2.below b3 (Nat.le_refl _)
    have cE3 := cE2.below b3 (by omega)
    have cR3 := cR2.below b3 (by omega)
    have B3 := B2.trans (b3.mono B2.size)
    clear e3 e4 y0 y1 cE2 cS2 cR2 B2 r2 b3 HIM HOF HQ hss HA2
    have bN : Below w3.heap.size w3 (w3.alloc (.cells #[.slice f1 n1 c1, .slice f2 n2 c2] 26)) := (Below.refl _ _).alloc (Nat.le_refl _) _
    have cT := store_box w3 (.slice f1 n1 c1) (.slice f2 n2 c2)
    have sT : w3.heap.size + 1 ≤ (w3.alloc (.cells #[.slice f1 n1 c1, .slice f2 n2 c2] 26)).heap.size := by simp
    have I6 := hide (I3.below bN)
    have q6 := bN.size
    have r6 := r3.below bN (Nat.le_refl _)
    have cE6 := cE3.below bN (by omega)
    have cR := cR3.below bN (by omega)
    have B6 := B3.trans (bN.mono B3.size)
    clear r3 cE3 cR3 B3 bN I3
    go_upto_region 7 with fail
    generalize w3.alloc (.cells #[.slice f1 n1 c1, .slice f2 n2 c2] 26) = w6 at *
    generalize w3.heap.size = TB at *
    refine wp_region_noPanic ?_
    refine wp_region_held_drew (S := fun w' => Kept [w.heap.size + 1 + 1] w6 w') (by kernel_rfl) (Kept.refl _ _).drew (fun hHeld => ?_)
    replace cR := OrdL.ckept cR (L := []) (Kept.refl [] w6).drew (CsAt.lt cR (by first | (simp; done) | assumption)) (by simp)
    generalize w6.drew = y0 at *
    have z0 := hHeld.size
    refine takeL 0 (.agg #[.slice f1 n1 c1, .slice f2 n2 c2]) rfl (by kernel_rfl) (by kernel_rfl) (by kernel_rfl) (fun _ _ _ h => h) (yieldsIf_load_mid rfl 26 _ rfl TB 0 rfl [.slice f1 n1 c1, .slice f2 n2 c2] _ (fun _ h => (csAt_kept cT h (by omega) (by simp; omega)).cells) Tryz.underlying26 rfl (unhide HSS)) hHeld ?_
    try simp only [Act.put, List.setIfInBounds_toArray, List.set_cons_zero, List.set_cons_succ]
    refine takeL 1 (.agg #[.int .i64 0, .int .i64 0, .int .i64 0, .int .i64 0, .bool false]) rfl (by kernel_rfl) (by kernel_rfl) (by kernel_rfl) (fun _ _ _ h => h) (yieldsIf_load_mid rfl 42 _ rfl w.heap.size 0 rfl [.int .i64 0, .int .i64 0, .int .i64 0, .int .i64 0, .bool false] _ (fun _ h => (csAt_kept cE6 h (by omega) (by simp; omega)).cells) Tryz.underlying42 rfl (unhide HSE)) hHeld ?_
    try simp only [Act.put, List.setIfInBounds_toArray, List.set_cons_zero, List.set_cons_succ]
    refine takeL 2 (.slice sa L.length sc) rfl (by kernel_rfl) (by kernel_rfl) (by kernel_rfl) (fun _ _ _ h => h) (Or.inl ⟨rfl, fun _ _ => rfl⟩) hHeld ?_
    try simp only [Act.put, List.setIfInBounds_toArray, List.set_cons_zero, List.set_cons_succ]
    refine oneL 3 rfl (by kernel_rfl) rfl (fun K hK => ?_)
    go_simp
    refine (begun_any _ _ _ _ _ (by show (0 : Int) ≤ 0; omega) (by show (0 : Int) ≤ 9223372036854775807; omega) _ _ _ _ (Sts.kept r6 hHeld (fun z hz => by simp at hz; omega)) (unhide HL9)).mono ?_
    rintro e y1 ⟨v2, rfl, r8, b⟩
    go_wp2_with fail
    replace cR := CsAt.below cR b (CsAt.lt cR (by simp))
    refine hK.out _ _ (hHeld.trans (Kept.of b)) (fun hHeld => ?_)
    clear hK K
    try simp only [Act.put, List.setIfInBounds_toArray, List.set_cons_zero, List.set_cons_succ]
    have z1 := b.size
    clear b
    refine oneL 4 rfl (by kernel_rfl) rfl (fun K hK => ?_)
    have pcR := cR.put [.slice f1 n1 c1, .slice f2 n2 c2] rfl
    have kz := OrdL.kcells y1 (w.heap.size + 1 + 1) 0 [.slice f1 n1 c1, .slice f2 n2 c2]
    refine wp_store_mid 26 _ _ rfl (w.heap.size + 1 + 1) 0 [.slice f1 n1 c1, .slice f2 n2 c2].toArray rfl rfl cR.free (unhide HSS) (by kernel_rfl) ?_
    refine hK.out _ _ (hHeld.then kz (fun y hy => by simp at hy; subst hy; first | (left; simp; done) | (right; omega))) (fun hHeld => ?_)
    clear hK K
    try simp only [Act.put, List.setIfInBounds_toArray, List.set_cons_zero, List.set_cons_succ]
    replace r8 := Sts.kept r8 kz (fun z hz => by simp at hz; omega)
    clear cR kz
    generalize y1.setCells (w.heap.size + 1 + 1) 0 [.slice f1 n1 c1, .slice f2 n2 c2] = y2 at *
    have cR := pcR
    clear pcR
    refine takeL 5 (v2) rfl (by kernel_rfl) (by kernel_rfl) (by kernel_rfl) (fun _ _ _ h => h) (Or.inl ⟨rfl, fun _ _ => rfl⟩) hHeld ?_
    try simp only [Act.put, List.setIfInBounds_toArray, List.set_cons_zero, List.set_cons_succ]
    refine wpAnyH_done (by kernel_rfl) ?_ _
    refine NoPanic.normal ?_
    have IZ := InT.mono (lo' := w.heap.size) (hi' := y2.heap.size) ((unhide I6).only (OnlyG.kept hHeld) (fun z hz => .inl (by simp at hz; omega))) (by omega) (by have := hHeld.size; omega)
    have VZ := r8.mono (lo' := w.heap.size) (by omega)
    rw [unhide HBG] at VZ
    have BZ := B6.trans (Kept.below hHeld (B := w.heap.size) (by simp; omega) (by omega))
    have HP : Hid (HpPost w bs dk x (.returned (.tuple #[.agg #[.slice f1 n1 c1, .slice f2 n2 c2], v2])) y2) := ⟨_, _, _, rfl, IZ, VZ, BZ⟩
    clear IZ VZ BZ I6 r8 hHeld
    go_wp2
    exact bodyPost_ret (res_cell_tmp Tryz.results57 _ _ (w.heap.size + 1 + 1) [.slice f1 n1 c1, .slice f2 n2 c2] _ rfl cR.cells Tryz.underlying26 rfl (by kernel_rfl)) rfl (unhide HP)
  · have HXC : Hid (xC x = x) := if_neg hc
    have hc0 : 0 ≤ x.c := by omega
    clear HA0
    go_upto_region 5 with fail
    clear e0 e3
    have e0 := cE.cell 0 _ rfl
    have e1 := cE.cell 1 _ rfl
    have e2 := cE.cell 2 _ rfl
    have e3 := cE.cell 3 _ rfl
    have e4 := cE.cell 4 _ rfl
    have y0 := cS.cell 0 _ rfl
    have y1 := cS.cell 1 _ rfl
    have HPS := hide (implPlaySteps_any x hx.1.1 hx.1.2 fa fc bs da dc dk w1 (unhide HA1) (unhide HM).1 (unhide HM).2)
    go_wp2_with fail
    refine (unhide HPS).mono ?_
    rintro e w2 ⟨v1, rfl, r2, b2⟩
    have HL9 := hide (show (evS bs dk x).length ≤ 1048576 from by have := ev_len bs dk x; omega)
    have HIM := hide (fun (sa : Option Addr) (sc : Nat) (w' : World) (h : SAt w' fa bs da dk) (hL : SsAt w' sa (evS bs dk x)) => implTo_any fa fc bs da dc dk sa sc (evS bs dk x) (x).c hx.2.1 hx.2.2 (x).t w' h hL (unhide HM).1 (unhide HM).2 (unhide HL9))
    have HOF := hide (fun (w' : World) (e : Ending) (w'' : World) (h : TpPost w' bs dk (evS bs dk x) (x).c (x).t e w'') => InT.of h)
    have HTK := hide (ev_tkS bs dk x hc0)
    rw [unhide HTK] at HOF
    have HQ := hide (fun (w' : World) (lo hi : Nat) (X Y : Value) (h : InT w' lo hi X Y (stB bs dk) (toB bs (evS bs dk x) (x).c (x).t) (toK dk (evS bs dk x) (x).c (x).t)) => InT.congr h rfl (fun q => by have := doP_of bs dk x h4 q; rw [unhide HXC] at this; exact this))
    have HBG := hide (bgL_of bs dk x h4)
    rw [unhide HXC] at HBG
    clear HTK
    generalize evS bs dk x = L at *
    obtain ⟨sa, sc, rfl, hss, hap⟩ := stepsArg r2
    have q2 := b2.size
    have cE2 := cE.below b2 (by omega)
    have cS2 := cS.below b2 (by omega)
    have cR2 := cR.below b2 (by omega)
    have B2 := B1.trans (b2.mono B1.size)
    have HA2 := hide ((unhide HA1).below b2)
    clear e0 e1 e2 e3 e4 y0 y1 cE cS cR B1 HA1 b2 HPS hap
    have e3 := cE2.cell 3 _ rfl
    have e4 := cE2.cell 4 _ rfl
    have y0 := cS2.cell 0 _ rfl
    have y1 := cS2.cell 1 _ rfl
    go_wp2_with fail
    refine (unhide HIM _ _ _ (unhide HA2) hss).mono ?_
    intro e w3 hT
    obtain ⟨X, Y, rfl, I3, b3⟩ := unhide HOF _ _ _ hT
    clear hT
    replace I3 := unhide HQ _ _ _ _ _ I3
    obtain ⟨f1, n1, c1, f2, n2, c2, rfl, rfl⟩ := I3.form
    have q3 := b3.size
    have r3 := r2.below b3 (Nat.le_refl _)
    have cE3 := cE2.below b3 (by omega)
    have cR3 := cR2.below b3 (by omega)
    have B3 := B2.trans (b3.mono B2.size)
    clear e3 e4 y0 y1 cE2 cS2 cR2 B2 r2 b3 HIM HOF HQ hss HA2
    have bN : Below w3.heap.size w3 (w3.alloc (.cells #[.slice f1 n1 c1, .slice f2 n2 c2] 26)) := (Below.refl _ _).alloc (Nat.le_refl _) _
    have cT := store_box w3 (.slice f1 n1 c1) (.slice f2 n2 c2)
    have sT : w3.heap.size + 1 ≤ (w3.alloc (.cells #[.slice f1 n1 c1, .slice f2 n2 c2] 26)).heap.size := by simp
    have I6 := hide (I3.below bN)
    have q6 := bN.size
    have r6 := r3.below bN (Nat.le_refl _)
    have cE6 := cE3.below bN (by omega)
    have cR := cR3.below bN (by omega)
    have B6 := B3.trans (bN.mono B3.size)
    clear r3 cE3 cR3 B3 bN I3
    go_upto_region 7 with fail
    generalize w3.alloc (.cells #[.slice f1 n1 c1, .slice f2 n2 c2] 26) = w6 at *
    generalize w3.heap.size = TB at *
    refine wp_region_noPanic ?_
    refine wp_region_held_drew (S := fun w' => Kept [w.heap.size + 1 + 1] w6 w') (by kernel_rfl) (Kept.refl _ _).drew (fun hHeld => ?_)
    replace cR := OrdL.ckept cR (L := []) (Kept.refl [] w6).drew (CsAt.lt cR (by first | (simp; done) | assumption)) (by simp)
    generalize w6.drew = y0 at *
    have z0 := hHeld.size
    refine takeL 0 (.agg #[.slice f1 n1 c1, .slice f2 n2 c2]) rfl (by kernel_rfl) (by kernel_rfl) (by kernel_rfl) (fun _ _ _ h => h) (yieldsIf_load_mid rfl 26 _ rfl TB 0 rfl [.slice f1 n1 c1, .slice f2 n2 c2] _ (fun _ h => (csAt_kept cT h (by omega) (by simp; omega)).cells) Tryz.underlying26 rfl (unhide HSS)) hHeld ?_
    try simp only [Act.put, List.setIfInBounds_toArray, List.set_cons_zero, List.set_cons_succ]
    refine takeL 1 (.agg #[.int .i64 x.k, .int .i64 x.a, .int .i64 x.b, .int .i64 x.c, .bool x.t]) rfl (by kernel_rfl) (by kernel_rfl) (by kernel_rfl) (fun _ _ _ h => h) (yieldsIf_load_mid rfl 42 _ rfl w.heap.size 0 rfl [.int .i64 x.k, .int .i64 x.a, .int .i64 x.b, .int .i64 x.c, .bool x.t] _ (fun _ h => (csAt_kept cE6 h (by omega) (by simp; omega)).cells) Tryz.underlying42 rfl (unhide HSE)) hHeld ?_
    try simp only [Act.put, List.setIfInBounds_toArray, List.set_cons_zero, List.set_cons_succ]
    refine takeL 2 (.slice sa L.length sc) rfl (by kernel_rfl) (by kernel_rfl) (by kernel_rfl) (fun _ _ _ h => h) (Or.inl ⟨rfl, fun _ _ => rfl⟩) hHeld ?_
    try simp only [Act.put, List.setIfInBounds_toArray, List.set_cons_zero, List.set_cons_succ]
    refine oneL 3 rfl (by kernel_rfl) rfl (fun K hK => ?_)
    go_simp
    refine (begun_any _ _ _ _ _ hc0 hx.2.2 _ _ _ _ (Sts.kept r6 hHeld (fun z hz => by simp at hz; omega)) (unhide HL9)).mono ?_
    rintro e y1 ⟨v2, rfl, r8, b⟩
    go_wp2_with fail
    replace cR := CsAt.below cR b (CsAt.lt cR (by simp))
    refine hK.out _ _ (hHeld.trans (Kept.of b)) (fun hHeld => ?_)
    clear hK K
    try simp only [Act.put, List.setIfInBounds_toArray, List.set_cons_zero, List.set_cons_succ]
    have z1 := b.size
    clear b
    refine oneL 4 rfl (by kernel_rfl) rfl (fun K hK => ?_)
    have pcR := cR.put [.slice f1 n1 c1, .slice f2 n2 c2] rfl
    have kz := OrdL.kcells y1 (w.heap.size + 1 + 1) 0 [.slice f1 n1 c1, .slice f2 n2 c2]
    refine wp_store_mid 26 _ _ rfl (w.heap.size + 1 + 1) 0 [.slice f1 n1 c1, .slice f2 n2 c2].toArray rfl rfl cR.free (unhide HSS) (by kernel_rfl) ?_
    refine hK.out _ _ (hHeld.then kz (fun y hy => by simp at hy; subst hy; first | (left; simp; done) | (right; omega))) (fun hHeld => ?_)
    clear hK K
    try simp only [Act.put, List.setIfInBounds_toArray, List.set_cons_zero, List.set_cons_succ]
    replace r8 := Sts.kept r8 kz (fun z hz => by simp at hz; omega)
    clear cR kz
    generalize y1.setCells (w.heap.size + 1 + 1) 0 [.slice f1 n1 c1, .slice f2 n2 c2] = y2 at *
    have cR := pcR
    clear pcR
    refine takeL 5 (v2) rfl (by kernel_rfl) (by kernel_rfl) (by kernel_rfl) (fun _ _ _ h => h) (Or.inl ⟨rfl, fun _ _ => rfl⟩) hHeld ?_
    try simp only [Act.put, List.setIfInBounds_toArray, List.set_cons_zero, List.set_cons_succ]
    refine wpAnyH_done (by kernel_rfl) ?_ _
    refine NoPanic.normal ?_
    have IZ := InT.mono (lo' := w.heap.size) (hi' := y2.heap.size) ((unhide I6).only (OnlyG.kept hHeld) (fun z hz => .inl (by simp at hz; omega))) (by omega) (by have := hHeld.size; omega)
    have VZ := r8.mono (lo' := w.heap.size) (by omega)
    rw [unhide HBG] at VZ
    have BZ := B6.trans (Kept.below hHeld (B := w.heap.size) (by simp; omega) (by omega))
    have HP : Hid (HpPost w bs dk x (.returned (.tuple #[.agg #[.slice f1 n1 c1, .slice f2 n2 c2], v2])) y2) := ⟨_, _, _, rfl, IZ, VZ, BZ⟩
    clear IZ VZ BZ I6 r8 hHeld
    go_wp2
    exact bodyPost_ret (res_cell_tmp Tryz.results57 _ _ (w.heap.size + 1 + 1) [.slice f1 n1 c1, .slice f2 n2 c2] _ rfl cR.cells Tryz.underlying26 rfl (by kernel_rfl)) rfl (unhide HP)
end Go.Proofs.YtbiokmojjneleaaGreat.PdC

/-
  What a store is behind one thing that happens: the program's answer and the specification's.
-/
namespace Go.Proofs.YtbiokmojjneleaaGreat.PdD
open TwA Go.ChangeShapes Go.WideShapes Go.ChangeAt Go.RowKit Go.Shelf OkA Big Fl ImplB ImplF ImplS _root_.Go.Proofs.YtbiokmojjneleaaGreat.Own ImplT ImplU SpecA SpecB SpecC SpecD SpecW SpecF SpecG SpecH Ok2 Pl FindP ImplL Kp StA StB StC StD StE StF StG SpS SpT RmA WrA FlA DoA ToA PlA LawU LawS LawV LawI LawT LawW SpU TwB TwC QuB QuE SpV MkN Ct AlX PaA PaB DpX Cu PdA PdB PdC EvL SpV
set_option linter.unusedVariables false
set_option linter.unusedSimpArgs false
attribute [local go_sem ↓] Go.wp_at_zero Go.wp_at_succ

def DoPost (w : World) (bs : List Bk) (dk : List Int) (x : Ev) (e : Ending) (w' : World) : Prop := ∃ X Y, e = .returned (.agg #[X, Y]) ∧ InT w' w.heap.size w'.heap.size X Y (stB bs dk) (doP bs dk x).1 (doP bs dk x).2 ∧ Below w.heap.size w w'

set_option maxRecDepth 100000 in
set_option maxHeartbeats 4000000 in
theorem implDo_any (x : Ev) (hx : EvOk x) (fa : Option Addr) (fc : Nat) (bs : List Bk) (da : Option Addr) (dc : Nat) (dk : List Int) (w : World) (h : SAt w fa bs da dk) (hm : bs.length ≤ 9223372036854775807) (hm2 : dk.length ≤ 9223372036854775807) :
    Calls Tryz.prog 27 #[.agg #[.slice fa bs.length fc, .slice da dk.length dc], .agg #[.int .i64 x.k, .int .i64 x.a, .int .i64 x.b, .int .i64 x.c, .bool x.t]] w fun e w' => DoPost w bs dk x e w' := by
  have B1 : Below w.heap.size w (((w.alloc (.cells #[.slice fa bs.length fc, .slice da dk.length dc] 26)).alloc (.cells #[.int .i64 x.k, .int .i64 x.a, .int .i64 x.b, .int .i64 x.c, .bool x.t] 42)).alloc (.cells #[.slice none 0 0, .slice none 0 0] 26)) := (((Below.refl _ _).alloc (Nat.le_refl _) _).alloc (by simp) _).alloc (by simp; omega) _
  have cS := ((store_box w (.slice fa bs.length fc) (.slice da dk.length dc)).alloc (by simp) (.cells #[.int .i64 x.k, .int .i64 x.a, .int .i64 x.b, .int .i64 x.c, .bool x.t] 42)).alloc (by simp; omega) (.cells #[.slice none 0 0, .slice none 0 0] 26)
  have cE := (CsAt.new (w.alloc (.cells #[.slice fa bs.length fc, .slice da dk.length dc] 26)) [.int .i64 x.k, .int .i64 x.a, .int .i64 x.b, .int .i64 x.c, .bool x.t] 42).alloc (by simp) (.cells #[.slice none 0 0, .slice none 0 0] 26)
  rw [World.size_alloc] at cE
  have cR := store_box ((w.alloc (.cells #[.slice fa bs.length fc, .slice da dk.length dc] 26)).alloc (.cells #[.int .i64 x.k, .int .i64 x.a, .int .i64 x.b, .int .i64 x.c, .bool x.t] 42)) (.slice none 0 0) (.slice none 0 0)
  rw [World.size_alloc, World.size_alloc] at cR
  have s0 : w.heap.size + 3 ≤ ((((w.alloc (.cells #[.slice fa bs.length fc, .slice da dk.length dc] 26)).alloc (.cells #[.int .i64 x.k, .int .i64 x.a, .int .i64 x.b, .int .i64 x.c, .bool x.t] 42)).alloc (.cells #[.slice none 0 0, .slice none 0 0] 26))).heap.size := by simp
  have HA1 := hide (h.below B1)
  have HSS := hide (show (Tryz.prog.info? 26).map (·.size) = some 2 by kernel_rfl)
  have HSE := hide (show (Tryz.prog.info? 42).map (·.size) = some 5 by kernel_rfl)
  clear h
  have HP := hide (happen_i x hx fa fc bs da dc dk _ (unhide HA1) hm hm2)
  have x0 := cS.cell 0 _ rfl
  have x1 := cS.cell 1 _ rfl
  have e0 := cE.cell 0 _ rfl
  have e1 := cE.cell 1 _ rfl
  have e2 := cE.cell 2 _ rfl
  have e3 := cE.cell 3 _ rfl
  have e4 := cE.cell 4 _ rfl
  clear HA1
  go_enter Tryz.func27, Tryz.ntmps27
  go_wp2_with fail
  generalize (((w.alloc (.cells #[.slice fa bs.length fc, .slice da dk.length dc] 26)).alloc (.cells #[.int .i64 x.k, .int .i64 x.a, .int .i64 x.b, .int .i64 x.c, .bool x.t] 42)).alloc (.cells #[.slice none 0 0, .slice none 0 0] 26)) = w1 at *
  refine (unhide HP).mono ?_
  rintro e w2 ⟨X, Y, v, rfl, I, hV, b2⟩
  obtain ⟨f1, n1, c1, f2, n2, c2, rfl, rfl⟩ := I.form
  have q2 := b2.size
  have cR2 := cR.below b2 (by omega)
  have B2 := B1.trans (b2.mono B1.size)
  clear x0 x1 e0 e1 e2 e3 e4 cS cE cR B1 b2 HP hV
  have bN : Below w2.heap.size w2 (w2.alloc (.cells #[.slice f1 n1 c1, .slice f2 n2 c2] 26)) := (Below.refl _ _).alloc (Nat.le_refl _) _
  have cT := store_box w2 (.slice f1 n1 c1) (.slice f2 n2 c2)
  have I3 := I.below bN
  have cR3 := cR2.below bN (by omega)
  have B3 := B2.trans (bN.mono B2.size)
  have s3 : (w2.alloc (.cells #[.slice f1 n1 c1, .slice f2 n2 c2] 26)).heap.size = w2.heap.size + 1 := by simp
  clear bN I cR2 B2
  go_upto_region 2 with fail
  generalize w2.alloc (.cells #[.slice f1 n1 c1, .slice f2 n2 c2] 26) = w3 at *
  generalize w2.heap.size = TB at *
  have t0 := cT.cell 0 _ rfl
  have t1 := cT.cell 1 _ rfl
  have d0 := cR3.cell 0 _ rfl
  have d1 := cR3.cell 1 _ rfl
  have f0 := cR3.frozen 0 (by simp)
  have f1' := cR3.frozen 1 (by simp)
  have p1 := cR3.put [.slice f1 n1 c1, .slice f2 n2 c2] rfl
  have kz := kept_cells w3 (w.heap.size + 1 + 1) 0 [.slice f1 n1 c1, .slice f2 n2 c2]
  have IZ := InT.mono (lo' := w.heap.size) (hi' := (w3.setCells (w.heap.size + 1 + 1) 0 [.slice f1 n1 c1, .slice f2 n2 c2]).heap.size) (I3.only (OnlyG.kept kz) (fun z hz => .inl (by simp at hz; omega))) (by omega) (by rw [size_setCells]; omega)
  have BZ := below_setCells (w.heap.size + 1 + 1) (by omega) [.slice f1 n1 c1, .slice f2 n2 c2] 0 _ B3
  have HP : Hid (DoPost w bs dk x (.returned (.agg #[.slice f1 n1 c1, .slice f2 n2 c2])) (w3.setCells (w.heap.size + 1 + 1) 0 [.slice f1 n1 c1, .slice f2 n2 c2])) := ⟨_, _, rfl, IZ, BZ⟩
  clear IZ BZ I3 B3 kz cT
  go_wp2
  exact bodyPost_ret (res_cell_mid Tryz.results27 _ _ (w.heap.size + 1 + 1) [.slice f1 n1 c1, .slice f2 n2 c2] _ rfl p1.cells Tryz.underlying26 rfl (by kernel_rfl)) rfl (unhide HP)

set_option maxRecDepth 100000 in
set_option maxHeartbeats 4000000 in
theorem specDo_any (x : Ev) (fa : Option Addr) (fc : Nat) (bs : List Bk) (da : Option Addr) (dc : Nat) (dk : List Int) (w : World) (h : SAt w fa bs da dk) (hm : bs.length ≤ 1048576) (hp : ∀ b ∈ bs, b.ps.length ≤ 1048576) (hm2 : dk.length ≤ 1048576) :
    Calls Tryz.prog 28 #[.agg #[.slice fa bs.length fc, .slice da dk.length dc], .agg #[.int .i64 x.k, .int .i64 x.a, .int .i64 x.b, .int .i64 x.c, .bool x.t]] w fun e w' => DoPost w bs dk x e w' := by
  have B1 : Below w.heap.size w (((w.alloc (.cells #[.slice fa bs.length fc, .slice da dk.length dc] 26)).alloc (.cells #[.int .i64 x.k, .int .i64 x.a, .int .i64 x.b, .int .i64 x.c, .bool x.t] 42)).alloc (.cells #[.slice none 0 0, .slice none 0 0] 26)) := (((Below.refl _ _).alloc (Nat.le_refl _) _).alloc (by simp) _).alloc (by simp; omega) _
  have cS := ((store_box w (.slice fa bs.length fc) (.slice da dk.length dc)).alloc (by simp) (.cells #[.int .i64 x.k, .int .i64 x.a, .int .i64 x.b, .int .i64 x.c, .bool x.t] 42)).alloc (by simp; omega) (.cells #[.slice none 0 0, .slice none 0 0] 26)
  have cE := (CsAt.new (w.alloc (.cells #[.slice fa bs.length fc, .slice da dk.length dc] 26)) [.int .i64 x.k, .int .i64 x.a, .int .i64 x.b, .int .i64 x.c, .bool x.t] 42).alloc (by simp) (.cells #[.slice none 0 0, .slice none 0 0] 26)
  rw [World.size_alloc] at cE
  have cR := store_box ((w.alloc (.cells #[.slice fa bs.length fc, .slice da dk.length dc] 26)).alloc (.cells #[.int .i64 x.k, .int .i64 x.a, .int .i64 x.b, .int .i64 x.c, .bool x.t] 42)) (.slice none 0 0) (.slice none 0 0)
  rw [World.size_alloc, World.size_alloc] at cR
  have s0 : w.heap.size + 3 ≤ ((((w.alloc (.cells #[.slice fa bs.length fc, .slice da dk.length dc] 26)).alloc (.cells #[.int .i64 x.k, .int .i64 x.a, .int .i64 x.b, .int .i64 x.c, .bool x.t] 42)).alloc (.cells #[.slice none 0 0, .slice none 0 0] 26))).heap.size := by simp
  have HA1 := hide (h.below B1)
  have HSS := hide (show (Tryz.prog.info? 26).map (·.size) = some 2 by kernel_rfl)
  have HSE := hide (show (Tryz.prog.info? 42).map (·.size) = some 5 by kernel_rfl)
  clear h
  have HOK := hide (specOk_st fa fc bs da dc dk _ (unhide HA1) hm hp hm2)
  have x0 := cS.cell 0 _ rfl
  have x1 := cS.cell 1 _ rfl
  go_enter Tryz.func28, Tryz.ntmps28
  go_wp2_with fail
  generalize (((w.alloc (.cells #[.slice fa bs.length fc, .slice da dk.length dc] 26)).alloc (.cells #[.int .i64 x.k, .int .i64 x.a, .int .i64 x.b, .int .i64 x.c, .bool x.t] 42)).alloc (.cells #[.slice none 0 0, .slice none 0 0] 26)) = w1 at *
  refine (unhide HOK).mono ?_
  rintro e w2 ⟨rfl, b2⟩
  have q2 := b2.size
  replace cS := cS.below b2 (by omega)
  replace cE := cE.below b2 (by omega)
  replace cR := cR.below b2 (by omega)
  have B2 := B1.trans (b2.mono B1.size)
  have HA2 := hide ((unhide HA1).below b2)
  clear x0 x1 B1 b2 HOK HA1
  cases hst : stB bs dk
  · have d0 := cR.cell 0 _ rfl
    have d1 := cR.cell 1 _ rfl
    have f0 := cR.frozen 0 (by simp)
    have f1' := cR.frozen 1 (by simp)
    have p1 := cR.put [.slice none 0 0, .slice none 0 0] rfl
    have BZ := below_setCells (w.heap.size + 1 + 1) (by omega) [.slice none 0 0, .slice none 0 0] 0 _ B2
    have HP : Hid (DoPost w bs dk x (.returned (.agg #[.slice none 0 0, .slice none 0 0])) (w2.setCells (w.heap.size + 1 + 1) 0 [.slice none 0 0, .slice none 0 0])) := ⟨_, _, rfl, .inl ⟨hst, rfl, rfl⟩, BZ⟩
    clear BZ B2 hst cS cE cR
    go_wp2
    exact bodyPost_ret (res_cell_mid Tryz.results28 _ _ (w.heap.size + 1 + 1) [.slice none 0 0, .slice none 0 0] _ rfl p1.cells Tryz.underlying26 rfl (by kernel_rfl)) rfl (unhide HP)
  obtain ⟨hok, h6⟩ := st_parts hst
  have h4 := ok_len hok
  have hF := ok_fours hok
  obtain ⟨fb, fo, rfl, hf1⟩ := fsome (unhide HA2).fs h4
  obtain ⟨db, dof, rfl, hd1⟩ := dsome (unhide HA2).ds h6
  rw [h4, h6] at cS
  have hdl : db < w2.heap.size := by have := Fl.cell_lt (isC_at hd1 0 (by omega)); simpa using this
  have bd : Below w2.heap.size w2 w2.drew := (Below.refl _ _).drew
  have HCP := hide (l11Copy_any fb fo fc db dof dc bs hF h4 dk h6 w2.drew (fun i hi => (hf1 i hi).below bd) (rangeAt_below hd1 bd hdl))
  have HHX := hide (fun lo g d c1 c2 G w' (hSt : St w' lo g d G bs dk) => happen_x lo g d c1 c2 G bs dk x.k x.a x.b x.c x.t w' hSt hok)
  have hst' := hide hst
  have h46 := hide (And.intro h4 h6)
  clear hf1 hd1 HA2 hst h4 h6 hF bd hdl
  go_upto_region 3 with fail
  refine wp_region_noPanic ?_
  refine wp_region_held_drew (S := fun w' => Kept [w.heap.size + 1 + 1] w2 w') (by kernel_rfl) (Kept.refl _ _).drew (fun hHeld => ?_)
  replace cR := OrdL.ckept cR (L := []) (Kept.refl [] w2).drew (CsAt.lt cR (by first | (simp; done) | assumption)) (by simp)
  generalize w2.drew = y0 at *
  have z0 := hHeld.size
  refine takeL 0 (.agg #[.slice (some ⟨fb, fo, none⟩) 4 fc, .slice (some ⟨db, dof, none⟩) 6 dc]) rfl (by kernel_rfl) (by kernel_rfl) (by kernel_rfl) (fun _ _ _ h => h) (yieldsIf_load_mid rfl 26 _ rfl w.heap.size 0 rfl [.slice (some ⟨fb, fo, none⟩) 4 fc, .slice (some ⟨db, dof, none⟩) 6 dc] _ (fun _ h => (csAt_kept cS h (by omega) (by simp; omega)).cells) Tryz.underlying26 rfl (unhide HSS)) hHeld ?_
  try simp only [Act.put, List.setIfInBounds_toArray, List.set_cons_zero, List.set_cons_succ]
  refine takeL 2 (.agg #[.int .i64 x.k, .int .i64 x.a, .int .i64 x.b, .int .i64 x.c, .bool x.t]) rfl (by kernel_rfl) (by kernel_rfl) (by kernel_rfl) (fun _ _ _ h => h) (yieldsIf_load_mid rfl 42 _ rfl (w.heap.size + 1) 0 rfl [.int .i64 x.k, .int .i64 x.a, .int .i64 x.b, .int .i64 x.c, .bool x.t] _ (fun _ h => (csAt_kept cE h (by omega) (by first | (simp; done) | (simp; omega))).cells) Tryz.underlying42 rfl (unhide HSE)) hHeld ?_
  try simp only [Act.put, List.setIfInBounds_toArray, List.set_cons_zero, List.set_cons_succ]
  refine oneL 1 rfl (by kernel_rfl) rfl (fun K hK => ?_)
  go_simp
  refine (unhide HCP).mono ?_
  rintro e y1 ⟨g, G, d, c1, c2, rfl, o4, b⟩
  go_wp2_with fail
  replace cR := CsAt.below cR b (CsAt.lt cR (by simp))
  refine hK.out _ _ (hHeld.trans (Kept.of b)) (fun hHeld => ?_)
  clear hK K
  try simp only [Act.put, List.setIfInBounds_toArray, List.set_cons_zero, List.set_cons_succ]
  have z1 := b.size
  clear b
  refine oneL 3 rfl (by kernel_rfl) rfl (fun K hK => ?_)
  have hSt : St y1 y0.heap.size g d G bs dk := ⟨by have := o4.own; rwa [(unhide h46).1] at this, o4.ds, o4.dlo, o4.dhi, o4.dne, (unhide h46).2⟩
  have hlo : ∀ z ∈ d :: g :: G, y0.heap.size ≤ z := fun z hz => by rcases List.mem_cons.1 hz with rfl | hz; exact o4.dlo; exact o4.own.lo z hz
  go_simp
  refine (unhide HHX _ _ _ _ _ _ _ hSt).mono ?_
  rintro e y2 ⟨rfl, hokP, hS5, k5⟩
  go_wp2_with fail
  have S5 : OwnS y2 y0.heap.size g G d (doP bs dk x).1 (doP bs dk x).2 := ⟨by rw [show (doP bs dk x).1.length = 4 from ok_len hokP]; exact hS5.own, hS5.disk, hS5.dlo, hS5.dhi, hS5.dn⟩
  have I : InT y2 y0.heap.size y2.heap.size (.slice (some ⟨g, 0, none⟩) 4 c1) (.slice (some ⟨d, 0, none⟩) 6 c2) true (doP bs dk x).1 (doP bs dk x).2 := .inr ⟨rfl, g, G, d, c1, c2, rfl, rfl, S5, fun z hz => ⟨hlo z hz, by rcases List.mem_cons.1 hz with rfl | hz; exact hS5.dhi; exact hS5.own.hi z hz⟩, ok_fours hokP, ok_len hokP, hS5.six⟩
  replace cR := csAt_kept cR k5 (CsAt.lt cR (by simp)) (fun hm => by have := hlo _ hm; omega)
  refine hK.out _ _ (hHeld.then k5 (fun z hz => .inr (by have := hlo z hz; omega))) (fun hHeld => ?_)
  clear hK K
  try simp only [Act.put, List.setIfInBounds_toArray, List.set_cons_zero, List.set_cons_succ]
  have z2 := k5.size
  clear hSt o4 S5 hS5 k5 hokP
  refine oneL 4 rfl (by kernel_rfl) rfl (fun K hK => ?_)
  have pcR := cR.put [.slice (some ⟨g, 0, none⟩) 4 c1, .slice (some ⟨d, 0, none⟩) 6 c2] rfl
  have kz := OrdL.kcells y2 (w.heap.size + 1 + 1) 0 [.slice (some ⟨g, 0, none⟩) 4 c1, .slice (some ⟨d, 0, none⟩) 6 c2]
  refine wp_store_mid 26 _ _ rfl (w.heap.size + 1 + 1) 0 [.slice (some ⟨g, 0, none⟩) 4 c1, .slice (some ⟨d, 0, none⟩) 6 c2].toArray rfl rfl cR.free (unhide HSS) (by kernel_rfl) ?_
  refine hK.out _ _ (hHeld.then kz (fun y hy => by simp at hy; subst hy; first | (left; simp; done) | (right; omega))) (fun hHeld => ?_)
  clear hK K
  try simp only [Act.put, List.setIfInBounds_toArray, List.set_cons_zero, List.set_cons_succ]
  replace I := I.only (OnlyG.kept kz) (fun z hz => .inl (by simp at hz; omega))
  have zk := kz.size
  clear cR kz
  generalize y2.setCells (w.heap.size + 1 + 1) 0 [.slice (some ⟨g, 0, none⟩) 4 c1, .slice (some ⟨d, 0, none⟩) 6 c2] = y3 at *
  have cR := pcR
  clear pcR
  refine wpAnyH_done (by kernel_rfl) ?_ _
  refine NoPanic.normal ?_
  have IZ := InT.mono (lo' := w.heap.size) (hi' := y3.heap.size) I (by omega) (by have := hHeld.size; omega)
  have BZ := B2.trans (Kept.below hHeld (B := w.heap.size) (by simp; omega) (by omega))
  have HP : Hid (DoPost w bs dk x (.returned (.agg #[.slice (some ⟨g, 0, none⟩) 4 c1, .slice (some ⟨d, 0, none⟩) 6 c2])) y3) := ⟨_, _, rfl, by rw [unhide hst']; exact IZ, BZ⟩
  clear IZ BZ I hHeld
  go_wp2
  exact bodyPost_ret (res_cell_mid Tryz.results28 _ _ (w.heap.size + 1 + 1) [.slice (some ⟨g, 0, none⟩) 4 c1, .slice (some ⟨d, 0, none⟩) 6 c2] _ rfl cR.cells Tryz.underlying26 rfl (by kernel_rfl)) rfl (unhide HP)
end Go.Proofs.YtbiokmojjneleaaGreat.PdD

/-
  The laws' helpers over lists of events: how many; the same in memory of its own; whether two are the same; marks; an argument that is such a list.
-/
namespace Go.Proofs.YtbiokmojjneleaaGreat.EvS
open Go.ChangeShapes Go.WideShapes Go.ChangeAt Go.RowKit Go.Shelf Go.Joins Go.Deep OkA Big Fl ImplB ImplF ImplS _root_.Go.Proofs.YtbiokmojjneleaaGreat.Own ImplT ImplU SpecA SpecB SpecC SpecD SpecW Ok2 OpenF Pl ImplL Kp StA StB StD StF StG RmA FlA LawsA LawsB LawsE LawV MarkB LawI LawT PaA EvL MkN
set_option linter.unusedVariables false
set_option linter.unusedSimpArgs false
attribute [local go_sem ↓] Go.wp_at_zero Go.wp_at_succ

def esC (l : List Ev) : List Value := l.flatMap evC
theorem len_esC (l : List Ev) : (esC l).length = l.length * 5 := by
  unfold esC; induction l with
  | nil => rfl
  | cons x r ih => simp only [List.flatMap_cons, List.length_append, ih, List.length_cons, evC, List.length_nil]; omega
theorem one_evC (x : Ev) : ∀ v ∈ evC x, v.oneCell' = true := by intro v hv; simp [evC] at hv; rcases hv with rfl | rfl | rfl | rfl | rfl <;> rfl
/-- A list of steps lies there. -/
def EsAt (w : World) (a : Option Addr) (l : List Ev) : Prop := l = [] ∨ ∃ b o, a = some ⟨b, o, none⟩ ∧ w.rangeAt b o (esC l)
theorem ev_part (l : List Ev) (i : Nat) (hi : i < l.length) : ((esC l).drop (i * 5)).take 5 = evC l[i] := part_of evC 5 l (fun _ _ => rfl) i hi
theorem ev_at {w : World} {gs so : Nat} {L : List Ev} (h : w.rangeAt gs so (esC L)) (n : Nat) (hn : n < L.length) : w.rangeAt gs (so + n * 5) (evC L[n]) := by
  have := rangeAt_sub h (n * 5) 5
  rwa [ev_part L n hn] at this
theorem esC_lt {w : World} {b o : Nat} {l : List Ev} (h : w.rangeAt b o (esC l)) (hl : 0 < l.length) : b < w.heap.size := by
  cases l with
  | nil => simp at hl
  | cons x r => exact cell_lt (h 0 (.int .i64 x.k) rfl)
theorem EsAt.below {w w' : World} {a : Option Addr} {l : List Ev} (h : EsAt w a l) (hb : Below w.heap.size w w') : EsAt w' a l := by
  rcases h with h | ⟨b, o, rfl, h⟩
  · exact .inl h
  · by_cases q : 0 < l.length
    · exact .inr ⟨b, o, rfl, rangeAt_below h hb (esC_lt h q)⟩
    · exact .inl (List.length_eq_zero_iff.1 (by omega))
theorem EsAt.at {w : World} {a : Option Addr} {l : List Ev} (h : EsAt w a l) (k : Nat) (hk : k < l.length) : ∃ b o, a = some ⟨b, o, none⟩ ∧ w.rangeAt b (o + k * 5) (evC l[k]) ∧ b < w.heap.size := by
  rcases h with rfl | ⟨b, o, rfl, h⟩
  · simp at hk
  · exact ⟨b, o, rfl, ev_at h k hk, esC_lt h (by omega)⟩
theorem size_ev5 (x : Ev) : (Tryz.prog.info? 42).map (·.size) = some (evC x).length := by show _ = some 5; kernel_rfl
theorem size_ev5a (x : Ev) : (Tryz.prog.info? 42).map (·.size) = some (evC x).toArray.size := by show _ = some 5; kernel_rfl
theorem one_ev (x : Ev) : (evC x).toArray.all (·.oneCell') = true := all_oneCell_toArray (one_evC x)

/-! Marks. -/
theorem there1 {w : World} {b o n : Nat} (h : w.there b o n) (p : Nat) (i : Nat) (v : Value) : (w.setCell ⟨p, i, none⟩ v).there b o n := World.there_setCells h p i [v]
theorem evC_cells {w : World} {b o : Nat} {x : Ev} (h : w.rangeAt b o (evC x)) :
    w.cell? ⟨b, o, none⟩ = some (.int .i64 x.k) ∧ w.cell? ⟨b, o + 1, none⟩ = some (.int .i64 x.a) ∧ w.cell? ⟨b, o + 2, none⟩ = some (.int .i64 x.b) ∧ w.cell? ⟨b, o + 3, none⟩ = some (.int .i64 x.c) ∧ w.cell? ⟨b, o + 4, none⟩ = some (.bool x.t) :=
  ⟨h 0 _ rfl, h 1 _ rfl, h 2 _ rfl, h 3 _ rfl, h 4 _ rfl⟩
theorem esC_take (ps : List Ev) (k : Nat) (hk : k < ps.length) : esC (ps.take (k + 1)) = esC (ps.take k) ++ evC ps[k] := by
  rw [List.take_succ_eq_append_getElem hk]; simp only [esC, List.flatMap_append, List.flatMap_cons, List.flatMap_nil, List.append_nil]

/-- A row of steps in new memory. -/
def RowE (w : World) (ps : List Ev) (e : Ending) (w' : World) : Prop := e = .returned (.slice (some ⟨w.heap.size, 0, none⟩) ps.length ps.length) ∧ CsAt w' w.heap.size (esC ps) ∧ w.heap.size < w'.heap.size ∧ Below w.heap.size w w'

/-! An argument that is a list of events. -/
variable {H : Type} {enc : TypeId × Value → H} {w : World}
theorem here : True := trivial
end Go.Proofs.YtbiokmojjneleaaGreat.EvS

/-
  Chapter 11's functions: program and specification answer the same.
-/
namespace Go.Proofs.YtbiokmojjneleaaGreat.ExS
open Go.ChangeShapes Go.WideShapes Go.ChangeAt Go.RowKit Go.Shelf Go.Joins OkA Big Fl ImplB ImplF ImplS _root_.Go.Proofs.YtbiokmojjneleaaGreat.Own ImplT ImplU SpecA SpecB SpecC SpecD SpecW Ok2 Pl ImplL Kp StA StB StD StF StG SpS SpT LawsA LawsB LawsE LawV LawI LawS LawT OpenF
theorem ok2 (fa : Option Addr) (fc : Nat) (bs : List Bk) (da : Option Addr) (dc : Nat) (dk : List Int) (w : World) (h : SAt w fa bs da dk) (hm : bs.length ≤ 1048576) (hm2 : dk.length ≤ 1048576) :
    Calls Tryz.prog 24 #[.agg #[.slice fa bs.length fc, .slice da dk.length dc]] w fun e w' => e = .returned (.bool (stB bs dk)) ∧ Below w.heap.size w w' := by
  rw [← st_eq]; exact implOk_any fa fc bs da dc dk w h (by omega) (by omega)
theorem read2 (fa : Option Addr) (fc : Nat) (bs : List Bk) (da : Option Addr) (dc : Nat) (dk : List Int) (addr : Int) (w : World) (h : SAt w fa bs da dk) (hm : bs.length ≤ 1048576) (hm2 : dk.length ≤ 1048576) :
    Calls Tryz.prog 38 #[.agg #[.slice fa bs.length fc, .slice da dk.length dc], .int .i64 addr] w fun e w' => e = .returned (.int .i64 (rdS bs dk addr)) ∧ Below w.heap.size w w' := by
  rw [← rd_eq]; exact implRead_any fa fc bs da dc dk addr w h (by omega) (by omega)
theorem all2 (fa : Option Addr) (fc : Nat) (bs : List Bk) (da : Option Addr) (dc : Nat) (dk : List Int) (w : World) (h : SAt w fa bs da dk) (hm : bs.length ≤ 1048576) (hm2 : dk.length ≤ 1048576) :
    Calls Tryz.prog 30 #[.agg #[.slice fa bs.length fc, .slice da dk.length dc]] w fun e w' => IsPost w (alS bs dk) e w' := by
  rw [← al_eq]; exact implAll_any fa fc bs da dc dk w h (by omega) (by omega)
theorem dirty2 (fa : Option Addr) (fc : Nat) (bs : List Bk) (da : Option Addr) (dc : Nat) (dk : List Int) (w : World) (h : SAt w fa bs da dk) (hm : bs.length ≤ 1048576) (hm2 : dk.length ≤ 1048576) :
    Calls Tryz.prog 39 #[.agg #[.slice fa bs.length fc, .slice da dk.length dc]] w fun e w' => IsPost w (dyS bs dk) e w' := by
  rw [← dy_eq]; exact implDirty_any fa fc bs da dc dk w h (by omega) (by omega)
theorem al_len (bs : List Bk) (dk : List Int) : (alS bs dk).length ≤ 6 := by unfold alS; split; rw [alK_len]; exact Nat.le_refl _; simp
theorem dy_len (bs : List Bk) (dk : List Int) : (dyS bs dk).length ≤ 6 := by unfold dyS; split; exact dyK_len _ _; simp
end Go.Proofs.YtbiokmojjneleaaGreat.ExS

/-
  StoreNew, of the program and of the specification; marks on a new store.
-/
namespace Go.Proofs.YtbiokmojjneleaaGreat.SnA
open Go.ChangeShapes Go.WideShapes Go.ChangeAt Go.RowKit Go.Shelf Go.Joins OkA Big Fl ImplB ImplF ImplS _root_.Go.Proofs.YtbiokmojjneleaaGreat.Own ImplT ImplU SpecA SpecB SpecC SpecD SpecW Ok2 Pl ImplW ImplL Kp StA StB StD StF StG SpS SpT LawsA LawsB LawsE LawV LawI LawS LawT MarkB
set_option linter.unusedVariables false
set_option linter.unusedSimpArgs false
attribute [local go_sem ↓] Go.wp_at_zero Go.wp_at_succ

def X (g c : Nat) : Value := .slice (some ⟨g, 0, none⟩) 4 c
def Y (d : Nat) : Value := .slice (some ⟨d, 0, none⟩) 6 6
def SnPost (w : World) (e : Ending) (w' : World) : Prop := ∃ g G d c, e = .returned (.agg #[.slice (some ⟨g, 0, none⟩) 4 c, .slice (some ⟨d, 0, none⟩) 6 6]) ∧ OwnS w' w.heap.size g G d zFs zDk6 ∧ Below w.heap.size w w'
theorem new_i (w : World) : Calls Tryz.prog 73 #[] w fun e w' => ∃ g G c, e = .returned (.slice (some ⟨g, 0, none⟩) 4 c) ∧ Own.Own w' w.heap.size g G zFs 4 ∧ Below w.heap.size w w' := by
  refine (flashNew_any w).mono ?_
  rintro e w' ⟨g, G, rfl, o, b⟩
  exact ⟨g, G, 4, rfl, o, b⟩
theorem wp_make6 {P : Program} {o : Oper} {a : Act} {w : World} {Q : Exit → Act → World → Prop} {K : Act → World → Prop} (t : TypeId) (x y : Operand) (ho : o.op = .makeSlice t x y) (n : Nat) (hx : a.eval x = .int .i64 n) (hy : a.eval y = .int .i64 n)
    (e sz bytes : Nat) (z : Value) (ht : P.underlying t = some (.slice e)) (hi : (P.info? e).map (fun i => (i.zero, i.size, i.bytes)) = some (some z, sz, bytes)) (hb : bytes * n ≤ 281474976710656) (hn : n ≤ 281474976710656)
    (h : K (a.put o.dst (.slice (some ⟨w.heap.size, 0, none⟩) n n)) (w.alloc (.cells (madeCells z.cells (n * sz)) e))) : o.wp P a w K Q := by
  cases hq : P.info? e with
  | none => simp [hq] at hi
  | some i =>
    simp [hq] at hi
    obtain ⟨h1, h2, h3⟩ := hi
    have hb' : (i.bytes : Int) * (n : Int) ≤ 281474976710656 := by
      rw [h3, ← Int.natCast_mul]; exact Int.ofNat_le.2 hb
    have hrun := run_make (P := P) w t e i z ht hq h1 .i64 .i64 n n (by omega) (by omega) hb' (by omega)
    simp only [Int.toNat_natCast, h2] at hrun
    unfold Oper.wp execOp
    simp only [ho, hx, hy, Sem.run_bind, hrun, Result.andThen_ok]
    exact h

set_option maxRecDepth 100000 in
set_option maxHeartbeats 2000000 in
theorem implNew_any (w : World) : Calls Tryz.prog 42 #[] w fun e w' => SnPost w e w' := by
  have b1 : Below w.heap.size w (w.alloc (.cells #[.slice none 0 0, .slice none 0 0] 26)) := (Below.refl _ _).alloc (Nat.le_refl _) _
  have cR := store_box w (.slice none 0 0) (.slice none 0 0)
  have s1 : (w.alloc (.cells #[.slice none 0 0, .slice none 0 0] 26)).heap.size = w.heap.size + 1 := by simp
  have HSS := hide (show (Tryz.prog.info? 26).map (·.size) = some 2 by kernel_rfl)
  have HB := hide (fun (g d cap : Nat) => (show Tryz.prog.built 26 [(0, .slice (some ⟨g, 0, none⟩) 4 cap), (1, .slice (some ⟨d, 0, none⟩) 6 6)] = some #[.slice (some ⟨g, 0, none⟩) 4 cap, .slice (some ⟨d, 0, none⟩) 6 6] by kernel_rfl))
  have HN := hide new_i
  go_enter Tryz.func42, Tryz.ntmps42
  go_upto_region 1 with fail
  generalize w.alloc (.cells #[.slice none 0 0, .slice none 0 0] 26) = w1 at *
  refine wp_region_noPanic ?_
  refine wp_region_held_drew (S := fun w' => True) (by kernel_rfl) (trivial) (fun hHeld => ?_)
  have cRd : CsAt w1.drew w.heap.size [.slice none 0 0, .slice none 0 0] := ⟨fun j v hv => cR.cells j v hv, fun j hj => cR.free j hj⟩
  have b1d := b1.drew
  have s1d : w1.drew.heap.size = w.heap.size + 1 := s1
  clear cR b1 s1
  generalize w1.drew = w2 at *
  refine twoL 0 1 rfl rfl (by kernel_rfl) rfl rfl (fun K hK => ?_) (fun K hK => ?_)
  · go_simp
    refine (unhide HN _).mono ?_
    rintro e w3 ⟨g, G, c, rfl, o, b⟩
    go_wp2_with fail
    refine hK.out _ _ trivial (fun hHeld => ?_)
    clear hK K
    try simp only [Act.put, List.setIfInBounds_toArray, List.set_cons_zero, List.set_cons_succ]
    refine oneL 1 rfl (by kernel_rfl) rfl (fun K hK => ?_)
    refine wp_make6 24 _ _ rfl 6 rfl rfl 3 1 8 (.int .i64 0) Tryz.underlying24 made_int (by omega) (by omega) ?_
    rw [made6]
    refine hK.out _ _ trivial (fun hHeld => ?_)
    clear hK K
    try simp only [Act.put, List.setIfInBounds_toArray, List.set_cons_zero, List.set_cons_succ]
    have bA : Below w3.heap.size w3 (w3.alloc (.cells (isC zDk6).toArray 3)) := (Below.refl _ _).alloc (Nat.le_refl _) _
    have q3 := b.size
    have cN := CsAt.new w3 (isC zDk6) 3
    have S4 : OwnS (w3.alloc (.cells (isC zDk6).toArray 3)) w.heap.size g G w3.heap.size zFs zDk6 := ⟨(o.below bA (Nat.le_refl _)).mono (by omega), cN, by omega, by simp, fun hm => by have := o.hi _ hm; omega⟩
    have C4 := (cRd.below b (by omega)).below bA (by omega)
    have B4 := (b1d.trans (b.mono b1d.size)).trans (bA.mono (by omega))
    have hl4 : ∀ x ∈ w3.heap.size :: g :: G, w.heap.size + 1 ≤ x := fun x hx => by rcases List.mem_cons.1 hx with rfl | hx; omega; have := o.lo x hx; omega
    generalize w3.alloc (.cells (isC zDk6).toArray 3) = w4 at *
    refine oneL 2 rfl (by kernel_rfl) rfl (fun K hK => ?_)
    refine wp_build_two 26 _ _ rfl (.slice (some ⟨g, 0, none⟩) 4 c) (.slice (some ⟨w3.heap.size, 0, none⟩) 6 6) rfl rfl [.slice (some ⟨g, 0, none⟩) 4 c, .slice (some ⟨w3.heap.size, 0, none⟩) 6 6].toArray (unhide HB g w3.heap.size c) ?_
    refine hK.out _ _ trivial (fun hHeld => ?_)
    clear hK K
    try simp only [Act.put, List.setIfInBounds_toArray, List.set_cons_zero, List.set_cons_succ]
    have p1 := C4.put [.slice (some ⟨g, 0, none⟩) 4 c, .slice (some ⟨w3.heap.size, 0, none⟩) 6 6] rfl
    have oz : Only [w.heap.size] w4 (w4.setCells w.heap.size 0 [.slice (some ⟨g, 0, none⟩) 4 c, .slice (some ⟨w3.heap.size, 0, none⟩) 6 6]) := (Only.refl _ _).setCells (by simp) 0 _
    have SZ := keptS S4 oz (by rw [size_setCells]; exact Nat.le_refl _) (fun x hx => by have := hl4 x hx; simp; omega)
    have BZ := below_setCells w.heap.size (Nat.le_refl _) [.slice (some ⟨g, 0, none⟩) 4 c, .slice (some ⟨w3.heap.size, 0, none⟩) 6 6] 0 _ B4
    refine oneL 3 rfl (by kernel_rfl) rfl (fun K hK => ?_)
    refine wp_store_mid 26 _ _ rfl w.heap.size 0 [.slice (some ⟨g, 0, none⟩) 4 c, .slice (some ⟨w3.heap.size, 0, none⟩) 6 6].toArray rfl rfl C4.free (unhide HSS) (by kernel_rfl) ?_
    refine hK.out _ _ trivial (fun hHeld => ?_)
    clear hK K
    try simp only [Act.put, List.setIfInBounds_toArray, List.set_cons_zero, List.set_cons_succ]
    refine wpAnyH_done (by kernel_rfl) ?_ _
    refine NoPanic.normal ?_
    go_wp2_with fail
    refine bodyPost_ret (res_cell_mid Tryz.results42 _ _ w.heap.size [.slice (some ⟨g, 0, none⟩) 4 c, .slice (some ⟨w3.heap.size, 0, none⟩) 6 6] _ rfl p1.cells Tryz.underlying26 rfl (by kernel_rfl)) rfl ?_
    exact ⟨g, G, w3.heap.size, c, rfl, SZ, BZ⟩
  · refine wp_make6 24 _ _ rfl 6 rfl rfl 3 1 8 (.int .i64 0) Tryz.underlying24 made_int (by omega) (by omega) ?_
    rw [made6]
    refine hK.out _ _ trivial (fun hHeld => ?_)
    clear hK K
    try simp only [Act.put, List.setIfInBounds_toArray, List.set_cons_zero, List.set_cons_succ]
    have bA : Below w2.heap.size w2 (w2.alloc (.cells (isC zDk6).toArray 3)) := (Below.refl _ _).alloc (Nat.le_refl _) _
    have cN := CsAt.new w2 (isC zDk6) 3
    have sN : (w2.alloc (.cells (isC zDk6).toArray 3)).heap.size = w2.heap.size + 1 := by simp
    have cR3 := cRd.below bA (by omega)
    have b3d := b1d.trans (bA.mono b1d.size)
    generalize w2.alloc (.cells (isC zDk6).toArray 3) = w3 at *
    refine oneL 0 rfl (by kernel_rfl) rfl (fun K hK => ?_)
    go_simp
    refine (unhide HN _).mono ?_
    rintro e w4 ⟨g, G, c, rfl, o, b⟩
    go_wp2_with fail
    refine hK.out _ _ trivial (fun hHeld => ?_)
    clear hK K
    try simp only [Act.put, List.setIfInBounds_toArray, List.set_cons_zero, List.set_cons_succ]
    have q4 := b.size
    have cN4 := cN.below b (by omega)
    rw [s1d] at cN4
    have S4 : OwnS w4 w.heap.size g G (w.heap.size + 1) zFs zDk6 := ⟨o.mono (by omega), cN4, by omega, by omega, fun hm => by have := o.lo _ hm; omega⟩
    have C4 := cR3.below b (by omega)
    have B4 := b3d.trans (b.mono b3d.size)
    have hl4 : ∀ x ∈ (w.heap.size + 1) :: g :: G, w.heap.size + 1 ≤ x := fun x hx => by rcases List.mem_cons.1 hx with rfl | hx; omega; have := o.lo x hx; omega
    refine oneL 2 rfl (by kernel_rfl) rfl (fun K hK => ?_)
    refine wp_build_two 26 _ _ rfl (.slice (some ⟨g, 0, none⟩) 4 c) (.slice (some ⟨(w.heap.size + 1), 0, none⟩) 6 6) rfl rfl [.slice (some ⟨g, 0, none⟩) 4 c, .slice (some ⟨(w.heap.size + 1), 0, none⟩) 6 6].toArray (unhide HB g (w.heap.size + 1) c) ?_
    refine hK.out _ _ trivial (fun hHeld => ?_)
    clear hK K
    try simp only [Act.put, List.setIfInBounds_toArray, List.set_cons_zero, List.set_cons_succ]
    have p1 := C4.put [.slice (some ⟨g, 0, none⟩) 4 c, .slice (some ⟨(w.heap.size + 1), 0, none⟩) 6 6] rfl
    have oz : Only [w.heap.size] w4 (w4.setCells w.heap.size 0 [.slice (some ⟨g, 0, none⟩) 4 c, .slice (some ⟨(w.heap.size + 1), 0, none⟩) 6 6]) := (Only.refl _ _).setCells (by simp) 0 _
    have SZ := keptS S4 oz (by rw [size_setCells]; exact Nat.le_refl _) (fun x hx => by have := hl4 x hx; simp; omega)
    have BZ := below_setCells w.heap.size (Nat.le_refl _) [.slice (some ⟨g, 0, none⟩) 4 c, .slice (some ⟨(w.heap.size + 1), 0, none⟩) 6 6] 0 _ B4
    refine oneL 3 rfl (by kernel_rfl) rfl (fun K hK => ?_)
    refine wp_store_mid 26 _ _ rfl w.heap.size 0 [.slice (some ⟨g, 0, none⟩) 4 c, .slice (some ⟨(w.heap.size + 1), 0, none⟩) 6 6].toArray rfl rfl C4.free (unhide HSS) (by kernel_rfl) ?_
    refine hK.out _ _ trivial (fun hHeld => ?_)
    clear hK K
    try simp only [Act.put, List.setIfInBounds_toArray, List.set_cons_zero, List.set_cons_succ]
    refine wpAnyH_done (by kernel_rfl) ?_ _
    refine NoPanic.normal ?_
    go_wp2_with fail
    refine bodyPost_ret (res_cell_mid Tryz.results42 _ _ w.heap.size [.slice (some ⟨g, 0, none⟩) 4 c, .slice (some ⟨(w.heap.size + 1), 0, none⟩) 6 6] _ rfl p1.cells Tryz.underlying26 rfl (by kernel_rfl)) rfl ?_
    exact ⟨g, G, (w.heap.size + 1), c, rfl, SZ, BZ⟩

set_option maxRecDepth 100000 in
set_option maxHeartbeats 2000000 in
theorem specNew_any (w : World) : Calls Tryz.prog 66 #[] w fun e w' => SnPost w e w' := by
  have b1 : Below w.heap.size w (w.alloc (.cells #[.slice none 0 0, .slice none 0 0] 26)) := (Below.refl _ _).alloc (Nat.le_refl _) _
  have cR := store_box w (.slice none 0 0) (.slice none 0 0)
  have s1 : (w.alloc (.cells #[.slice none 0 0, .slice none 0 0] 26)).heap.size = w.heap.size + 1 := by simp
  have HSS := hide (show (Tryz.prog.info? 26).map (·.size) = some 2 by kernel_rfl)
  have HB := hide (fun (g d cap : Nat) => (show Tryz.prog.built 26 [(0, .slice (some ⟨g, 0, none⟩) 4 cap), (1, .slice (some ⟨d, 0, none⟩) 6 6)] = some #[.slice (some ⟨g, 0, none⟩) 4 cap, .slice (some ⟨d, 0, none⟩) 6 6] by kernel_rfl))
  have HN := hide SpecN.new_any
  go_enter Tryz.func66, Tryz.ntmps66
  go_upto_region 1 with fail
  generalize w.alloc (.cells #[.slice none 0 0, .slice none 0 0] 26) = w1 at *
  refine wp_region_noPanic ?_
  refine wp_region_held_drew (S := fun w' => True) (by kernel_rfl) (trivial) (fun hHeld => ?_)
  have cRd : CsAt w1.drew w.heap.size [.slice none 0 0, .slice none 0 0] := ⟨fun j v hv => cR.cells j v hv, fun j hj => cR.free j hj⟩
  have b1d := b1.drew
  have s1d : w1.drew.heap.size = w.heap.size + 1 := s1
  clear cR b1 s1
  generalize w1.drew = w2 at *
  refine twoL 0 1 rfl rfl (by kernel_rfl) rfl rfl (fun K hK => ?_) (fun K hK => ?_)
  · go_simp
    refine (unhide HN _).mono ?_
    rintro e w3 ⟨g, G, c, rfl, o, b⟩
    go_wp2_with fail
    refine hK.out _ _ trivial (fun hHeld => ?_)
    clear hK K
    try simp only [Act.put, List.setIfInBounds_toArray, List.set_cons_zero, List.set_cons_succ]
    refine oneL 1 rfl (by kernel_rfl) rfl (fun K hK => ?_)
    refine wp_make6 24 _ _ rfl 6 rfl rfl 3 1 8 (.int .i64 0) Tryz.underlying24 made_int (by omega) (by omega) ?_
    rw [made6]
    refine hK.out _ _ trivial (fun hHeld => ?_)
    clear hK K
    try simp only [Act.put, List.setIfInBounds_toArray, List.set_cons_zero, List.set_cons_succ]
    have bA : Below w3.heap.size w3 (w3.alloc (.cells (isC zDk6).toArray 3)) := (Below.refl _ _).alloc (Nat.le_refl _) _
    have q3 := b.size
    have cN := CsAt.new w3 (isC zDk6) 3
    have S4 : OwnS (w3.alloc (.cells (isC zDk6).toArray 3)) w.heap.size g G w3.heap.size zFs zDk6 := ⟨(o.below bA (Nat.le_refl _)).mono (by omega), cN, by omega, by simp, fun hm => by have := o.hi _ hm; omega⟩
    have C4 := (cRd.below b (by omega)).below bA (by omega)
    have B4 := (b1d.trans (b.mono b1d.size)).trans (bA.mono (by omega))
    have hl4 : ∀ x ∈ w3.heap.size :: g :: G, w.heap.size + 1 ≤ x := fun x hx => by rcases List.mem_cons.1 hx with rfl | hx; omega; have := o.lo x hx; omega
    generalize w3.alloc (.cells (isC zDk6).toArray 3) = w4 at *
    refine oneL 2 rfl (by kernel_rfl) rfl (fun K hK => ?_)
    refine wp_build_two 26 _ _ rfl (.slice (some ⟨g, 0, none⟩) 4 c) (.slice (some ⟨w3.heap.size, 0, none⟩) 6 6) rfl rfl [.slice (some ⟨g, 0, none⟩) 4 c, .slice (some ⟨w3.heap.size, 0, none⟩) 6 6].toArray (unhide HB g w3.heap.size c) ?_
    refine hK.out _ _ trivial (fun hHeld => ?_)
    clear hK K
    try simp only [Act.put, List.setIfInBounds_toArray, List.set_cons_zero, List.set_cons_succ]
    have p1 := C4.put [.slice (some ⟨g, 0, none⟩) 4 c, .slice (some ⟨w3.heap.size, 0, none⟩) 6 6] rfl
    have oz : Only [w.heap.size] w4 (w4.setCells w.heap.size 0 [.slice (some ⟨g, 0, none⟩) 4 c, .slice (some ⟨w3.heap.size, 0, none⟩) 6 6]) := (Only.refl _ _).setCells (by simp) 0 _
    have SZ := keptS S4 oz (by rw [size_setCells]; exact Nat.le_refl _) (fun x hx => by have := hl4 x hx; simp; omega)
    have BZ := below_setCells w.heap.size (Nat.le_refl _) [.slice (some ⟨g, 0, none⟩) 4 c, .slice (some ⟨w3.heap.size, 0, none⟩) 6 6] 0 _ B4
    refine oneL 3 rfl (by kernel_rfl) rfl (fun K hK => ?_)
    refine wp_store_mid 26 _ _ rfl w.heap.size 0 [.slice (some ⟨g, 0, none⟩) 4 c, .slice (some ⟨w3.heap.size, 0, none⟩) 6 6].toArray rfl rfl C4.free (unhide HSS) (by kernel_rfl) ?_
    refine hK.out _ _ trivial (fun hHeld => ?_)
    clear hK K
    try simp only [Act.put, List.setIfInBounds_toArray, List.set_cons_zero, List.set_cons_succ]
    refine wpAnyH_done (by kernel_rfl) ?_ _
    refine NoPanic.normal ?_
    go_wp2_with fail
    refine bodyPost_ret (res_cell_mid Tryz.results66 _ _ w.heap.size [.slice (some ⟨g, 0, none⟩) 4 c, .slice (some ⟨w3.heap.size, 0, none⟩) 6 6] _ rfl p1.cells Tryz.underlying26 rfl (by kernel_rfl)) rfl ?_
    exact ⟨g, G, w3.heap.size, c, rfl, SZ, BZ⟩
  · refine wp_make6 24 _ _ rfl 6 rfl rfl 3 1 8 (.int .i64 0) Tryz.underlying24 made_int (by omega) (by omega) ?_
    rw [made6]
    refine hK.out _ _ trivial (fun hHeld => ?_)
    clear hK K
    try simp only [Act.put, List.setIfInBounds_toArray, List.set_cons_zero, List.set_cons_succ]
    have bA : Below w2.heap.size w2 (w2.alloc (.cells (isC zDk6).toArray 3)) := (Below.refl _ _).alloc (Nat.le_refl _) _
    have cN := CsAt.new w2 (isC zDk6) 3
    have sN : (w2.alloc (.cells (isC zDk6).toArray 3)).heap.size = w2.heap.size + 1 := by simp
    have cR3 := cRd.below bA (by omega)
    have b3d := b1d.trans (bA.mono b1d.size)
    generalize w2.alloc (.cells (isC zDk6).toArray 3) = w3 at *
    refine oneL 0 rfl (by kernel_rfl) rfl (fun K hK => ?_)
    go_simp
    refine (unhide HN _).mono ?_
    rintro e w4 ⟨g, G, c, rfl, o, b⟩
    go_wp2_with fail
    refine hK.out _ _ trivial (fun hHeld => ?_)
    clear hK K
    try simp only [Act.put, List.setIfInBounds_toArray, List.set_cons_zero, List.set_cons_succ]
    have q4 := b.size
    have cN4 := cN.below b (by omega)
    rw [s1d] at cN4
    have S4 : OwnS w4 w.heap.size g G (w.heap.size + 1) zFs zDk6 := ⟨o.mono (by omega), cN4, by omega, by omega, fun hm => by have := o.lo _ hm; omega⟩
    have C4 := cR3.below b (by omega)
    have B4 := b3d.trans (b.mono b3d.size)
    have hl4 : ∀ x ∈ (w.heap.size + 1) :: g :: G, w.heap.size + 1 ≤ x := fun x hx => by rcases List.mem_cons.1 hx with rfl | hx; omega; have := o.lo x hx; omega
    refine oneL 2 rfl (by kernel_rfl) rfl (fun K hK => ?_)
    refine wp_build_two 26 _ _ rfl (.slice (some ⟨g, 0, none⟩) 4 c) (.slice (some ⟨(w.heap.size + 1), 0, none⟩) 6 6) rfl rfl [.slice (some ⟨g, 0, none⟩) 4 c, .slice (some ⟨(w.heap.size + 1), 0, none⟩) 6 6].toArray (unhide HB g (w.heap.size + 1) c) ?_
    refine hK.out _ _ trivial (fun hHeld => ?_)
    clear hK K
    try simp only [Act.put, List.setIfInBounds_toArray, List.set_cons_zero, List.set_cons_succ]
    have p1 := C4.put [.slice (some ⟨g, 0, none⟩) 4 c, .slice (some ⟨(w.heap.size + 1), 0, none⟩) 6 6] rfl
    have oz : Only [w.heap.size] w4 (w4.setCells w.heap.size 0 [.slice (some ⟨g, 0, none⟩) 4 c, .slice (some ⟨(w.heap.size + 1), 0, none⟩) 6 6]) := (Only.refl _ _).setCells (by simp) 0 _
    have SZ := keptS S4 oz (by rw [size_setCells]; exact Nat.le_refl _) (fun x hx => by have := hl4 x hx; simp; omega)
    have BZ := below_setCells w.heap.size (Nat.le_refl _) [.slice (some ⟨g, 0, none⟩) 4 c, .slice (some ⟨(w.heap.size + 1), 0, none⟩) 6 6] 0 _ B4
    refine oneL 3 rfl (by kernel_rfl) rfl (fun K hK => ?_)
    refine wp_store_mid 26 _ _ rfl w.heap.size 0 [.slice (some ⟨g, 0, none⟩) 4 c, .slice (some ⟨(w.heap.size + 1), 0, none⟩) 6 6].toArray rfl rfl C4.free (unhide HSS) (by kernel_rfl) ?_
    refine hK.out _ _ trivial (fun hHeld => ?_)
    clear hK K
    try simp only [Act.put, List.setIfInBounds_toArray, List.set_cons_zero, List.set_cons_succ]
    refine wpAnyH_done (by kernel_rfl) ?_ _
    refine NoPanic.normal ?_
    go_wp2_with fail
    refine bodyPost_ret (res_cell_mid Tryz.results66 _ _ w.heap.size [.slice (some ⟨g, 0, none⟩) 4 c, .slice (some ⟨(w.heap.size + 1), 0, none⟩) 6 6] _ rfl p1.cells Tryz.underlying26 rfl (by kernel_rfl)) rfl ?_
    exact ⟨g, G, (w.heap.size + 1), c, rfl, SZ, BZ⟩
def MarkPostO (w : World) (lo g N n : Nat) (G : List Nat) (k : Int) (e : Ending) (w' : World) : Prop := e = .returned (.int .i64 (k + 21 * (n : Nat))) ∧ Own.Own w' lo g G (mkBs n k) N ∧ Below lo w w' ∧ w'.heap.size = w.heap.size ∧ Only (g :: G) w w'
/-- Marks on a store of four blocks and six numbers. -/
def MnPost (w : World) (lo g : Nat) (G : List Nat) (d : Nat) (e : Ending) (w' : World) : Prop := e = .returned (.int .i64 91) ∧ OwnS w' lo g G d (mkBs 4 1) (mkI 6 85) ∧ OnlyG (d :: g :: G) w w' ∧ Below lo w w'
theorem fours_zf : Fours zFs := fours_z
theorem here : True := trivial
end Go.Proofs.YtbiokmojjneleaaGreat.SnA
