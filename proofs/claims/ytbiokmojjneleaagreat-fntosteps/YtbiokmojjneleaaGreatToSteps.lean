/-
  Steps are done one behind the other: so drawn ones are. The given statement, with no condition.
-/
import Derived.Test.YtbiokmojjneleaaGreatRcQ
import Derived.Test.YtbiokmojjneleaaGreatDrT
import Derived.Test.YtbiokmojjneleaaGreatRbS
import Derived.Test.YtbiokmojjneleaaGreatHaT
import Derived.Test.YtbiokmojjneleaaGreatFacts
import Derived.Lib.SmallJoins
namespace Go.Proofs.YtbiokmojjneleaaGreat.ToSteps
open Go.ChangeShapes Go.WideShapes Go.ChangeAt Go.RowKit Go.Shelf Go.Joins OkA Big Fl ImplB ImplF ImplS ImplT ImplU SpecA SpecB SpecC SpecD SpecW SpecX SpecF SpecG SpecH FindP FindN FindO FindD ImplW ImplX Pick Draw ClA DrB PlB AlX DpX Pl FindL StA StB StC StD StE StF StG SpS SpT Sv LqI LqF Px NwA Sn9 ImplL Kp DoA RmA WrA FlA PlA SpU ToA QuE LawT MkN Ct Cu Ps Py Pz PaA EvL EvS PrA Nf Nr Rw PyE PaB PaC PdA PdB PdD TwC DrT MkN QuE QuB LawU TwA SpV
open FlB (FsN)
open StN (SN)
open Facts (own laidOut)
set_option linter.unusedVariables false
set_option linter.unusedSimpArgs false
attribute [local go_sem ↓] Go.wp_at_zero Go.wp_at_succ

variable {fa da ga ea : Option Addr} {c1 c2 c3 c4 : Nat} {B : List Bk} {K : List Int}
/-- A store of four blocks and six values, ok or not. -/
structure SF (w : World) (fa da : Option Addr) (B : List Bk) (K : List Int) : Prop where
  sat : SAt w fa B da K
  l4 : B.length = 4
  l6 : K.length = 6
  pg : ∀ b ∈ B, b.ps.length ≤ 4
theorem SF.below {w w' : World} (h : SF w fa da B K) (b : Below w.heap.size w w') : SF w' fa da B K := ⟨h.sat.below b, h.l4, h.l6, h.pg⟩
theorem sf_of {w : World} {lo hi : Nat} (h : InT w lo hi (.slice fa 4 c1) (.slice da 6 c2) true B K) : SF w fa da B K := by
  have hs := sat_of h
  rcases h with ⟨q, _⟩ | ⟨_, g, G, d, c1, c2, e1, e2, o, hr, hF, e4, e6⟩
  · cases q
  · exact ⟨hs, e4, e6, fun b hb => by have := hF b hb; omega⟩
def ToF (w : World) (B : List Bk) (K : List Int) (e : Ending) (w' : World) : Prop := ∃ xa xc xd xe, e = .returned (.tuple #[.agg #[.slice xa 4 xc, .slice xd 6 xe], .bool true]) ∧ InT w' w.heap.size w'.heap.size (.slice xa 4 xc) (.slice xd 6 xe) true B K ∧ Below w.heap.size w w'
theorem toF_of {w w' : World} {L : List Stp} {cut : Int} {torn : Bool} {e : Ending} (hok : toOk B K L cut = true) (h : TpPost w B K L cut torn e w') : ToF w (toB B L cut torn) (toK K L cut torn) e w' := by
  obtain ⟨X, Y, rfl, I, b⟩ := InT.of h
  rw [hok] at I ⊢
  obtain ⟨g, d, c1, c2, e1, e2, h4, h6, hq⟩ := int_form I
  rw [e1, e2] at I ⊢
  exact ⟨_, _, _, _, rfl, I, b⟩
theorem toN_of {w w' : World} {L : List Stp} {cut : Int} {torn : Bool} {e : Ending} (hok : toOk B K L cut = false) (h : TpPost w B K L cut torn e w') : NoPost w e w' := by
  rcases h with ⟨_, h⟩ | ⟨q, _⟩
  · exact h
  · rw [hok] at q; cases q
theorem iToF {sa : Option Addr} {sc : Nat} (L : List Stp) (cut : Int) (torn : Bool) (hc0 : -100 ≤ cut) (hc1 : cut ≤ 100) (hl : L.length ≤ 100) (hok : toOk B K L cut = true) (w : World) (h : SF w fa da B K) (hs : SsAt w sa L) :
    Calls Tryz.prog 22 #[.agg #[.slice fa 4 c1, .slice da 6 c2], .slice sa L.length sc, .int .i64 cut, .bool torn] w fun e w' => ToF w (toB B L cut torn) (toK K L cut torn) e w' := by
  have h4 := h.l4
  have h6 := h.l6
  have := implTo_any fa c1 B da c2 K sa sc L cut (by omega) (by omega) torn w h.sat hs (by omega) (by omega) (by omega)
  rw [h4, h6] at this
  exact this.mono fun _ _ q => toF_of hok q
theorem iToN {sa : Option Addr} {sc : Nat} (L : List Stp) (cut : Int) (torn : Bool) (hc0 : -100 ≤ cut) (hc1 : cut ≤ 100) (hl : L.length ≤ 100) (hok : toOk B K L cut = false) (w : World) (h : SF w fa da B K) (hs : SsAt w sa L) :
    Calls Tryz.prog 22 #[.agg #[.slice fa 4 c1, .slice da 6 c2], .slice sa L.length sc, .int .i64 cut, .bool torn] w fun e w' => NoPost w e w' := by
  have h4 := h.l4
  have h6 := h.l6
  have := implTo_any fa c1 B da c2 K sa sc L cut (by omega) (by omega) torn w h.sat hs (by omega) (by omega) (by omega)
  rw [h4, h6] at this
  exact this.mono fun _ _ q => toN_of hok q
theorem sToF {sa : Option Addr} {sc : Nat} (L : List Stp) (cut : Int) (torn : Bool) (hl : L.length ≤ 100) (hok : toOk B K L cut = true) (w : World) (h : SF w fa da B K) (hs : SsAt w sa L) :
    Calls Tryz.prog 21 #[.agg #[.slice fa 4 c1, .slice da 6 c2], .slice sa L.length sc, .int .i64 cut, .bool torn] w fun e w' => ToF w (toB B L cut torn) (toK K L cut torn) e w' := by
  have h4 := h.l4
  have h6 := h.l6
  have hp := h.pg
  have := specTo_any fa c1 B da c2 K sa sc L cut torn w h.sat hs (by omega) (fun b hb => by have := hp b hb; omega) (by omega) (by omega)
  rw [h4, h6] at this
  exact this.mono fun _ _ q => toF_of hok q
theorem lqF (w : World) (h1 : SF w fa da B K) (h2 : SF w ga ea B K) :
    Calls Tryz.prog 23 #[.agg #[.slice fa 4 c1, .slice da 6 c2], .agg #[.slice ga 4 c3, .slice ea 6 c4]] w fun e w' => e = .returned (.bool true) ∧ Below w.heap.size w w' := by
  have h4 := h1.l4
  have h6 := h1.l6
  have hp := h1.pg
  have := lqStore_any fa ga da ea c1 c3 c2 c4 B B K K w h1.sat.fs h2.sat.fs h1.sat.ds h2.sat.ds (by omega) (by omega) (fun b hb => by have := hp b hb; omega) (fun b hb => by have := hp b hb; omega) (by omega) (by omega)
  rw [h4, h6] at this
  refine this.mono ?_
  rintro e w' ⟨⟨r, rfl, hr⟩, b⟩
  rw [hr.2 ⟨rfl, rfl⟩]
  exact ⟨rfl, b⟩
theorem iOkF (w : World) (h : SF w fa da B K) :
    Calls Tryz.prog 24 #[.agg #[.slice fa 4 c1, .slice da 6 c2]] w fun e w' => e = .returned (.bool (stB B K)) ∧ Below w.heap.size w w' := by
  have h4 := h.l4
  have h6 := h.l6
  have := Sv.iOk (fc := c1) (dc := c2) w h.sat (by omega) (by omega)
  rwa [h4, h6] at this
theorem to_split (bs : List Bk) (dk : List Int) (L : List Stp) (n : Nat) (cut : Int) (torn : Bool) (hn : n ≤ L.length) (hc : (n : Int) ≤ cut) : toB (toB bs (L.take n) (n : Int) false) (L.drop n) (cut - n) torn = toB bs L cut torn ∧ toK (toK dk (L.take n) (n : Int) false) (L.drop n) (cut - n) torn = toK dk L cut torn := by
  have hf : fell (L.take n) (n : Int) false = false := rfl
  have e0 : (L.take n).take ((n : Int)).toNat = L.take n := by rw [Int.toNat_natCast]; exact List.take_of_length_le (by rw [List.length_take]; omega)
  have e1 : toB bs (L.take n) (n : Int) false = toF bs (L.take n) := by unfold toB; rw [hf, e0]; rfl
  have e1' : toK dk (L.take n) (n : Int) false = toD dk (L.take n) := by unfold toK; rw [hf, e0]; rfl
  have e2 : fell (L.drop n) (cut - n) torn = fell L cut torn := by
    unfold fell inB
    rw [List.length_drop]
    congr 1
    rw [decide_eq_decide]
    omega
  have e3 : L.take cut.toNat = L.take n ++ (L.drop n).take (cut - n).toNat := by
    rw [show cut.toNat = n + (cut - n).toNat by omega, List.take_add]
  have e4 : (L.drop n).getD (cut - n).toNat zSt = L.getD cut.toNat zSt := by
    rw [List.getD_eq_getElem?_getD, List.getD_eq_getElem?_getD, List.getElem?_drop, show n + (cut - n).toNat = cut.toNat by omega]
  rw [e1, e1']
  unfold toB toK
  rw [e2, e3, e4, toF_app, toD_app]
  exact ⟨rfl, rfl⟩
theorem ss_drop {w : World} {b : Nat} {l : List Stp} (h : SsAt w (some ⟨b, 0, none⟩) l) (n : Nat) : SsAt w (some ⟨b, n * 8, none⟩) (l.drop n) := by
  rcases h with rfl | ⟨b', o, e, h⟩
  · exact .inl (by simp)
  · cases e
    by_cases hn : n ≤ l.length
    · refine .inr ⟨b, n * 8, rfl, fun j v hv => ?_⟩
      have e : stsC l = stsC (l.take n) ++ stsC (l.drop n) := by unfold stsC; rw [← List.flatMap_append, List.take_append_drop]
      have hl : (stsC (l.take n)).length = n * 8 := by rw [len_stsC, List.length_take]; omega
      have := h (n * 8 + j) v (by rw [e, List.getElem?_append_right (by omega), hl, show n * 8 + j - n * 8 = j by omega]; exact hv)
      rw [Nat.zero_add] at this; exact this
    · exact .inl (List.drop_eq_nil_of_le (by omega))
theorem ss_dropK {w : World} {b n KO sc : Nat} {l : List Stp} (h : SsAt w (some ⟨b, 0, none⟩) l) (hl : l.length ≤ sc) (h1 : sc = n → KO = 0) (h2 : ¬ sc = n → KO = n * 8) : SsAt w (some ⟨b, KO, none⟩) (l.drop n) := by
  by_cases e : sc = n
  · exact .inl (List.drop_eq_nil_of_le (by omega))
  · rw [h2 e]; exact ss_drop h n
theorem ss_take {w : World} {a : Option Addr} {l : List Stp} (h : SsAt w a l) (n : Nat) : SsAt w a (l.take n) := by
  rcases h with rfl | ⟨b, o, rfl, h⟩
  · exact .inl (by simp)
  · refine .inr ⟨b, o, rfl, fun j v hv => h j v ?_⟩
    have e : stsC l = stsC (l.take n) ++ stsC (l.drop n) := by unfold stsC; rw [← List.flatMap_append, List.take_append_drop]
    rw [e, List.getElem?_append_left (List.getElem?_eq_some_iff.1 hv).1]; exact hv

set_option maxRecDepth 100000 in
set_option maxHeartbeats 8000000 in
theorem walk (a0 : Option Addr) (len0 cap0 : Nat) (z0 : List Int) (a1 : Option Addr) (len1 cap1 : Nat) (z1 : List Int) (w : World) (h0 : IsRow .u8 w a0 len0 cap0 z0) (h1 : IsRow .u8 w a1 len1 cap1 z1) :
    Calls Tryz.prog 3 #[.slice a0 len0 cap0, .slice a1 len1 cap1] w fun e w' => e = .returned (.bool true) ∧ Below w.heap.size w w' := by
  have HD := hide (drawTo_any w a0 len0 cap0 z0 h0)
  clear h0 h1
  go_enter Tryz.func3, Tryz.ntmps3
  by_cases hbig0 : 1048576 < (len0 : Int)
  · go_wp2
    go_ret
    exact ⟨rfl, Below.refl _ _⟩
  by_cases hbig1 : 1048576 < (len1 : Int)
  · go_wp2
    go_ret
    exact ⟨rfl, Below.refl _ _⟩
  go_wp2_with fail
  refine (unhide HD).mono ?_
  rintro e w1 ⟨g, o, c, bs, d, z, dc, dk, sa, sc, L, cut, tt, rfl, S1, ⟨hss, hac⟩, hl8, hc0, hc1, B⟩
  clear HD
  have h4 := S1.fs.four
  have h6 := S1.six
  have hp4 := S1.fs.pgs
  have hs := S1.at
  clear S1
  generalize (some ⟨g, o, none⟩ : Option Addr) = fa at *
  generalize (some ⟨d, z, none⟩ : Option Addr) = da at *
  have HSS := hide (show (Tryz.prog.info? 26).map (·.size) = some 2 by kernel_rfl)
  have HSE := hide (show (Tryz.prog.info? 42).map (·.size) = some 5 by kernel_rfl)
  cases hok : toOk bs dk L cut
  · have HI := hide (fun (w' : World) (h : SAt w' fa bs da dk) (h2 : SsAt w' sa L) => (implTo_any fa c bs da dc dk sa sc L cut (by omega) (by omega) tt w' h h2 (by omega) (by omega) (by omega)).mono fun _ _ q => toN_of hok q)
    have HS := hide (fun (w' : World) (h : SAt w' fa bs da dk) (h2 : SsAt w' sa L) => (specTo_any fa c bs da dc dk sa sc L cut tt w' h h2 (by omega) (fun b hb => by have := hp4 b hb; omega) (by omega) (by omega)).mono fun _ _ q => toN_of hok q)
    clear h4 h6 hp4 hok hac
    generalize bs.length = n4 at *
    generalize dk.length = n6 at *
    have b : Below w1.heap.size w1 (w1.alloc (.cells #[.slice fa n4 c, .slice da n6 dc] 26)) := (Below.refl _ _).alloc (Nat.le_refl _) _
    have bx := Bx.new w1 (.slice fa n4 c) (.slice da n6 dc) 26
    replace hs := hs.below b
    replace hss := hss.below b
    replace B := B.trans (b.mono B.size)
    clear b
    have bx0 := bx.c0
    have bx1 := bx.c1
    go_wp2_with fail
    generalize w1.alloc (.cells #[.slice fa n4 c, .slice da n6 dc] 26) = v1 at *
    generalize w1.heap.size = bxb at *
    refine (unhide HS _ hs hss).mono ?_
    rintro e u2 ⟨rfl, b⟩
    replace hs := hs.below b
    replace hss := hss.below b
    replace bx := bx.below b
    clear bx0 bx1
    have bx0 := bx.c0
    have bx1 := bx.c1
    replace B := B.trans (b.mono B.size)
    clear b
    have b : Below u2.heap.size u2 (u2.alloc (.cells #[.slice none 0 0, .slice none 0 0] 26)) := (Below.refl _ _).alloc (Nat.le_refl _) _
    have bw := Bx.new u2 (.slice none 0 0) (.slice none 0 0) 26
    replace hs := hs.below b
    replace hss := hss.below b
    replace bx := bx.below b
    clear bx0 bx1
    have bx0 := bx.c0
    have bx1 := bx.c1
    replace B := B.trans (b.mono B.size)
    clear b
    have bw0 := bw.c0
    have bw1 := bw.c1
    go_wp2_with fail
    generalize u2.alloc (.cells #[.slice none 0 0, .slice none 0 0] 26) = v3 at *
    generalize u2.heap.size = bwb at *
    refine (unhide HI _ hs hss).mono ?_
    rintro e u4 ⟨rfl, b⟩
    replace hs := hs.below b
    replace hss := hss.below b
    replace bx := bx.below b
    clear bx0 bx1
    have bx0 := bx.c0
    have bx1 := bx.c1
    replace bw := bw.below b
    clear bw0 bw1
    have bw0 := bw.c0
    have bw1 := bw.c1
    replace B := B.trans (b.mono B.size)
    clear b
    have b : Below u4.heap.size u4 (u4.alloc (.cells #[.slice none 0 0, .slice none 0 0] 26)) := (Below.refl _ _).alloc (Nat.le_refl _) _
    have bi := Bx.new u4 (.slice none 0 0) (.slice none 0 0) 26
    replace hs := hs.below b
    replace hss := hss.below b
    replace bx := bx.below b
    clear bx0 bx1
    have bx0 := bx.c0
    have bx1 := bx.c1
    replace bw := bw.below b
    clear bw0 bw1
    have bw0 := bw.c0
    have bw1 := bw.c1
    replace B := B.trans (b.mono B.size)
    clear b
    have bi0 := bi.c0
    have bi1 := bi.c1
    go_wp2_with fail
    generalize u4.alloc (.cells #[.slice none 0 0, .slice none 0 0] 26) = v5 at *
    generalize u4.heap.size = bib at *
    refine (lqNil _).mono ?_
    rintro e u6 ⟨rfl, b⟩
    replace hs := hs.below b
    replace hss := hss.below b
    replace bx := bx.below b
    clear bx0 bx1
    have bx0 := bx.c0
    have bx1 := bx.c1
    replace bw := bw.below b
    clear bw0 bw1
    have bw0 := bw.c0
    have bw1 := bw.c1
    replace bi := bi.below b
    clear bi0 bi1
    have bi0 := bi.c0
    have bi1 := bi.c1
    replace B := B.trans (b.mono B.size)
    clear b
    go_wp2_with fail
    refine (lqNil _).mono ?_
    rintro e u7 ⟨rfl, b⟩
    replace hs := hs.below b
    replace hss := hss.below b
    replace bx := bx.below b
    clear bx0 bx1
    have bx0 := bx.c0
    have bx1 := bx.c1
    replace bw := bw.below b
    clear bw0 bw1
    have bw0 := bw.c0
    have bw1 := bw.c1
    replace bi := bi.below b
    clear bi0 bi1
    have bi0 := bi.c0
    have bi1 := bi.c1
    replace B := B.trans (b.mono B.size)
    clear b
    go_wp2
    go_ret
    exact ⟨rfl, B⟩
  · have hok3 : stB bs dk = true ∧ L.all stkB = true ∧ 0 ≤ cut := by unfold toOk at hok; simp only [Bool.and_eq_true, decide_eq_true_eq] at hok; exact ⟨hok.1.1, hok.1.2, hok.2⟩
    have e4 := ok_len (st_parts hok3.1).1
    have e6 := st_len hok3.1
    have hF : SF w1 fa da bs dk := ⟨hs, e4, e6, hp4⟩
    clear hs
    rw [e4, e6]
    clear h4 h6 hp4 e4 e6
    rcases hac with ⟨rfl, rfl, hL0⟩ | ⟨sb, rfl, hcap⟩
    · obtain rfl : L = [] := List.eq_nil_of_length_eq_zero hL0
      clear hL0
      have hln : (([] : List Stp).length : Int) = 0 := rfl
      have HOK := hide hok
      have hl9 : (([] : List Stp)).length ≤ 100 := by simp
      have HS := hide (fun (w' : World) (h : SF w' fa da bs dk) (h2 : SsAt w' none ([] : List Stp)) => sToF (c1 := c) (c2 := dc) (sc := 0) ([] : List Stp) cut tt hl9 hok w' h h2)
      have HI := hide (fun (w' : World) (h : SF w' fa da bs dk) (h2 : SsAt w' none ([] : List Stp)) => iToF (c1 := c) (c2 := dc) (sc := 0) ([] : List Stp) cut tt (by omega) (by omega) hl9 hok w' h h2)
      have HN := hide (fun (w' : World) (h : SF w' fa da bs dk) => (by have := iToF (c1 := c) (c2 := dc) (sa := none) (sc := 0) [] 3 true (by omega) (by omega) (by simp) (nil_tk hok3.1 3 (by omega)) w' h (.inl rfl); rw [(to_nil (bs := bs) (dk := dk) 3 true).1, (to_nil (bs := bs) (dk := dk) 3 true).2] at this; exact this : Calls Tryz.prog 22 #[.agg #[.slice fa 4 c, .slice da 6 dc], .slice none 0 0, .int .i64 3, .bool true] w' fun e w'' => ToF w' bs dk e w''))
      have HM := hide (fun (w' : World) (h : SF w' fa da bs dk) (h2 : SsAt w' none ([] : List Stp)) => iToN (c1 := c) (c2 := dc) (sc := 0) ([] : List Stp) (-1) tt (by omega) (by omega) hl9 (by unfold toOk; simp) w' h h2)
      obtain ⟨K, hK, hKL, hKc⟩ : ∃ K : Nat, (len1 : Int) % (min cut 0 + 1) = (K : Int) ∧ K ≤ 0 ∧ (K : Int) ≤ cut := ⟨0, by rw [show min cut 0 + 1 = 1 by omega]; omega, by omega, by omega⟩
      obtain rfl : K = 0 := by omega
      have hmn : min cut 0 = 0 := by omega
      have hK2 : (len1 : Int) % ((if (0 : Int) < cut then 0 else cut) + 1) = 0 := by rw [show (if (0 : Int) < cut then (0 : Int) else cut) = min cut 0 by split <;> omega]; exact hK
      have hwm : IntKind.i64.wrap (min cut 0 + 1) = min cut 0 + 1 := by rw [IntKind.wrap_i64] <;> omega
      have hwK : IntKind.i64.wrap (0 : Int) = (0 : Int) := by rw [IntKind.wrap_i64] <;> omega
      have hcK : IntKind.i64.wrap (cut - (0 : Int)) = cut - (0 : Int) := by rw [IntKind.wrap_i64] <;> omega
      have HSP0 := to_split bs dk (([] : List Stp)) 0 cut tt (by simp) (by omega)
      rw [show ((0 : Nat) : Int) = 0 from rfl] at HSP0
      rw [Int.sub_zero] at HSP0
      have HSP := hide HSP0
      clear HSP0
      have hk3 := hide (show toOk bs dk ((([] : List Stp)).take 0) (0 : Int) = true by unfold toOk; rw [hok3.1, Bool.true_and, Bool.and_eq_true, List.all_eq_true]; exact ⟨fun x hx => (List.all_eq_true.1 hok3.2.1) x (List.mem_of_mem_take hx), decide_eq_true (by omega)⟩)
      have hk4 := hide (fun (h : stB (toB bs ((([] : List Stp)).take 0) (0 : Int) false) (toK dk ((([] : List Stp)).take 0) (0 : Int) false) = true) => (show toOk (toB bs ((([] : List Stp)).take 0) (0 : Int) false) (toK dk ((([] : List Stp)).take 0) (0 : Int) false) ((([] : List Stp)).drop 0) cut = true by unfold toOk; rw [h, Bool.true_and, Bool.and_eq_true, List.all_eq_true]; exact ⟨fun x hx => (List.all_eq_true.1 hok3.2.1) x (List.mem_of_mem_drop hx), decide_eq_true (by omega)⟩))
      have HT1 := hide (fun (w' : World) (h : SF w' fa da bs dk) (h2 : SsAt w' none (([] : List Stp))) => (by have := iToF (c1 := c) (c2 := dc) (sc := 0) ((([] : List Stp)).take 0) (0 : Int) false (by omega) (by omega) (by rw [List.length_take]; omega) (unhide hk3) w' h (ss_take h2 0); rw [show ((([] : List Stp)).take 0).length = 0 by rw [List.length_take]; simp] at this; exact this : Calls Tryz.prog 22 #[.agg #[.slice fa 4 c, .slice da 6 dc], .slice none 0 0, .int .i64 (0 : Int), .bool false] w' fun e w'' => ToF w' (toB bs ((([] : List Stp)).take 0) (0 : Int) false) (toK dk ((([] : List Stp)).take 0) (0 : Int) false) e w''))
      obtain ⟨B1, hB1⟩ : ∃ x, x = toB bs ((([] : List Stp)).take 0) (0 : Int) false := ⟨_, rfl⟩
      obtain ⟨K1, hK1⟩ : ∃ x, x = toK dk ((([] : List Stp)).take 0) (0 : Int) false := ⟨_, rfl⟩
      rw [← hB1, ← hK1] at HT1 HSP hk4
      clear hB1 hK1 hk3
      have HT2 := hide (fun (hst1 : stB B1 K1 = true) (ya yd : Option Addr) (ym yn : Nat) (w' : World) (h : SF w' ya yd B1 K1) (h2 : SsAt w' none (([] : List Stp))) => (by have := iToF (c1 := ym) (c2 := yn) (sa := none) (sc := 0) ((([] : List Stp)).drop 0) cut tt (by omega) (by omega) (by rw [List.length_drop]; omega) (unhide hk4 hst1) w' h (.inl rfl); rw [(unhide HSP).1, (unhide HSP).2] at this; exact this : Calls Tryz.prog 22 #[.agg #[.slice ya 4 ym, .slice yd 6 yn], .slice none 0 0, .int .i64 cut, .bool tt] w' fun e w'' => ToF w' (toB bs (([] : List Stp)) cut tt) (toK dk (([] : List Stp)) cut tt) e w''))
      clear HSP hk4 hok hok3
      generalize toB bs (([] : List Stp)) cut tt = BX at *
      generalize toK dk (([] : List Stp)) cut tt = KX at *
      have b : Below w1.heap.size w1 (w1.alloc (.cells #[.slice fa 4 c, .slice da 6 dc] 26)) := (Below.refl _ _).alloc (Nat.le_refl _) _
      have bx := Bx.new w1 (.slice fa 4 c) (.slice da 6 dc) 26
      replace hF := hF.below b
      replace hss := hss.below b
      replace B := B.trans (b.mono B.size)
      clear b
      have bx0 := bx.c0
      have bx1 := bx.c1
      go_wp2_with fail
      generalize w1.alloc (.cells #[.slice fa 4 c, .slice da 6 dc] 26) = v1 at *
      generalize w1.heap.size = bxb at *
      refine (unhide HS _ hF hss).mono ?_
      rintro e u2 ⟨fw, k1, dw, k2, rfl, hw, b⟩
      replace hF := hF.below b
      replace hss := hss.below b
      replace bx := bx.below b
      clear bx0 bx1
      have bx0 := bx.c0
      have bx1 := bx.c1
      replace B := B.trans (b.mono B.size)
      clear b
      have hW := sf_of hw
      clear hw
      have b : Below u2.heap.size u2 (u2.alloc (.cells #[.slice fw 4 k1, .slice dw 6 k2] 26)) := (Below.refl _ _).alloc (Nat.le_refl _) _
      have bw := Bx.new u2 (.slice fw 4 k1) (.slice dw 6 k2) 26
      replace hF := hF.below b
      replace hss := hss.below b
      replace hW := hW.below b
      replace bx := bx.below b
      clear bx0 bx1
      have bx0 := bx.c0
      have bx1 := bx.c1
      replace B := B.trans (b.mono B.size)
      clear b
      have bw0 := bw.c0
      have bw1 := bw.c1
      go_wp2_with fail
      generalize u2.alloc (.cells #[.slice fw 4 k1, .slice dw 6 k2] 26) = v3 at *
      generalize u2.heap.size = bwb at *
      refine (unhide HI _ hF hss).mono ?_
      rintro e u4 ⟨fi, m1, di, m2, rfl, hi9, b⟩
      replace hF := hF.below b
      replace hss := hss.below b
      replace hW := hW.below b
      replace bx := bx.below b
      clear bx0 bx1
      have bx0 := bx.c0
      have bx1 := bx.c1
      replace bw := bw.below b
      clear bw0 bw1
      have bw0 := bw.c0
      have bw1 := bw.c1
      replace B := B.trans (b.mono B.size)
      clear b
      have hI := sf_of hi9
      clear hi9
      have b : Below u4.heap.size u4 (u4.alloc (.cells #[.slice fi 4 m1, .slice di 6 m2] 26)) := (Below.refl _ _).alloc (Nat.le_refl _) _
      have bi := Bx.new u4 (.slice fi 4 m1) (.slice di 6 m2) 26
      replace hF := hF.below b
      replace hss := hss.below b
      replace hW := hW.below b
      replace hI := hI.below b
      replace bx := bx.below b
      clear bx0 bx1
      have bx0 := bx.c0
      have bx1 := bx.c1
      replace bw := bw.below b
      clear bw0 bw1
      have bw0 := bw.c0
      have bw1 := bw.c1
      replace B := B.trans (b.mono B.size)
      clear b
      have bi0 := bi.c0
      have bi1 := bi.c1
      go_wp2_with fail
      generalize u4.alloc (.cells #[.slice fi 4 m1, .slice di 6 m2] 26) = v5 at *
      generalize u4.heap.size = bib at *
      refine (lqF _ hI hW).mono ?_
      rintro e u6 ⟨rfl, b⟩
      replace hF := hF.below b
      replace hss := hss.below b
      replace hW := hW.below b
      replace hI := hI.below b
      replace bx := bx.below b
      clear bx0 bx1
      have bx0 := bx.c0
      have bx1 := bx.c1
      replace bw := bw.below b
      clear bw0 bw1
      have bw0 := bw.c0
      have bw1 := bw.c1
      replace bi := bi.below b
      clear bi0 bi1
      have bi0 := bi.c0
      have bi1 := bi.c1
      replace B := B.trans (b.mono B.size)
      clear b
      clear bw bw0 bw1
      clear hW
      clear HS HI
      go_wp2_with fail
      refine (unhide HN _ hF).mono ?_
      rintro e u7 ⟨fn, n1, dn, n2, rfl, hn9, b⟩
      replace hF := hF.below b
      replace hss := hss.below b
      replace hI := hI.below b
      replace bx := bx.below b
      clear bx0 bx1
      have bx0 := bx.c0
      have bx1 := bx.c1
      replace bi := bi.below b
      clear bi0 bi1
      have bi0 := bi.c0
      have bi1 := bi.c1
      replace B := B.trans (b.mono B.size)
      clear b
      have hN := sf_of hn9
      clear hn9
      have b : Below u7.heap.size u7 (u7.alloc (.cells #[.slice fn 4 n1, .slice dn 6 n2] 26)) := (Below.refl _ _).alloc (Nat.le_refl _) _
      have bn := Bx.new u7 (.slice fn 4 n1) (.slice dn 6 n2) 26
      replace hF := hF.below b
      replace hss := hss.below b
      replace hI := hI.below b
      replace hN := hN.below b
      replace bx := bx.below b
      clear bx0 bx1
      have bx0 := bx.c0
      have bx1 := bx.c1
      replace bi := bi.below b
      clear bi0 bi1
      have bi0 := bi.c0
      have bi1 := bi.c1
      replace B := B.trans (b.mono B.size)
      clear b
      have bn0 := bn.c0
      have bn1 := bn.c1
      go_wp2_with fail
      generalize u7.alloc (.cells #[.slice fn 4 n1, .slice dn 6 n2] 26) = v8 at *
      generalize u7.heap.size = bnb at *
      refine (unhide HM _ hF hss).mono ?_
      rintro e u9 ⟨rfl, b⟩
      replace hF := hF.below b
      replace hss := hss.below b
      replace hI := hI.below b
      replace hN := hN.below b
      replace bx := bx.below b
      clear bx0 bx1
      have bx0 := bx.c0
      have bx1 := bx.c1
      replace bi := bi.below b
      clear bi0 bi1
      have bi0 := bi.c0
      have bi1 := bi.c1
      replace bn := bn.below b
      clear bn0 bn1
      have bn0 := bn.c0
      have bn1 := bn.c1
      replace B := B.trans (b.mono B.size)
      clear b
      have b : Below u9.heap.size u9 (u9.alloc (.cells #[.slice none 0 0, .slice none 0 0] 26)) := (Below.refl _ _).alloc (Nat.le_refl _) _
      have bm := Bx.new u9 (.slice none 0 0) (.slice none 0 0) 26
      replace hF := hF.below b
      replace hss := hss.below b
      replace hI := hI.below b
      replace hN := hN.below b
      replace bx := bx.below b
      clear bx0 bx1
      have bx0 := bx.c0
      have bx1 := bx.c1
      replace bi := bi.below b
      clear bi0 bi1
      have bi0 := bi.c0
      have bi1 := bi.c1
      replace bn := bn.below b
      clear bn0 bn1
      have bn0 := bn.c0
      have bn1 := bn.c1
      replace B := B.trans (b.mono B.size)
      clear b
      have bm0 := bm.c0
      have bm1 := bm.c1
      go_wp2_with fail
      generalize u9.alloc (.cells #[.slice none 0 0, .slice none 0 0] 26) = v10 at *
      generalize u9.heap.size = bmb at *
      refine (lqF _ hN hF).mono ?_
      rintro e u11 ⟨rfl, b⟩
      replace hF := hF.below b
      replace hss := hss.below b
      replace hI := hI.below b
      replace hN := hN.below b
      replace bx := bx.below b
      clear bx0 bx1
      have bx0 := bx.c0
      have bx1 := bx.c1
      replace bi := bi.below b
      clear bi0 bi1
      have bi0 := bi.c0
      have bi1 := bi.c1
      replace bn := bn.below b
      clear bn0 bn1
      have bn0 := bn.c0
      have bn1 := bn.c1
      replace bm := bm.below b
      clear bm0 bm1
      have bm0 := bm.c0
      have bm1 := bm.c1
      replace B := B.trans (b.mono B.size)
      clear b
      clear bn bn0 bn1
      clear bm bm0 bm1
      clear hN
      clear HN HM
      go_upto_region 13 with fail
      rw [hK2]
      clear hK2 hK
      generalize (if ((0 : Int)) < cut then ((0 : Int)) else cut) = qq9 at *
      have hwc : IntKind.i64.wrap cut = cut := by rw [IntKind.wrap_i64] <;> omega
      apply OrdM.join5 (F := fun (ya : Option Addr) (yd : Option Addr) (ym : Nat) (yn : Nat) (A : Nat) w' => Kept [] u11 w' ∧ CsAt w' A [.slice ya 4 ym, .slice yd 6 yn] ∧ SF w' ya yd B1 K1)
      case h =>
        refine wp_region_noPanic ?_
        refine wp_region_held_drew (S := fun w' => Kept [] u11 w') (by kernel_rfl) (Kept.refl _ _).drew (fun hHeld => ?_)
        generalize u11.drew = y0 at *
        have z0 := hHeld.size
        refine takeL 0 (.agg #[.slice fa 4 c, .slice da 6 dc]) rfl (by kernel_rfl) (by kernel_rfl) (by kernel_rfl) (fun _ _ _ h => h) (yieldsIf_load_mid rfl 26 _ rfl bxb 0 rfl [.slice fa 4 c, .slice da 6 dc] _ (fun _ h => rng2 (bx.below (Kept.all h (by simp)))) Tryz.underlying26 rfl (unhide HSS)) hHeld ?_
        try simp only [Act.put, List.setIfInBounds_toArray, List.set_cons_zero, List.set_cons_succ]
        refine takeL 1 (.slice none 0 0) rfl (by kernel_rfl) (by kernel_rfl) (by kernel_rfl) (fun _ _ _ h => h) (Or.inl ⟨rfl, fun _ _ => rfl⟩) hHeld ?_
        try simp only [Act.put, List.setIfInBounds_toArray, List.set_cons_zero, List.set_cons_succ]
        refine takeL 2 (.int .i64 (0 : Int)) rfl (by kernel_rfl) (by kernel_rfl) (by kernel_rfl) (fun _ _ _ h => h) (Or.inl ⟨rfl, fun _ _ => rfl⟩) hHeld ?_
        try simp only [Act.put, List.setIfInBounds_toArray, List.set_cons_zero, List.set_cons_succ]
        refine takeL 3 (.slice none 0 0) rfl (by kernel_rfl) (by kernel_rfl) (by kernel_rfl) (fun _ _ _ h => h) (Or.inl ⟨rfl, fun w9 hSw => by go_simp⟩) hHeld ?_
        try simp only [Act.put, List.setIfInBounds_toArray, List.set_cons_zero, List.set_cons_succ]
        refine takeL 4 (.int .i64 (0 : Int)) rfl (by kernel_rfl) (by kernel_rfl) (by kernel_rfl) (fun _ _ _ h => h) (Or.inl ⟨rfl, fun _ _ => rfl⟩) hHeld ?_
        try simp only [Act.put, List.setIfInBounds_toArray, List.set_cons_zero, List.set_cons_succ]
        refine OrdL.twoL 5 9 rfl rfl (by kernel_rfl) rfl rfl  (fun K hK => ?_) (fun K hK => ?_) 
        · go_simp
          refine (unhide HT1 _ (hF.below (Kept.all hHeld (by simp))) (hss.below (Kept.all hHeld (by simp)))).mono ?_
          rintro e y1 ⟨ya, ym, yd, yn, rfl, hy, b⟩
          go_wp2_with fail
          refine hK.out _ _ (hHeld.trans (Kept.of b)) (fun hHeld => ?_)
          clear hK K
          try simp only [Act.put, List.setIfInBounds_toArray, List.set_cons_zero, List.set_cons_succ]
          have z1 := b.size
          clear b
          refine takeL 6 (.tuple #[.agg #[.slice ya 4 ym, .slice yd 6 yn], .bool true]) rfl (by kernel_rfl) (by kernel_rfl) (by kernel_rfl) (fun _ _ _ h => h) (Or.inl ⟨rfl, fun _ _ => rfl⟩) hHeld ?_
          try simp only [Act.put, List.setIfInBounds_toArray, List.set_cons_zero, List.set_cons_succ]
          refine takeL 7 (.agg #[.slice ya 4 ym, .slice yd 6 yn]) rfl (by kernel_rfl) (by kernel_rfl) (by kernel_rfl) (fun _ _ _ h => h) (Or.inl ⟨rfl, fun w9 hSw => by go_simp⟩) hHeld ?_
          try simp only [Act.put, List.setIfInBounds_toArray, List.set_cons_zero, List.set_cons_succ]
          refine takeL 8 (.bool true) rfl (by kernel_rfl) (by kernel_rfl) (by kernel_rfl) (fun _ _ _ h => h) (Or.inl ⟨rfl, fun w9 hSw => by go_simp⟩) hHeld ?_
          try simp only [Act.put, List.setIfInBounds_toArray, List.set_cons_zero, List.set_cons_succ]
          refine oneL 9 rfl (by kernel_rfl) rfl (fun K hK => ?_)
          go_simp
          have b : Below y1.heap.size y1 (y1.alloc (.cells #[.slice none 0 0, .slice none 0 0] 26)) := (Below.refl _ _).alloc (Nat.le_refl _) _
          have cN := CsAt.new y1 [.slice none 0 0, .slice none 0 0] 26
          have lcN := hHeld.size
          replace hy := hy.below b
          refine hK.out _ _ (hHeld.trans (Kept.of b)) (fun hHeld => ?_)
          clear hK K
          try simp only [Act.put, List.setIfInBounds_toArray, List.set_cons_zero, List.set_cons_succ]
          have z2 := b.size
          generalize y1.alloc (.cells #[.slice none 0 0, .slice none 0 0] 26) = y2 at *
          generalize y1.heap.size = A at *
          clear b
          have qcN := CsAt.lt cN (by simp)
          refine oneL 10 rfl (by kernel_rfl) rfl (fun K hK => ?_)
          have pcN := cN.put [.slice ya 4 ym, .slice yd 6 yn] rfl
          have kz := OrdL.kcells y2 A 0 [.slice ya 4 ym, .slice yd 6 yn]
          refine wp_store_mid 26 _ _ rfl A 0 [.slice ya 4 ym, .slice yd 6 yn].toArray rfl rfl cN.free (unhide HSS) (by kernel_rfl) ?_
          refine hK.out _ _ (hHeld.then kz (fun y hy => by simp at hy; subst hy; first | (left; simp; done) | (right; omega))) (fun hHeld => ?_)
          clear hK K
          try simp only [Act.put, List.setIfInBounds_toArray, List.set_cons_zero, List.set_cons_succ]
          replace hy := hy.only (OnlyG.kept kz) (fun z hz => by simp at hz; subst hz; omega)
          clear cN kz
          generalize y2.setCells A 0 [.slice ya 4 ym, .slice yd 6 yn] = y3 at *
          have cN := pcN
          clear pcN
          refine takeL 11 (.bool true) rfl (by kernel_rfl) (by kernel_rfl) (by kernel_rfl) (fun _ _ _ h => h) (Or.inl ⟨rfl, fun _ _ => rfl⟩) hHeld ?_
          try simp only [Act.put, List.setIfInBounds_toArray, List.set_cons_zero, List.set_cons_succ]
          refine wpAnyH_done (by kernel_rfl) ?_ _
          refine NoPanic.normal ?_
          exact ⟨rfl, ya, yd, ym, yn, A, rfl, hHeld, cN, sf_of hy⟩
        · go_simp
          have b : Below y0.heap.size y0 (y0.alloc (.cells #[.slice none 0 0, .slice none 0 0] 26)) := (Below.refl _ _).alloc (Nat.le_refl _) _
          have cN := CsAt.new y0 [.slice none 0 0, .slice none 0 0] 26
          have lcN := hHeld.size
          refine hK.out _ _ (hHeld.trans (Kept.of b)) (fun hHeld => ?_)
          clear hK K
          try simp only [Act.put, List.setIfInBounds_toArray, List.set_cons_zero, List.set_cons_succ]
          have z1 := b.size
          generalize y0.alloc (.cells #[.slice none 0 0, .slice none 0 0] 26) = y1 at *
          generalize y0.heap.size = A at *
          clear b
          have qcN := CsAt.lt cN (by simp)
          refine oneL 5 rfl (by kernel_rfl) rfl (fun K hK => ?_)
          go_simp
          refine (unhide HT1 _ (hF.below (Kept.all hHeld (by simp))) (hss.below (Kept.all hHeld (by simp)))).mono ?_
          rintro e y2 ⟨ya, ym, yd, yn, rfl, hy, b⟩
          go_wp2_with fail
          replace cN := CsAt.below cN b (CsAt.lt cN (by simp))
          refine hK.out _ _ (hHeld.trans (Kept.of b)) (fun hHeld => ?_)
          clear hK K
          try simp only [Act.put, List.setIfInBounds_toArray, List.set_cons_zero, List.set_cons_succ]
          have z2 := b.size
          clear b
          refine takeL 6 (.tuple #[.agg #[.slice ya 4 ym, .slice yd 6 yn], .bool true]) rfl (by kernel_rfl) (by kernel_rfl) (by kernel_rfl) (fun _ _ _ h => h) (Or.inl ⟨rfl, fun _ _ => rfl⟩) hHeld ?_
          try simp only [Act.put, List.setIfInBounds_toArray, List.set_cons_zero, List.set_cons_succ]
          refine takeL 7 (.agg #[.slice ya 4 ym, .slice yd 6 yn]) rfl (by kernel_rfl) (by kernel_rfl) (by kernel_rfl) (fun _ _ _ h => h) (Or.inl ⟨rfl, fun w9 hSw => by go_simp⟩) hHeld ?_
          try simp only [Act.put, List.setIfInBounds_toArray, List.set_cons_zero, List.set_cons_succ]
          refine takeL 8 (.bool true) rfl (by kernel_rfl) (by kernel_rfl) (by kernel_rfl) (fun _ _ _ h => h) (Or.inl ⟨rfl, fun w9 hSw => by go_simp⟩) hHeld ?_
          try simp only [Act.put, List.setIfInBounds_toArray, List.set_cons_zero, List.set_cons_succ]
          refine oneL 10 rfl (by kernel_rfl) rfl (fun K hK => ?_)
          have pcN := cN.put [.slice ya 4 ym, .slice yd 6 yn] rfl
          have kz := OrdL.kcells y2 A 0 [.slice ya 4 ym, .slice yd 6 yn]
          refine wp_store_mid 26 _ _ rfl A 0 [.slice ya 4 ym, .slice yd 6 yn].toArray rfl rfl cN.free (unhide HSS) (by kernel_rfl) ?_
          refine hK.out _ _ (hHeld.then kz (fun y hy => by simp at hy; subst hy; first | (left; simp; done) | (right; omega))) (fun hHeld => ?_)
          clear hK K
          try simp only [Act.put, List.setIfInBounds_toArray, List.set_cons_zero, List.set_cons_succ]
          replace hy := hy.only (OnlyG.kept kz) (fun z hz => by simp at hz; subst hz; omega)
          clear cN kz
          generalize y2.setCells A 0 [.slice ya 4 ym, .slice yd 6 yn] = y3 at *
          have cN := pcN
          clear pcN
          refine takeL 11 (.bool true) rfl (by kernel_rfl) (by kernel_rfl) (by kernel_rfl) (fun _ _ _ h => h) (Or.inl ⟨rfl, fun _ _ => rfl⟩) hHeld ?_
          try simp only [Act.put, List.setIfInBounds_toArray, List.set_cons_zero, List.set_cons_succ]
          refine wpAnyH_done (by kernel_rfl) ?_ _
          refine NoPanic.normal ?_
          exact ⟨rfl, ya, yd, ym, yn, A, rfl, hHeld, cN, sf_of hy⟩
      case k =>
        rintro ya yd ym yn A w8 ⟨K9, cN, hY⟩
        have b := Kept.all K9 (by simp)
        replace hF := hF.below b
        replace hss := hss.below b
        replace hI := hI.below b
        replace bx := bx.below b
        replace bi := bi.below b
        clear bx0 bx1 bi0 bi1
        have bx0 := bx.c0
        have bx1 := bx.c1
        have bi0 := bi.c0
        have bi1 := bi.c1
        replace B := B.trans (b.mono B.size)
        clear b K9
        have a0 := cN.cell 0 _ rfl
        have a1 := cN.cell 1 _ rfl
        go_wp2_with fail
        refine (iOkF _ hY).mono ?_
        rintro e u32 ⟨rfl, b⟩
        replace cN := cN.below b (CsAt.lt cN (by simp))
        clear a0 a1
        replace hF := hF.below b
        replace hss := hss.below b
        replace hI := hI.below b
        replace hY := hY.below b
        replace bx := bx.below b
        clear bx0 bx1
        have bx0 := bx.c0
        have bx1 := bx.c1
        replace bi := bi.below b
        clear bi0 bi1
        have bi0 := bi.c0
        have bi1 := bi.c1
        replace B := B.trans (b.mono B.size)
        clear b
        cases hst1 : stB B1 K1
        · go_wp2
          go_ret
          exact ⟨rfl, B⟩
        · have HT3 := hide (unhide HT2 hst1)
          clear HT2 hst1
          have z0 := True.intro
          go_upto_region 16 with fail
          apply OrdM.join5 (F := fun (za : Option Addr) (zd : Option Addr) (zm : Nat) (zn : Nat) (A2 : Nat) w' => Kept [] u32 w' ∧ CsAt w' A2 [.slice za 4 zm, .slice zd 6 zn] ∧ SF w' za zd BX KX)
          case h =>
            refine wp_region_noPanic ?_
            refine wp_region_held_drew (S := fun w' => Kept [] u32 w') (by kernel_rfl) (Kept.refl _ _).drew (fun hHeld => ?_)
            generalize u32.drew = y0 at *
            have z0 := hHeld.size
            refine takeL 0 (.agg #[.slice ya 4 ym, .slice yd 6 yn]) rfl (by kernel_rfl) (by kernel_rfl) (by kernel_rfl) (fun _ _ _ h => h) (yieldsIf_load_mid rfl 26 _ rfl A 0 rfl [.slice ya 4 ym, .slice yd 6 yn] _ (fun _ h => (cN.below (Kept.all h (by simp)) (CsAt.lt cN (by simp))).cells) Tryz.underlying26 rfl (unhide HSS)) hHeld ?_
            try simp only [Act.put, List.setIfInBounds_toArray, List.set_cons_zero, List.set_cons_succ]
            refine takeL 1 (.slice none 0 0) rfl (by kernel_rfl) (by kernel_rfl) (by kernel_rfl) (fun _ _ _ h => h) (Or.inl ⟨rfl, fun _ _ => rfl⟩) hHeld ?_
            try simp only [Act.put, List.setIfInBounds_toArray, List.set_cons_zero, List.set_cons_succ]
            refine takeL 2 (.int .i64 (0 : Int)) rfl (by kernel_rfl) (by kernel_rfl) (by kernel_rfl) (fun _ _ _ h => h) (Or.inl ⟨rfl, fun _ _ => rfl⟩) hHeld ?_
            try simp only [Act.put, List.setIfInBounds_toArray, List.set_cons_zero, List.set_cons_succ]
            refine takeL 3 (.slice none 0 0) rfl (by kernel_rfl) (by kernel_rfl) (by kernel_rfl) (fun _ _ _ h => h) (Or.inl ⟨rfl, fun w9 hSw => by go_simp⟩) hHeld ?_
            try simp only [Act.put, List.setIfInBounds_toArray, List.set_cons_zero, List.set_cons_succ]
            refine takeL 4 (.int .i64 cut) rfl (by kernel_rfl) (by kernel_rfl) (by kernel_rfl) (fun _ _ _ h => h) (Or.inl ⟨rfl, fun _ _ => rfl⟩) hHeld ?_
            try simp only [Act.put, List.setIfInBounds_toArray, List.set_cons_zero, List.set_cons_succ]
            refine takeL 5 (.int .i64 (0 : Int)) rfl (by kernel_rfl) (by kernel_rfl) (by kernel_rfl) (fun _ _ _ h => h) (Or.inl ⟨rfl, fun _ _ => rfl⟩) hHeld ?_
            try simp only [Act.put, List.setIfInBounds_toArray, List.set_cons_zero, List.set_cons_succ]
            refine takeL 6 (.int .i64 cut) rfl (by kernel_rfl) (by kernel_rfl) (by kernel_rfl) (fun _ _ _ h => h) (Or.inl ⟨rfl, fun w9 hSw => by go_simp⟩) hHeld ?_
            try simp only [Act.put, List.setIfInBounds_toArray, List.set_cons_zero, List.set_cons_succ]
            refine takeL 7 (.bool tt) rfl (by kernel_rfl) (by kernel_rfl) (by kernel_rfl) (fun _ _ _ h => h) (Or.inl ⟨rfl, fun _ _ => rfl⟩) hHeld ?_
            try simp only [Act.put, List.setIfInBounds_toArray, List.set_cons_zero, List.set_cons_succ]
            refine OrdL.twoL 8 12 rfl rfl (by kernel_rfl) rfl rfl  (fun K hK => ?_) (fun K hK => ?_) 
            · go_simp
              refine (unhide HT3 _ _ _ _ _ (hY.below (Kept.all hHeld (by simp))) (hss.below (Kept.all hHeld (by simp)))).mono ?_
              rintro e y1 ⟨za, zm, zd, zn, rfl, hz, b⟩
              go_wp2_with fail
              refine hK.out _ _ (hHeld.trans (Kept.of b)) (fun hHeld => ?_)
              clear hK K
              try simp only [Act.put, List.setIfInBounds_toArray, List.set_cons_zero, List.set_cons_succ]
              have z1 := b.size
              clear b
              refine takeL 9 (.tuple #[.agg #[.slice za 4 zm, .slice zd 6 zn], .bool true]) rfl (by kernel_rfl) (by kernel_rfl) (by kernel_rfl) (fun _ _ _ h => h) (Or.inl ⟨rfl, fun _ _ => rfl⟩) hHeld ?_
              try simp only [Act.put, List.setIfInBounds_toArray, List.set_cons_zero, List.set_cons_succ]
              refine takeL 10 (.agg #[.slice za 4 zm, .slice zd 6 zn]) rfl (by kernel_rfl) (by kernel_rfl) (by kernel_rfl) (fun _ _ _ h => h) (Or.inl ⟨rfl, fun w9 hSw => by go_simp⟩) hHeld ?_
              try simp only [Act.put, List.setIfInBounds_toArray, List.set_cons_zero, List.set_cons_succ]
              refine takeL 11 (.bool true) rfl (by kernel_rfl) (by kernel_rfl) (by kernel_rfl) (fun _ _ _ h => h) (Or.inl ⟨rfl, fun w9 hSw => by go_simp⟩) hHeld ?_
              try simp only [Act.put, List.setIfInBounds_toArray, List.set_cons_zero, List.set_cons_succ]
              refine oneL 12 rfl (by kernel_rfl) rfl (fun K hK => ?_)
              go_simp
              have b : Below y1.heap.size y1 (y1.alloc (.cells #[.slice none 0 0, .slice none 0 0] 26)) := (Below.refl _ _).alloc (Nat.le_refl _) _
              have cM := CsAt.new y1 [.slice none 0 0, .slice none 0 0] 26
              have lcM := hHeld.size
              replace hz := hz.below b
              refine hK.out _ _ (hHeld.trans (Kept.of b)) (fun hHeld => ?_)
              clear hK K
              try simp only [Act.put, List.setIfInBounds_toArray, List.set_cons_zero, List.set_cons_succ]
              have z2 := b.size
              generalize y1.alloc (.cells #[.slice none 0 0, .slice none 0 0] 26) = y2 at *
              generalize y1.heap.size = A2 at *
              clear b
              have qcM := CsAt.lt cM (by simp)
              refine oneL 13 rfl (by kernel_rfl) rfl (fun K hK => ?_)
              have pcM := cM.put [.slice za 4 zm, .slice zd 6 zn] rfl
              have kz := OrdL.kcells y2 A2 0 [.slice za 4 zm, .slice zd 6 zn]
              refine wp_store_mid 26 _ _ rfl A2 0 [.slice za 4 zm, .slice zd 6 zn].toArray rfl rfl cM.free (unhide HSS) (by kernel_rfl) ?_
              refine hK.out _ _ (hHeld.then kz (fun y hy => by simp at hy; subst hy; first | (left; simp; done) | (right; omega))) (fun hHeld => ?_)
              clear hK K
              try simp only [Act.put, List.setIfInBounds_toArray, List.set_cons_zero, List.set_cons_succ]
              replace hz := hz.only (OnlyG.kept kz) (fun z hz => by simp at hz; subst hz; omega)
              clear cM kz
              generalize y2.setCells A2 0 [.slice za 4 zm, .slice zd 6 zn] = y3 at *
              have cM := pcM
              clear pcM
              refine takeL 14 (.bool true) rfl (by kernel_rfl) (by kernel_rfl) (by kernel_rfl) (fun _ _ _ h => h) (Or.inl ⟨rfl, fun _ _ => rfl⟩) hHeld ?_
              try simp only [Act.put, List.setIfInBounds_toArray, List.set_cons_zero, List.set_cons_succ]
              refine wpAnyH_done (by kernel_rfl) ?_ _
              refine NoPanic.normal ?_
              exact ⟨rfl, za, zd, zm, zn, A2, rfl, hHeld, cM, sf_of hz⟩
            · go_simp
              have b : Below y0.heap.size y0 (y0.alloc (.cells #[.slice none 0 0, .slice none 0 0] 26)) := (Below.refl _ _).alloc (Nat.le_refl _) _
              have cM := CsAt.new y0 [.slice none 0 0, .slice none 0 0] 26
              have lcM := hHeld.size
              refine hK.out _ _ (hHeld.trans (Kept.of b)) (fun hHeld => ?_)
              clear hK K
              try simp only [Act.put, List.setIfInBounds_toArray, List.set_cons_zero, List.set_cons_succ]
              have z1 := b.size
              generalize y0.alloc (.cells #[.slice none 0 0, .slice none 0 0] 26) = y1 at *
              generalize y0.heap.size = A2 at *
              clear b
              have qcM := CsAt.lt cM (by simp)
              refine oneL 8 rfl (by kernel_rfl) rfl (fun K hK => ?_)
              go_simp
              refine (unhide HT3 _ _ _ _ _ (hY.below (Kept.all hHeld (by simp))) (hss.below (Kept.all hHeld (by simp)))).mono ?_
              rintro e y2 ⟨za, zm, zd, zn, rfl, hz, b⟩
              go_wp2_with fail
              replace cM := CsAt.below cM b (CsAt.lt cM (by simp))
              refine hK.out _ _ (hHeld.trans (Kept.of b)) (fun hHeld => ?_)
              clear hK K
              try simp only [Act.put, List.setIfInBounds_toArray, List.set_cons_zero, List.set_cons_succ]
              have z2 := b.size
              clear b
              refine takeL 9 (.tuple #[.agg #[.slice za 4 zm, .slice zd 6 zn], .bool true]) rfl (by kernel_rfl) (by kernel_rfl) (by kernel_rfl) (fun _ _ _ h => h) (Or.inl ⟨rfl, fun _ _ => rfl⟩) hHeld ?_
              try simp only [Act.put, List.setIfInBounds_toArray, List.set_cons_zero, List.set_cons_succ]
              refine takeL 10 (.agg #[.slice za 4 zm, .slice zd 6 zn]) rfl (by kernel_rfl) (by kernel_rfl) (by kernel_rfl) (fun _ _ _ h => h) (Or.inl ⟨rfl, fun w9 hSw => by go_simp⟩) hHeld ?_
              try simp only [Act.put, List.setIfInBounds_toArray, List.set_cons_zero, List.set_cons_succ]
              refine takeL 11 (.bool true) rfl (by kernel_rfl) (by kernel_rfl) (by kernel_rfl) (fun _ _ _ h => h) (Or.inl ⟨rfl, fun w9 hSw => by go_simp⟩) hHeld ?_
              try simp only [Act.put, List.setIfInBounds_toArray, List.set_cons_zero, List.set_cons_succ]
              refine oneL 13 rfl (by kernel_rfl) rfl (fun K hK => ?_)
              have pcM := cM.put [.slice za 4 zm, .slice zd 6 zn] rfl
              have kz := OrdL.kcells y2 A2 0 [.slice za 4 zm, .slice zd 6 zn]
              refine wp_store_mid 26 _ _ rfl A2 0 [.slice za 4 zm, .slice zd 6 zn].toArray rfl rfl cM.free (unhide HSS) (by kernel_rfl) ?_
              refine hK.out _ _ (hHeld.then kz (fun y hy => by simp at hy; subst hy; first | (left; simp; done) | (right; omega))) (fun hHeld => ?_)
              clear hK K
              try simp only [Act.put, List.setIfInBounds_toArray, List.set_cons_zero, List.set_cons_succ]
              replace hz := hz.only (OnlyG.kept kz) (fun z hz => by simp at hz; subst hz; omega)
              clear cM kz
              generalize y2.setCells A2 0 [.slice za 4 zm, .slice zd 6 zn] = y3 at *
              have cM := pcM
              clear pcM
              refine takeL 14 (.bool true) rfl (by kernel_rfl) (by kernel_rfl) (by kernel_rfl) (fun _ _ _ h => h) (Or.inl ⟨rfl, fun _ _ => rfl⟩) hHeld ?_
              try simp only [Act.put, List.setIfInBounds_toArray, List.set_cons_zero, List.set_cons_succ]
              refine wpAnyH_done (by kernel_rfl) ?_ _
              refine NoPanic.normal ?_
              exact ⟨rfl, za, zd, zm, zn, A2, rfl, hHeld, cM, sf_of hz⟩
          case k =>
            rintro za zd zm zn A2 w9 ⟨K9, cM, hZ⟩
            have b := Kept.all K9 (by simp)
            replace hI := hI.below b
            replace bi := bi.below b
            clear bi0 bi1
            have bi0 := bi.c0
            have bi1 := bi.c1
            replace B := B.trans (b.mono B.size)
            clear b K9
            have a0 := cM.cell 0 _ rfl
            have a1 := cM.cell 1 _ rfl
            go_wp2_with fail
            refine (lqF _ hZ hI).mono ?_
            rintro e u53 ⟨rfl, b⟩
            replace hI := hI.below b
            replace hZ := hZ.below b
            replace bi := bi.below b
            clear bi0 bi1
            have bi0 := bi.c0
            have bi1 := bi.c1
            replace B := B.trans (b.mono B.size)
            clear b
            go_wp2
            go_ret
            exact ⟨rfl, B⟩
    · have hcap : L.length ≤ sc := by omega
      have hcapi : (L.length : Int) ≤ (sc : Int) := by omega
      have HOK := hide hok
      have hl9 : (L).length ≤ 100 := by omega
      have HS := hide (fun (w' : World) (h : SF w' fa da bs dk) (h2 : SsAt w' (some ⟨sb, 0, none⟩) L) => sToF (c1 := c) (c2 := dc) (sc := sc) L cut tt hl9 hok w' h h2)
      have HI := hide (fun (w' : World) (h : SF w' fa da bs dk) (h2 : SsAt w' (some ⟨sb, 0, none⟩) L) => iToF (c1 := c) (c2 := dc) (sc := sc) L cut tt (by omega) (by omega) hl9 hok w' h h2)
      have HN := hide (fun (w' : World) (h : SF w' fa da bs dk) => (by have := iToF (c1 := c) (c2 := dc) (sa := none) (sc := 0) [] 3 true (by omega) (by omega) (by simp) (nil_tk hok3.1 3 (by omega)) w' h (.inl rfl); rw [(to_nil (bs := bs) (dk := dk) 3 true).1, (to_nil (bs := bs) (dk := dk) 3 true).2] at this; exact this : Calls Tryz.prog 22 #[.agg #[.slice fa 4 c, .slice da 6 dc], .slice none 0 0, .int .i64 3, .bool true] w' fun e w'' => ToF w' bs dk e w''))
      have HM := hide (fun (w' : World) (h : SF w' fa da bs dk) (h2 : SsAt w' (some ⟨sb, 0, none⟩) L) => iToN (c1 := c) (c2 := dc) (sc := sc) L (-1) tt (by omega) (by omega) hl9 (by unfold toOk; simp) w' h h2)
      obtain ⟨K, hK, hKL, hKc⟩ : ∃ K : Nat, (len1 : Int) % (min cut (L.length : Int) + 1) = (K : Int) ∧ K ≤ L.length ∧ (K : Int) ≤ cut := ⟨((len1 : Int) % (min cut (L.length : Int) + 1)).toNat, by have := Int.emod_nonneg (len1 : Int) (show min cut (L.length : Int) + 1 ≠ 0 by omega); omega, by have := Int.emod_lt_of_pos (len1 : Int) (show 0 < min cut (L.length : Int) + 1 by omega); omega, by have := Int.emod_lt_of_pos (len1 : Int) (show 0 < min cut (L.length : Int) + 1 by omega); have := Int.emod_nonneg (len1 : Int) (show min cut (L.length : Int) + 1 ≠ 0 by omega); omega⟩
      obtain ⟨KO, hko1, hko2⟩ : ∃ KO : Nat, (sc = K → KO = 0) ∧ (¬ sc = K → KO = K * 8) := ⟨if sc = K then 0 else K * 8, fun e => if_pos e, fun e => if_neg e⟩
      have hKsc : ¬ sc < K := by omega
      have hK2 : (len1 : Int) % ((if (L.length : Int) < cut then (L.length : Int) else cut) + 1) = (K : Int) := by rw [show (if (L.length : Int) < cut then (L.length : Int) else cut) = min cut (L.length : Int) by split <;> omega]; exact hK
      have hwm : IntKind.i64.wrap (min cut (L.length : Int) + 1) = min cut (L.length : Int) + 1 := by rw [IntKind.wrap_i64] <;> omega
      have hwK : IntKind.i64.wrap (K : Int) = (K : Int) := by rw [IntKind.wrap_i64] <;> omega
      have hcK : IntKind.i64.wrap (cut - (K : Int)) = cut - (K : Int) := by rw [IntKind.wrap_i64] <;> omega
      have HSP0 := to_split bs dk (L) K cut tt (by exact hKL) (by omega)
      have HSP := hide HSP0
      clear HSP0
      have hk3 := hide (show toOk bs dk ((L).take K) (K : Int) = true by unfold toOk; rw [hok3.1, Bool.true_and, Bool.and_eq_true, List.all_eq_true]; exact ⟨fun x hx => (List.all_eq_true.1 hok3.2.1) x (List.mem_of_mem_take hx), decide_eq_true (by omega)⟩)
      have hk4 := hide (fun (h : stB (toB bs ((L).take K) (K : Int) false) (toK dk ((L).take K) (K : Int) false) = true) => (show toOk (toB bs ((L).take K) (K : Int) false) (toK dk ((L).take K) (K : Int) false) ((L).drop K) (cut - (K : Int)) = true by unfold toOk; rw [h, Bool.true_and, Bool.and_eq_true, List.all_eq_true]; exact ⟨fun x hx => (List.all_eq_true.1 hok3.2.1) x (List.mem_of_mem_drop hx), decide_eq_true (by omega)⟩))
      have HT1 := hide (fun (w' : World) (h : SF w' fa da bs dk) (h2 : SsAt w' (some ⟨sb, 0, none⟩) (L)) => (by have := iToF (c1 := c) (c2 := dc) (sc := sc) ((L).take K) (K : Int) false (by omega) (by omega) (by rw [List.length_take]; omega) (unhide hk3) w' h (ss_take h2 K); rw [show ((L).take K).length = K by rw [List.length_take]; omega] at this; exact this : Calls Tryz.prog 22 #[.agg #[.slice fa 4 c, .slice da 6 dc], .slice (some ⟨sb, 0, none⟩) K sc, .int .i64 (K : Int), .bool false] w' fun e w'' => ToF w' (toB bs ((L).take K) (K : Int) false) (toK dk ((L).take K) (K : Int) false) e w''))
      obtain ⟨B1, hB1⟩ : ∃ x, x = toB bs ((L).take K) (K : Int) false := ⟨_, rfl⟩
      obtain ⟨K1, hK1⟩ : ∃ x, x = toK dk ((L).take K) (K : Int) false := ⟨_, rfl⟩
      rw [← hB1, ← hK1] at HT1 HSP hk4
      clear hB1 hK1 hk3
      have HT2 := hide (fun (hst1 : stB B1 K1 = true) (ya yd : Option Addr) (ym yn : Nat) (w' : World) (h : SF w' ya yd B1 K1) (h2 : SsAt w' (some ⟨sb, 0, none⟩) (L)) => (by have := iToF (c1 := ym) (c2 := yn) (sa := (some ⟨sb, KO, none⟩)) (sc := (sc - K)) ((L).drop K) (cut - (K : Int)) tt (by omega) (by omega) (by rw [List.length_drop]; omega) (unhide hk4 hst1) w' h (ss_dropK h2 hcap hko1 hko2); rw [(unhide HSP).1, (unhide HSP).2] at this; rw [show (L.drop K).length = L.length - K by rw [List.length_drop]] at this; exact this : Calls Tryz.prog 22 #[.agg #[.slice ya 4 ym, .slice yd 6 yn], .slice (some ⟨sb, KO, none⟩) (L.length - K) (sc - K), .int .i64 (cut - (K : Int)), .bool tt] w' fun e w'' => ToF w' (toB bs (L) cut tt) (toK dk (L) cut tt) e w''))
      clear HSP hk4 hok hok3
      generalize toB bs (L) cut tt = BX at *
      generalize toK dk (L) cut tt = KX at *
      have b : Below w1.heap.size w1 (w1.alloc (.cells #[.slice fa 4 c, .slice da 6 dc] 26)) := (Below.refl _ _).alloc (Nat.le_refl _) _
      have bx := Bx.new w1 (.slice fa 4 c) (.slice da 6 dc) 26
      replace hF := hF.below b
      replace hss := hss.below b
      replace B := B.trans (b.mono B.size)
      clear b
      have bx0 := bx.c0
      have bx1 := bx.c1
      go_wp2_with fail
      generalize w1.alloc (.cells #[.slice fa 4 c, .slice da 6 dc] 26) = v1 at *
      generalize w1.heap.size = bxb at *
      refine (unhide HS _ hF hss).mono ?_
      rintro e u2 ⟨fw, k1, dw, k2, rfl, hw, b⟩
      replace hF := hF.below b
      replace hss := hss.below b
      replace bx := bx.below b
      clear bx0 bx1
      have bx0 := bx.c0
      have bx1 := bx.c1
      replace B := B.trans (b.mono B.size)
      clear b
      have hW := sf_of hw
      clear hw
      have b : Below u2.heap.size u2 (u2.alloc (.cells #[.slice fw 4 k1, .slice dw 6 k2] 26)) := (Below.refl _ _).alloc (Nat.le_refl _) _
      have bw := Bx.new u2 (.slice fw 4 k1) (.slice dw 6 k2) 26
      replace hF := hF.below b
      replace hss := hss.below b
      replace hW := hW.below b
      replace bx := bx.below b
      clear bx0 bx1
      have bx0 := bx.c0
      have bx1 := bx.c1
      replace B := B.trans (b.mono B.size)
      clear b
      have bw0 := bw.c0
      have bw1 := bw.c1
      go_wp2_with fail
      generalize u2.alloc (.cells #[.slice fw 4 k1, .slice dw 6 k2] 26) = v3 at *
      generalize u2.heap.size = bwb at *
      refine (unhide HI _ hF hss).mono ?_
      rintro e u4 ⟨fi, m1, di, m2, rfl, hi9, b⟩
      replace hF := hF.below b
      replace hss := hss.below b
      replace hW := hW.below b
      replace bx := bx.below b
      clear bx0 bx1
      have bx0 := bx.c0
      have bx1 := bx.c1
      replace bw := bw.below b
      clear bw0 bw1
      have bw0 := bw.c0
      have bw1 := bw.c1
      replace B := B.trans (b.mono B.size)
      clear b
      have hI := sf_of hi9
      clear hi9
      have b : Below u4.heap.size u4 (u4.alloc (.cells #[.slice fi 4 m1, .slice di 6 m2] 26)) := (Below.refl _ _).alloc (Nat.le_refl _) _
      have bi := Bx.new u4 (.slice fi 4 m1) (.slice di 6 m2) 26
      replace hF := hF.below b
      replace hss := hss.below b
      replace hW := hW.below b
      replace hI := hI.below b
      replace bx := bx.below b
      clear bx0 bx1
      have bx0 := bx.c0
      have bx1 := bx.c1
      replace bw := bw.below b
      clear bw0 bw1
      have bw0 := bw.c0
      have bw1 := bw.c1
      replace B := B.trans (b.mono B.size)
      clear b
      have bi0 := bi.c0
      have bi1 := bi.c1
      go_wp2_with fail
      generalize u4.alloc (.cells #[.slice fi 4 m1, .slice di 6 m2] 26) = v5 at *
      generalize u4.heap.size = bib at *
      refine (lqF _ hI hW).mono ?_
      rintro e u6 ⟨rfl, b⟩
      replace hF := hF.below b
      replace hss := hss.below b
      replace hW := hW.below b
      replace hI := hI.below b
      replace bx := bx.below b
      clear bx0 bx1
      have bx0 := bx.c0
      have bx1 := bx.c1
      replace bw := bw.below b
      clear bw0 bw1
      have bw0 := bw.c0
      have bw1 := bw.c1
      replace bi := bi.below b
      clear bi0 bi1
      have bi0 := bi.c0
      have bi1 := bi.c1
      replace B := B.trans (b.mono B.size)
      clear b
      clear bw bw0 bw1
      clear hW
      clear HS HI
      go_wp2_with fail
      refine (unhide HN _ hF).mono ?_
      rintro e u7 ⟨fn, n1, dn, n2, rfl, hn9, b⟩
      replace hF := hF.below b
      replace hss := hss.below b
      replace hI := hI.below b
      replace bx := bx.below b
      clear bx0 bx1
      have bx0 := bx.c0
      have bx1 := bx.c1
      replace bi := bi.below b
      clear bi0 bi1
      have bi0 := bi.c0
      have bi1 := bi.c1
      replace B := B.trans (b.mono B.size)
      clear b
      have hN := sf_of hn9
      clear hn9
      have b : Below u7.heap.size u7 (u7.alloc (.cells #[.slice fn 4 n1, .slice dn 6 n2] 26)) := (Below.refl _ _).alloc (Nat.le_refl _) _
      have bn := Bx.new u7 (.slice fn 4 n1) (.slice dn 6 n2) 26
      replace hF := hF.below b
      replace hss := hss.below b
      replace hI := hI.below b
      replace hN := hN.below b
      replace bx := bx.below b
      clear bx0 bx1
      have bx0 := bx.c0
      have bx1 := bx.c1
      replace bi := bi.below b
      clear bi0 bi1
      have bi0 := bi.c0
      have bi1 := bi.c1
      replace B := B.trans (b.mono B.size)
      clear b
      have bn0 := bn.c0
      have bn1 := bn.c1
      go_wp2_with fail
      generalize u7.alloc (.cells #[.slice fn 4 n1, .slice dn 6 n2] 26) = v8 at *
      generalize u7.heap.size = bnb at *
      refine (unhide HM _ hF hss).mono ?_
      rintro e u9 ⟨rfl, b⟩
      replace hF := hF.below b
      replace hss := hss.below b
      replace hI := hI.below b
      replace hN := hN.below b
      replace bx := bx.below b
      clear bx0 bx1
      have bx0 := bx.c0
      have bx1 := bx.c1
      replace bi := bi.below b
      clear bi0 bi1
      have bi0 := bi.c0
      have bi1 := bi.c1
      replace bn := bn.below b
      clear bn0 bn1
      have bn0 := bn.c0
      have bn1 := bn.c1
      replace B := B.trans (b.mono B.size)
      clear b
      have b : Below u9.heap.size u9 (u9.alloc (.cells #[.slice none 0 0, .slice none 0 0] 26)) := (Below.refl _ _).alloc (Nat.le_refl _) _
      have bm := Bx.new u9 (.slice none 0 0) (.slice none 0 0) 26
      replace hF := hF.below b
      replace hss := hss.below b
      replace hI := hI.below b
      replace hN := hN.below b
      replace bx := bx.below b
      clear bx0 bx1
      have bx0 := bx.c0
      have bx1 := bx.c1
      replace bi := bi.below b
      clear bi0 bi1
      have bi0 := bi.c0
      have bi1 := bi.c1
      replace bn := bn.below b
      clear bn0 bn1
      have bn0 := bn.c0
      have bn1 := bn.c1
      replace B := B.trans (b.mono B.size)
      clear b
      have bm0 := bm.c0
      have bm1 := bm.c1
      go_wp2_with fail
      generalize u9.alloc (.cells #[.slice none 0 0, .slice none 0 0] 26) = v10 at *
      generalize u9.heap.size = bmb at *
      refine (lqF _ hN hF).mono ?_
      rintro e u11 ⟨rfl, b⟩
      replace hF := hF.below b
      replace hss := hss.below b
      replace hI := hI.below b
      replace hN := hN.below b
      replace bx := bx.below b
      clear bx0 bx1
      have bx0 := bx.c0
      have bx1 := bx.c1
      replace bi := bi.below b
      clear bi0 bi1
      have bi0 := bi.c0
      have bi1 := bi.c1
      replace bn := bn.below b
      clear bn0 bn1
      have bn0 := bn.c0
      have bn1 := bn.c1
      replace bm := bm.below b
      clear bm0 bm1
      have bm0 := bm.c0
      have bm1 := bm.c1
      replace B := B.trans (b.mono B.size)
      clear b
      clear bn bn0 bn1
      clear bm bm0 bm1
      clear hN
      clear HN HM
      go_upto_region 13 with fail
      rw [hK2]
      clear hK2 hK
      generalize (if ((L.length : Int)) < cut then ((L.length : Int)) else cut) = qq9 at *
      have hwc : IntKind.i64.wrap cut = cut := by rw [IntKind.wrap_i64] <;> omega
      apply OrdM.join5 (F := fun (ya : Option Addr) (yd : Option Addr) (ym : Nat) (yn : Nat) (A : Nat) w' => Kept [] u11 w' ∧ CsAt w' A [.slice ya 4 ym, .slice yd 6 yn] ∧ SF w' ya yd B1 K1)
      case h =>
        refine wp_region_noPanic ?_
        refine wp_region_held_drew (S := fun w' => Kept [] u11 w') (by kernel_rfl) (Kept.refl _ _).drew (fun hHeld => ?_)
        generalize u11.drew = y0 at *
        have z0 := hHeld.size
        refine takeL 0 (.agg #[.slice fa 4 c, .slice da 6 dc]) rfl (by kernel_rfl) (by kernel_rfl) (by kernel_rfl) (fun _ _ _ h => h) (yieldsIf_load_mid rfl 26 _ rfl bxb 0 rfl [.slice fa 4 c, .slice da 6 dc] _ (fun _ h => rng2 (bx.below (Kept.all h (by simp)))) Tryz.underlying26 rfl (unhide HSS)) hHeld ?_
        try simp only [Act.put, List.setIfInBounds_toArray, List.set_cons_zero, List.set_cons_succ]
        refine takeL 1 (.slice (some ⟨sb, 0, none⟩) L.length sc) rfl (by kernel_rfl) (by kernel_rfl) (by kernel_rfl) (fun _ _ _ h => h) (Or.inl ⟨rfl, fun _ _ => rfl⟩) hHeld ?_
        try simp only [Act.put, List.setIfInBounds_toArray, List.set_cons_zero, List.set_cons_succ]
        refine takeL 2 (.int .i64 (K : Int)) rfl (by kernel_rfl) (by kernel_rfl) (by kernel_rfl) (fun _ _ _ h => h) (Or.inl ⟨rfl, fun _ _ => rfl⟩) hHeld ?_
        try simp only [Act.put, List.setIfInBounds_toArray, List.set_cons_zero, List.set_cons_succ]
        refine takeL 3 (.slice (some ⟨sb, 0, none⟩) K sc) rfl (by kernel_rfl) (by kernel_rfl) (by kernel_rfl) (fun _ _ _ h => h) (Or.inl ⟨rfl, fun w9 hSw => by go_simp⟩) hHeld ?_
        try simp only [Act.put, List.setIfInBounds_toArray, List.set_cons_zero, List.set_cons_succ]
        refine takeL 4 (.int .i64 (K : Int)) rfl (by kernel_rfl) (by kernel_rfl) (by kernel_rfl) (fun _ _ _ h => h) (Or.inl ⟨rfl, fun _ _ => rfl⟩) hHeld ?_
        try simp only [Act.put, List.setIfInBounds_toArray, List.set_cons_zero, List.set_cons_succ]
        refine OrdL.twoL 5 9 rfl rfl (by kernel_rfl) rfl rfl  (fun K hK => ?_) (fun K hK => ?_) 
        · go_simp
          refine (unhide HT1 _ (hF.below (Kept.all hHeld (by simp))) (hss.below (Kept.all hHeld (by simp)))).mono ?_
          rintro e y1 ⟨ya, ym, yd, yn, rfl, hy, b⟩
          go_wp2_with fail
          refine hK.out _ _ (hHeld.trans (Kept.of b)) (fun hHeld => ?_)
          clear hK K
          try simp only [Act.put, List.setIfInBounds_toArray, List.set_cons_zero, List.set_cons_succ]
          have z1 := b.size
          clear b
          refine takeL 6 (.tuple #[.agg #[.slice ya 4 ym, .slice yd 6 yn], .bool true]) rfl (by kernel_rfl) (by kernel_rfl) (by kernel_rfl) (fun _ _ _ h => h) (Or.inl ⟨rfl, fun _ _ => rfl⟩) hHeld ?_
          try simp only [Act.put, List.setIfInBounds_toArray, List.set_cons_zero, List.set_cons_succ]
          refine takeL 7 (.agg #[.slice ya 4 ym, .slice yd 6 yn]) rfl (by kernel_rfl) (by kernel_rfl) (by kernel_rfl) (fun _ _ _ h => h) (Or.inl ⟨rfl, fun w9 hSw => by go_simp⟩) hHeld ?_
          try simp only [Act.put, List.setIfInBounds_toArray, List.set_cons_zero, List.set_cons_succ]
          refine takeL 8 (.bool true) rfl (by kernel_rfl) (by kernel_rfl) (by kernel_rfl) (fun _ _ _ h => h) (Or.inl ⟨rfl, fun w9 hSw => by go_simp⟩) hHeld ?_
          try simp only [Act.put, List.setIfInBounds_toArray, List.set_cons_zero, List.set_cons_succ]
          refine oneL 9 rfl (by kernel_rfl) rfl (fun K hK => ?_)
          go_simp
          have b : Below y1.heap.size y1 (y1.alloc (.cells #[.slice none 0 0, .slice none 0 0] 26)) := (Below.refl _ _).alloc (Nat.le_refl _) _
          have cN := CsAt.new y1 [.slice none 0 0, .slice none 0 0] 26
          have lcN := hHeld.size
          replace hy := hy.below b
          refine hK.out _ _ (hHeld.trans (Kept.of b)) (fun hHeld => ?_)
          clear hK K
          try simp only [Act.put, List.setIfInBounds_toArray, List.set_cons_zero, List.set_cons_succ]
          have z2 := b.size
          generalize y1.alloc (.cells #[.slice none 0 0, .slice none 0 0] 26) = y2 at *
          generalize y1.heap.size = A at *
          clear b
          have qcN := CsAt.lt cN (by simp)
          refine oneL 10 rfl (by kernel_rfl) rfl (fun K hK => ?_)
          have pcN := cN.put [.slice ya 4 ym, .slice yd 6 yn] rfl
          have kz := OrdL.kcells y2 A 0 [.slice ya 4 ym, .slice yd 6 yn]
          refine wp_store_mid 26 _ _ rfl A 0 [.slice ya 4 ym, .slice yd 6 yn].toArray rfl rfl cN.free (unhide HSS) (by kernel_rfl) ?_
          refine hK.out _ _ (hHeld.then kz (fun y hy => by simp at hy; subst hy; first | (left; simp; done) | (right; omega))) (fun hHeld => ?_)
          clear hK K
          try simp only [Act.put, List.setIfInBounds_toArray, List.set_cons_zero, List.set_cons_succ]
          replace hy := hy.only (OnlyG.kept kz) (fun z hz => by simp at hz; subst hz; omega)
          clear cN kz
          generalize y2.setCells A 0 [.slice ya 4 ym, .slice yd 6 yn] = y3 at *
          have cN := pcN
          clear pcN
          refine takeL 11 (.bool true) rfl (by kernel_rfl) (by kernel_rfl) (by kernel_rfl) (fun _ _ _ h => h) (Or.inl ⟨rfl, fun _ _ => rfl⟩) hHeld ?_
          try simp only [Act.put, List.setIfInBounds_toArray, List.set_cons_zero, List.set_cons_succ]
          refine wpAnyH_done (by kernel_rfl) ?_ _
          refine NoPanic.normal ?_
          exact ⟨rfl, ya, yd, ym, yn, A, rfl, hHeld, cN, sf_of hy⟩
        · go_simp
          have b : Below y0.heap.size y0 (y0.alloc (.cells #[.slice none 0 0, .slice none 0 0] 26)) := (Below.refl _ _).alloc (Nat.le_refl _) _
          have cN := CsAt.new y0 [.slice none 0 0, .slice none 0 0] 26
          have lcN := hHeld.size
          refine hK.out _ _ (hHeld.trans (Kept.of b)) (fun hHeld => ?_)
          clear hK K
          try simp only [Act.put, List.setIfInBounds_toArray, List.set_cons_zero, List.set_cons_succ]
          have z1 := b.size
          generalize y0.alloc (.cells #[.slice none 0 0, .slice none 0 0] 26) = y1 at *
          generalize y0.heap.size = A at *
          clear b
          have qcN := CsAt.lt cN (by simp)
          refine oneL 5 rfl (by kernel_rfl) rfl (fun K hK => ?_)
          go_simp
          refine (unhide HT1 _ (hF.below (Kept.all hHeld (by simp))) (hss.below (Kept.all hHeld (by simp)))).mono ?_
          rintro e y2 ⟨ya, ym, yd, yn, rfl, hy, b⟩
          go_wp2_with fail
          replace cN := CsAt.below cN b (CsAt.lt cN (by simp))
          refine hK.out _ _ (hHeld.trans (Kept.of b)) (fun hHeld => ?_)
          clear hK K
          try simp only [Act.put, List.setIfInBounds_toArray, List.set_cons_zero, List.set_cons_succ]
          have z2 := b.size
          clear b
          refine takeL 6 (.tuple #[.agg #[.slice ya 4 ym, .slice yd 6 yn], .bool true]) rfl (by kernel_rfl) (by kernel_rfl) (by kernel_rfl) (fun _ _ _ h => h) (Or.inl ⟨rfl, fun _ _ => rfl⟩) hHeld ?_
          try simp only [Act.put, List.setIfInBounds_toArray, List.set_cons_zero, List.set_cons_succ]
          refine takeL 7 (.agg #[.slice ya 4 ym, .slice yd 6 yn]) rfl (by kernel_rfl) (by kernel_rfl) (by kernel_rfl) (fun _ _ _ h => h) (Or.inl ⟨rfl, fun w9 hSw => by go_simp⟩) hHeld ?_
          try simp only [Act.put, List.setIfInBounds_toArray, List.set_cons_zero, List.set_cons_succ]
          refine takeL 8 (.bool true) rfl (by kernel_rfl) (by kernel_rfl) (by kernel_rfl) (fun _ _ _ h => h) (Or.inl ⟨rfl, fun w9 hSw => by go_simp⟩) hHeld ?_
          try simp only [Act.put, List.setIfInBounds_toArray, List.set_cons_zero, List.set_cons_succ]
          refine oneL 10 rfl (by kernel_rfl) rfl (fun K hK => ?_)
          have pcN := cN.put [.slice ya 4 ym, .slice yd 6 yn] rfl
          have kz := OrdL.kcells y2 A 0 [.slice ya 4 ym, .slice yd 6 yn]
          refine wp_store_mid 26 _ _ rfl A 0 [.slice ya 4 ym, .slice yd 6 yn].toArray rfl rfl cN.free (unhide HSS) (by kernel_rfl) ?_
          refine hK.out _ _ (hHeld.then kz (fun y hy => by simp at hy; subst hy; first | (left; simp; done) | (right; omega))) (fun hHeld => ?_)
          clear hK K
          try simp only [Act.put, List.setIfInBounds_toArray, List.set_cons_zero, List.set_cons_succ]
          replace hy := hy.only (OnlyG.kept kz) (fun z hz => by simp at hz; subst hz; omega)
          clear cN kz
          generalize y2.setCells A 0 [.slice ya 4 ym, .slice yd 6 yn] = y3 at *
          have cN := pcN
          clear pcN
          refine takeL 11 (.bool true) rfl (by kernel_rfl) (by kernel_rfl) (by kernel_rfl) (fun _ _ _ h => h) (Or.inl ⟨rfl, fun _ _ => rfl⟩) hHeld ?_
          try simp only [Act.put, List.setIfInBounds_toArray, List.set_cons_zero, List.set_cons_succ]
          refine wpAnyH_done (by kernel_rfl) ?_ _
          refine NoPanic.normal ?_
          exact ⟨rfl, ya, yd, ym, yn, A, rfl, hHeld, cN, sf_of hy⟩
      case k =>
        rintro ya yd ym yn A w8 ⟨K9, cN, hY⟩
        have b := Kept.all K9 (by simp)
        replace hF := hF.below b
        replace hss := hss.below b
        replace hI := hI.below b
        replace bx := bx.below b
        replace bi := bi.below b
        clear bx0 bx1 bi0 bi1
        have bx0 := bx.c0
        have bx1 := bx.c1
        have bi0 := bi.c0
        have bi1 := bi.c1
        replace B := B.trans (b.mono B.size)
        clear b K9
        have a0 := cN.cell 0 _ rfl
        have a1 := cN.cell 1 _ rfl
        go_wp2_with fail
        refine (iOkF _ hY).mono ?_
        rintro e u32 ⟨rfl, b⟩
        replace cN := cN.below b (CsAt.lt cN (by simp))
        clear a0 a1
        replace hF := hF.below b
        replace hss := hss.below b
        replace hI := hI.below b
        replace hY := hY.below b
        replace bx := bx.below b
        clear bx0 bx1
        have bx0 := bx.c0
        have bx1 := bx.c1
        replace bi := bi.below b
        clear bi0 bi1
        have bi0 := bi.c0
        have bi1 := bi.c1
        replace B := B.trans (b.mono B.size)
        clear b
        cases hst1 : stB B1 K1
        · go_wp2
          go_ret
          exact ⟨rfl, B⟩
        · have HT3 := hide (unhide HT2 hst1)
          clear HT2 hst1
          have z0 := True.intro
          go_upto_region 16 with fail
          apply OrdM.join5 (F := fun (za : Option Addr) (zd : Option Addr) (zm : Nat) (zn : Nat) (A2 : Nat) w' => Kept [] u32 w' ∧ CsAt w' A2 [.slice za 4 zm, .slice zd 6 zn] ∧ SF w' za zd BX KX)
          case h =>
            refine wp_region_noPanic ?_
            refine wp_region_held_drew (S := fun w' => Kept [] u32 w') (by kernel_rfl) (Kept.refl _ _).drew (fun hHeld => ?_)
            generalize u32.drew = y0 at *
            have z0 := hHeld.size
            refine takeL 0 (.agg #[.slice ya 4 ym, .slice yd 6 yn]) rfl (by kernel_rfl) (by kernel_rfl) (by kernel_rfl) (fun _ _ _ h => h) (yieldsIf_load_mid rfl 26 _ rfl A 0 rfl [.slice ya 4 ym, .slice yd 6 yn] _ (fun _ h => (cN.below (Kept.all h (by simp)) (CsAt.lt cN (by simp))).cells) Tryz.underlying26 rfl (unhide HSS)) hHeld ?_
            try simp only [Act.put, List.setIfInBounds_toArray, List.set_cons_zero, List.set_cons_succ]
            refine takeL 1 (.slice (some ⟨sb, 0, none⟩) L.length sc) rfl (by kernel_rfl) (by kernel_rfl) (by kernel_rfl) (fun _ _ _ h => h) (Or.inl ⟨rfl, fun _ _ => rfl⟩) hHeld ?_
            try simp only [Act.put, List.setIfInBounds_toArray, List.set_cons_zero, List.set_cons_succ]
            refine takeL 2 (.int .i64 (K : Int)) rfl (by kernel_rfl) (by kernel_rfl) (by kernel_rfl) (fun _ _ _ h => h) (Or.inl ⟨rfl, fun _ _ => rfl⟩) hHeld ?_
            try simp only [Act.put, List.setIfInBounds_toArray, List.set_cons_zero, List.set_cons_succ]
            refine takeL 3 (.slice (some ⟨sb, KO, none⟩) (L.length - K) (sc - K)) rfl (by kernel_rfl) (by kernel_rfl) (by kernel_rfl) (fun _ _ _ h => h) (Or.inl ⟨rfl, fun w9 hSw => by go_simp; exact (by by_cases e : sc = K; exact (if_pos e).trans (by rw [hko1 e]); exact (if_neg e).trans (by rw [hko2 e]))⟩) hHeld ?_
            try simp only [Act.put, List.setIfInBounds_toArray, List.set_cons_zero, List.set_cons_succ]
            refine takeL 4 (.int .i64 cut) rfl (by kernel_rfl) (by kernel_rfl) (by kernel_rfl) (fun _ _ _ h => h) (Or.inl ⟨rfl, fun _ _ => rfl⟩) hHeld ?_
            try simp only [Act.put, List.setIfInBounds_toArray, List.set_cons_zero, List.set_cons_succ]
            refine takeL 5 (.int .i64 (K : Int)) rfl (by kernel_rfl) (by kernel_rfl) (by kernel_rfl) (fun _ _ _ h => h) (Or.inl ⟨rfl, fun _ _ => rfl⟩) hHeld ?_
            try simp only [Act.put, List.setIfInBounds_toArray, List.set_cons_zero, List.set_cons_succ]
            refine takeL 6 (.int .i64 (cut - (K : Int))) rfl (by kernel_rfl) (by kernel_rfl) (by kernel_rfl) (fun _ _ _ h => h) (Or.inl ⟨rfl, fun w9 hSw => by go_simp⟩) hHeld ?_
            try simp only [Act.put, List.setIfInBounds_toArray, List.set_cons_zero, List.set_cons_succ]
            refine takeL 7 (.bool tt) rfl (by kernel_rfl) (by kernel_rfl) (by kernel_rfl) (fun _ _ _ h => h) (Or.inl ⟨rfl, fun _ _ => rfl⟩) hHeld ?_
            try simp only [Act.put, List.setIfInBounds_toArray, List.set_cons_zero, List.set_cons_succ]
            refine OrdL.twoL 8 12 rfl rfl (by kernel_rfl) rfl rfl  (fun K hK => ?_) (fun K hK => ?_) 
            · go_simp
              refine (unhide HT3 _ _ _ _ _ (hY.below (Kept.all hHeld (by simp))) (hss.below (Kept.all hHeld (by simp)))).mono ?_
              rintro e y1 ⟨za, zm, zd, zn, rfl, hz, b⟩
              go_wp2_with fail
              refine hK.out _ _ (hHeld.trans (Kept.of b)) (fun hHeld => ?_)
              clear hK K
              try simp only [Act.put, List.setIfInBounds_toArray, List.set_cons_zero, List.set_cons_succ]
              have z1 := b.size
              clear b
              refine takeL 9 (.tuple #[.agg #[.slice za 4 zm, .slice zd 6 zn], .bool true]) rfl (by kernel_rfl) (by kernel_rfl) (by kernel_rfl) (fun _ _ _ h => h) (Or.inl ⟨rfl, fun _ _ => rfl⟩) hHeld ?_
              try simp only [Act.put, List.setIfInBounds_toArray, List.set_cons_zero, List.set_cons_succ]
              refine takeL 10 (.agg #[.slice za 4 zm, .slice zd 6 zn]) rfl (by kernel_rfl) (by kernel_rfl) (by kernel_rfl) (fun _ _ _ h => h) (Or.inl ⟨rfl, fun w9 hSw => by go_simp⟩) hHeld ?_
              try simp only [Act.put, List.setIfInBounds_toArray, List.set_cons_zero, List.set_cons_succ]
              refine takeL 11 (.bool true) rfl (by kernel_rfl) (by kernel_rfl) (by kernel_rfl) (fun _ _ _ h => h) (Or.inl ⟨rfl, fun w9 hSw => by go_simp⟩) hHeld ?_
              try simp only [Act.put, List.setIfInBounds_toArray, List.set_cons_zero, List.set_cons_succ]
              refine oneL 12 rfl (by kernel_rfl) rfl (fun K hK => ?_)
              go_simp
              have b : Below y1.heap.size y1 (y1.alloc (.cells #[.slice none 0 0, .slice none 0 0] 26)) := (Below.refl _ _).alloc (Nat.le_refl _) _
              have cM := CsAt.new y1 [.slice none 0 0, .slice none 0 0] 26
              have lcM := hHeld.size
              replace hz := hz.below b
              refine hK.out _ _ (hHeld.trans (Kept.of b)) (fun hHeld => ?_)
              clear hK K
              try simp only [Act.put, List.setIfInBounds_toArray, List.set_cons_zero, List.set_cons_succ]
              have z2 := b.size
              generalize y1.alloc (.cells #[.slice none 0 0, .slice none 0 0] 26) = y2 at *
              generalize y1.heap.size = A2 at *
              clear b
              have qcM := CsAt.lt cM (by simp)
              refine oneL 13 rfl (by kernel_rfl) rfl (fun K hK => ?_)
              have pcM := cM.put [.slice za 4 zm, .slice zd 6 zn] rfl
              have kz := OrdL.kcells y2 A2 0 [.slice za 4 zm, .slice zd 6 zn]
              refine wp_store_mid 26 _ _ rfl A2 0 [.slice za 4 zm, .slice zd 6 zn].toArray rfl rfl cM.free (unhide HSS) (by kernel_rfl) ?_
              refine hK.out _ _ (hHeld.then kz (fun y hy => by simp at hy; subst hy; first | (left; simp; done) | (right; omega))) (fun hHeld => ?_)
              clear hK K
              try simp only [Act.put, List.setIfInBounds_toArray, List.set_cons_zero, List.set_cons_succ]
              replace hz := hz.only (OnlyG.kept kz) (fun z hz => by simp at hz; subst hz; omega)
              clear cM kz
              generalize y2.setCells A2 0 [.slice za 4 zm, .slice zd 6 zn] = y3 at *
              have cM := pcM
              clear pcM
              refine takeL 14 (.bool true) rfl (by kernel_rfl) (by kernel_rfl) (by kernel_rfl) (fun _ _ _ h => h) (Or.inl ⟨rfl, fun _ _ => rfl⟩) hHeld ?_
              try simp only [Act.put, List.setIfInBounds_toArray, List.set_cons_zero, List.set_cons_succ]
              refine wpAnyH_done (by kernel_rfl) ?_ _
              refine NoPanic.normal ?_
              exact ⟨rfl, za, zd, zm, zn, A2, rfl, hHeld, cM, sf_of hz⟩
            · go_simp
              have b : Below y0.heap.size y0 (y0.alloc (.cells #[.slice none 0 0, .slice none 0 0] 26)) := (Below.refl _ _).alloc (Nat.le_refl _) _
              have cM := CsAt.new y0 [.slice none 0 0, .slice none 0 0] 26
              have lcM := hHeld.size
              refine hK.out _ _ (hHeld.trans (Kept.of b)) (fun hHeld => ?_)
              clear hK K
              try simp only [Act.put, List.setIfInBounds_toArray, List.set_cons_zero, List.set_cons_succ]
              have z1 := b.size
              generalize y0.alloc (.cells #[.slice none 0 0, .slice none 0 0] 26) = y1 at *
              generalize y0.heap.size = A2 at *
              clear b
              have qcM := CsAt.lt cM (by simp)
              refine oneL 8 rfl (by kernel_rfl) rfl (fun K hK => ?_)
              go_simp
              refine (unhide HT3 _ _ _ _ _ (hY.below (Kept.all hHeld (by simp))) (hss.below (Kept.all hHeld (by simp)))).mono ?_
              rintro e y2 ⟨za, zm, zd, zn, rfl, hz, b⟩
              go_wp2_with fail
              replace cM := CsAt.below cM b (CsAt.lt cM (by simp))
              refine hK.out _ _ (hHeld.trans (Kept.of b)) (fun hHeld => ?_)
              clear hK K
              try simp only [Act.put, List.setIfInBounds_toArray, List.set_cons_zero, List.set_cons_succ]
              have z2 := b.size
              clear b
              refine takeL 9 (.tuple #[.agg #[.slice za 4 zm, .slice zd 6 zn], .bool true]) rfl (by kernel_rfl) (by kernel_rfl) (by kernel_rfl) (fun _ _ _ h => h) (Or.inl ⟨rfl, fun _ _ => rfl⟩) hHeld ?_
              try simp only [Act.put, List.setIfInBounds_toArray, List.set_cons_zero, List.set_cons_succ]
              refine takeL 10 (.agg #[.slice za 4 zm, .slice zd 6 zn]) rfl (by kernel_rfl) (by kernel_rfl) (by kernel_rfl) (fun _ _ _ h => h) (Or.inl ⟨rfl, fun w9 hSw => by go_simp⟩) hHeld ?_
              try simp only [Act.put, List.setIfInBounds_toArray, List.set_cons_zero, List.set_cons_succ]
              refine takeL 11 (.bool true) rfl (by kernel_rfl) (by kernel_rfl) (by kernel_rfl) (fun _ _ _ h => h) (Or.inl ⟨rfl, fun w9 hSw => by go_simp⟩) hHeld ?_
              try simp only [Act.put, List.setIfInBounds_toArray, List.set_cons_zero, List.set_cons_succ]
              refine oneL 13 rfl (by kernel_rfl) rfl (fun K hK => ?_)
              have pcM := cM.put [.slice za 4 zm, .slice zd 6 zn] rfl
              have kz := OrdL.kcells y2 A2 0 [.slice za 4 zm, .slice zd 6 zn]
              refine wp_store_mid 26 _ _ rfl A2 0 [.slice za 4 zm, .slice zd 6 zn].toArray rfl rfl cM.free (unhide HSS) (by kernel_rfl) ?_
              refine hK.out _ _ (hHeld.then kz (fun y hy => by simp at hy; subst hy; first | (left; simp; done) | (right; omega))) (fun hHeld => ?_)
              clear hK K
              try simp only [Act.put, List.setIfInBounds_toArray, List.set_cons_zero, List.set_cons_succ]
              replace hz := hz.only (OnlyG.kept kz) (fun z hz => by simp at hz; subst hz; omega)
              clear cM kz
              generalize y2.setCells A2 0 [.slice za 4 zm, .slice zd 6 zn] = y3 at *
              have cM := pcM
              clear pcM
              refine takeL 14 (.bool true) rfl (by kernel_rfl) (by kernel_rfl) (by kernel_rfl) (fun _ _ _ h => h) (Or.inl ⟨rfl, fun _ _ => rfl⟩) hHeld ?_
              try simp only [Act.put, List.setIfInBounds_toArray, List.set_cons_zero, List.set_cons_succ]
              refine wpAnyH_done (by kernel_rfl) ?_ _
              refine NoPanic.normal ?_
              exact ⟨rfl, za, zd, zm, zn, A2, rfl, hHeld, cM, sf_of hz⟩
          case k =>
            rintro za zd zm zn A2 w9 ⟨K9, cM, hZ⟩
            have b := Kept.all K9 (by simp)
            replace hI := hI.below b
            replace bi := bi.below b
            clear bi0 bi1
            have bi0 := bi.c0
            have bi1 := bi.c1
            replace B := B.trans (b.mono B.size)
            clear b K9
            have a0 := cM.cell 0 _ rfl
            have a1 := cM.cell 1 _ rfl
            go_wp2_with fail
            refine (lqF _ hZ hI).mono ?_
            rintro e u53 ⟨rfl, b⟩
            replace hI := hI.below b
            replace hZ := hZ.below b
            replace bi := bi.below b
            clear bi0 bi1
            have bi0 := bi.c0
            have bi1 := bi.c1
            replace B := B.trans (b.mono B.size)
            clear b
            go_wp2
            go_ret
            exact ⟨rfl, B⟩


set_option maxRecDepth 100000 in
theorem lifted (os : Os) (started : os.Started) (H : Type) (enc : TypeId × Value → H) :
    ReturnsInHanded {} Tryz.checked os 3 .any (Rows.fnToStepsSpec.pre6 enc Tryz.prog Tryz.f3 Rows.fnToStepsRow.domain false) (Rows.fnToStepsSpec.post enc Tryz.prog Tryz.f3 false true false false) := by
  refine returnsInHanded_of_change (C := Tryz.checked) own started (by kernel_rfl) Tryz.func3
    (ChangeSpec.witness6 (enc := enc) (C := Tryz.checked) false ⟨#[], #[.slice none 0 0, .slice none 0 0], []⟩ 8 (by kernel_rfl) (by kernel_rfl) (by kernel_rfl) (by kernel_rfl)) ?_
  intro W base args ds gs before hval0 hW hcnd _
  have hval : ∀ (j : Nat) t v, Tryz.f3.params[j]? = some t → args[j]? = some v → Value.okWide Tryz.prog W .any base t v := hval0
  have hW' := hW
  obtain ⟨p, q, hA0, hV, rfl, hfz, hnd⟩ := hW
  have hA : DataW.TrodAll enc Tryz.prog W 0 (fun _ => true) true Tryz.f3.params.toList args.toList ds p := hA0
  rw [Tryz.params3] at hA hval
  obtain ⟨v0, vs0, d0, ds0, p0, q0, hargs, rfl, rfl, h0, r0⟩ := trodAll_cons hA
  obtain ⟨v1, vs1, d1, ds1, p1, q1, rfl, rfl, rfl, h1, r1⟩ := trodAll_cons r0
  obtain ⟨rfl, rfl, rfl⟩ := trodAll_nil r1
  obtain rfl : args = #[v0, v1] := by cases args; simp_all
  obtain ⟨rfl, rfl⟩ := trodVars_none hV
  have kk0 := h0
  have lt0 : ∀ x ∈ p0, x.block < W.heap.size := by obtain ⟨m, hm⟩ := kk0; exact DataW.trod_lt m _ _ _ hm
  obtain ⟨a0, len0, cap0, rfl⟩ := okWide_slice Tryz.underlying22 (hval 0 22 v0 rfl rfl)
  obtain ⟨z0, w0⟩ : ∃ zs, IsRow .u8 W a0 len0 cap0 zs := by
    obtain ⟨fuel, hf⟩ := h0
    rcases open_ints Tryz.underlying22 Tryz.underlying5 (by kernel_rfl) hf with ⟨hcs, _⟩ | ⟨x, l, c, zs, hcs, _, hl, hm, hz, _, hcell, hwz⟩
    · simp [Value.cells] at hcs
      obtain ⟨rfl, rfl, rfl⟩ := hcs
      exact ⟨[], .inl ⟨rfl, rfl, rfl, rfl⟩⟩
    · simp [Value.cells] at hcs
      obtain ⟨rfl, rfl, rfl⟩ := hcs
      exact ⟨zs, .inr ⟨_, rfl, hl, hm, by simpa using hz, hcell, hwz⟩⟩
  have kk1 := h1
  have lt1 : ∀ x ∈ p1, x.block < W.heap.size := by obtain ⟨m, hm⟩ := kk1; exact DataW.trod_lt m _ _ _ hm
  obtain ⟨a1, len1, cap1, rfl⟩ := okWide_slice Tryz.underlying22 (hval 1 22 v1 rfl rfl)
  obtain ⟨z1, w1⟩ : ∃ zs, IsRow .u8 W a1 len1 cap1 zs := by
    obtain ⟨fuel, hf⟩ := h1
    rcases open_ints Tryz.underlying22 Tryz.underlying5 (by kernel_rfl) hf with ⟨hcs, _⟩ | ⟨x, l, c, zs, hcs, _, hl, hm, hz, _, hcell, hwz⟩
    · simp [Value.cells] at hcs
      obtain ⟨rfl, rfl, rfl⟩ := hcs
      exact ⟨[], .inl ⟨rfl, rfl, rfl, rfl⟩⟩
    · simp [Value.cells] at hcs
      obtain ⟨rfl, rfl, rfl⟩ := hcs
      exact ⟨zs, .inr ⟨_, rfl, hl, hm, by simpa using hz, hcell, hwz⟩⟩
  clear hA0
  refine (walk a0 len0 cap0 z0 a1 len1 cap1 z1 W w0 w1).mono fun e W' ⟨he, bel⟩ => ?_
  subst he
  exact ⟨_, rfl, _, _, _, [], _, [], hW', trodAll_mk1 (shut_bool Tryz.underlying4 _), (trodAll_cons_mk (Below.trod laidOut (by kernel_rfl) (of_decide_eq_true (by kernel_rfl)) kk0 bel lt0) (trodAll_cons_mk (Below.trod laidOut (by kernel_rfl) (of_decide_eq_true (by kernel_rfl)) kk1 bel lt1) trodAll_mk0)), rfl, bel.frame _, fun h => by cases h⟩

set_option maxRecDepth 100000 in
theorem facts : joinedFacts Tryz.prog 3 Tryz.f3 Rows.fnToStepsSpec Rows.fnToStepsRow = true := by
  unfold joinedFacts
  refine Facts.and_t ?_ (by as_aux_lemma => kernel_rfl)
  refine Facts.and_t ?_ (by as_aux_lemma => kernel_rfl)
  refine Facts.and_t ?_ (by as_aux_lemma => kernel_rfl)
  refine Facts.and_t ?_ (by as_aux_lemma => kernel_rfl)
  refine Facts.and_t ?_ (by show (Tryz.prog.make == some Make.cut) = true; rw [Facts.made]; rfl)
  refine Facts.and_t ?_ (by show (false == Tryz.prog.liftsFinal) = true; rw [Facts.lifts]; rfl)
  refine Facts.and_t ?_ (Facts.enters)
  refine Facts.and_t ?_ (Facts.heard)
  refine Facts.and_t ?_ (rfl)
  refine Facts.and_t ?_ (by show (true == Tryz.prog.plainKeys) = true; rw [Facts.keys]; rfl)
  refine Facts.and_t ?_ (by as_aux_lemma => kernel_rfl)
  refine Facts.and_t ?_ (by as_aux_lemma => kernel_rfl)
  refine Facts.and_t ?_ (by as_aux_lemma => kernel_rfl)
  refine Facts.and_t ?_ (by as_aux_lemma => kernel_rfl)
  refine Facts.and_t ?_ (by as_aux_lemma => kernel_rfl)
  refine Facts.and_t ?_ (by as_aux_lemma => kernel_rfl)
  refine Facts.and_t ?_ (by as_aux_lemma => kernel_rfl)
  refine Facts.and_t ?_ (by as_aux_lemma => kernel_rfl)
  refine Facts.and_t ?_ (by as_aux_lemma => kernel_rfl)
  refine Facts.and_t ?_ (by as_aux_lemma => kernel_rfl)
  refine Facts.and_t ?_ (by as_aux_lemma => kernel_rfl)
  refine Facts.and_t ?_ (by as_aux_lemma => kernel_rfl)
  refine Facts.and_t ?_ (by as_aux_lemma => kernel_rfl)
  refine Facts.and_t ?_ (by as_aux_lemma => kernel_rfl)
  refine Facts.and_t ?_ (by as_aux_lemma => kernel_rfl)
  refine Facts.and_t ?_ (by as_aux_lemma => kernel_rfl)
  refine Facts.and_t ?_ (by as_aux_lemma => kernel_rfl)
  refine Facts.and_t ?_ (by as_aux_lemma => kernel_rfl)
  refine Facts.and_t ?_ (by as_aux_lemma => kernel_rfl)
  refine Facts.and_t ?_ (Facts.rowed)
  refine Facts.and_t ?_ (Facts.laidOut)
  kernel_rfl

theorem over : Rows.fnToStepsRow.holds Tryz.pinned (OpenSpec.ofChange Rows.fnToStepsSpec) :=
  OpenClaim.holds_of_wide 3 Tryz.f3 rfl rfl rfl rfl rfl rfl rfl ⟨rfl, rfl, rfl, rfl, rfl⟩ rfl rfl rfl rfl rfl (by kernel_rfl) Tryz.func3 facts
    (of_decide_eq_true (by kernel_rfl)) (by unfold Func.isWrapper; first | (rw [if_pos (by decide +kernel)]; kernel_rfl) | (rw [if_neg (by decide +kernel)]; exact ⟨rfl, rfl⟩))
    (fun os started H enc _ => (lifted os started H enc))

end Go.Proofs.YtbiokmojjneleaaGreat.ToSteps
namespace Go.Proofs.YtbiokmojjneleaaGreat
theorem fnToSteps_holds : Rows.FnToStepsSaid := ToSteps.over
end Go.Proofs.YtbiokmojjneleaaGreat
