/-
  A step that is torn leaves no other value on the slow disk: so it does in a drawn store. The given statement, with no condition.
-/
import Derived.Test.YtbiokmojjneleaaGreatRcQ
import Derived.Test.YtbiokmojjneleaaGreatDrT
import Derived.Test.YtbiokmojjneleaaGreatRbS
import Derived.Test.YtbiokmojjneleaaGreatHaT
import Derived.Test.YtbiokmojjneleaaGreatFacts
import Derived.Lib.SmallJoins
namespace Go.Proofs.YtbiokmojjneleaaGreat.ToDisk
open Go.ChangeShapes Go.WideShapes Go.ChangeAt Go.RowKit Go.Shelf Go.Joins OkA Big Fl ImplB ImplF ImplS ImplT ImplU SpecA SpecB SpecC SpecD SpecW SpecX SpecF SpecG SpecH FindP FindN FindO FindD ImplW ImplX Pick Draw ClA DrB PlB AlX DpX Pl FindL StA StB StC StD StE StF StG SpS SpT Sv LqI LqF Px NwA Sn9 ImplL Kp DoA RmA WrA FlA PlA SpU ToA QuE LawT MkN Ct Cu Ps Py Pz PaA EvL EvS PrA Nf Nr Rw PyE PaB PaC PdA PdB PdD TwC DrT MkN QuE QuB LawU TwA SpV StD
open FlB (FsN)
open StN (SN)
open Facts (own laidOut)
set_option linter.unusedVariables false
set_option linter.unusedSimpArgs false
attribute [local go_sem ↓] Go.wp_at_zero Go.wp_at_succ
theorem row6 {w : World} {lo : Nat} {v : Value} {dk : List Int} (h6 : dk.length = 6) (h : w.ownsRow lo 3 1 v (0 + 6) (isC [] ++ isC dk)) : ∃ d c2, v = .slice (some ⟨d, 0, none⟩) 6 c2 ∧ lo ≤ d ∧ CsAt w d (isC dk) ∧ d < w.heap.size := by
  have hrow : w.ownsRow lo 3 1 v 6 (isC dk) := by simpa [isC] using h
  obtain ⟨_, h2⟩ := h
  rcases h2 with ⟨h2, _⟩ | ⟨d, c2, cur, rfl, hb, hh, _⟩
  · first | omega | cases h2
  · have rp := row_pages (by omega) hrow
    refine ⟨d, c2, rfl, hb, ⟨rp.1, by rw [len_isC, h6]; simpa using rp.2⟩, ?_⟩
    by_cases hlt : d < w.heap.size
    · exact hlt
    · have : w.heap[d]? = none := by simp; omega
      rw [this] at hh; cases hh


variable {fa da ga ea : Option Addr} {c1 c2 c3 c4 : Nat} {B : List Bk} {K : List Int}
/-- A store of four blocks and six values, ok or not. -/
structure SF (w : World) (fa da : Option Addr) (B : List Bk) (K : List Int) : Prop where
  sat : SAt w fa B da K
  l4 : B.length = 4
  l6 : K.length = 6
  pg : ∀ b ∈ B, b.ps.length ≤ 4
theorem SF.below {w w' : World} (h : SF w fa da B K) (b : Below w.heap.size w w') : SF w' fa da B K := ⟨h.sat.below b, h.l4, h.l6, h.pg⟩
theorem sf_of {w : World} {lo hi : Nat} (h : InT w lo hi (.slice fa 4 c1) (.slice da 6 c2) true B K) : SF w fa da B K := by
  have hs := sat_of h
  rcases h with ⟨q, _⟩ | ⟨_, g, G, d, c1, c2, e1, e2, o, hr, hF, e4, e6⟩
  · cases q
  · exact ⟨hs, e4, e6, fun b hb => by have := hF b hb; omega⟩
def ToF (w : World) (B : List Bk) (K : List Int) (e : Ending) (w' : World) : Prop := ∃ xa xc xd xe, e = .returned (.tuple #[.agg #[.slice xa 4 xc, .slice xd 6 xe], .bool true]) ∧ InT w' w.heap.size w'.heap.size (.slice xa 4 xc) (.slice xd 6 xe) true B K ∧ Below w.heap.size w w'
theorem toF_of {w w' : World} {L : List Stp} {cut : Int} {torn : Bool} {e : Ending} (hok : toOk B K L cut = true) (h : TpPost w B K L cut torn e w') : ToF w (toB B L cut torn) (toK K L cut torn) e w' := by
  obtain ⟨X, Y, rfl, I, b⟩ := InT.of h
  rw [hok] at I ⊢
  obtain ⟨g, d, c1, c2, e1, e2, h4, h6, hq⟩ := int_form I
  rw [e1, e2] at I ⊢
  exact ⟨_, _, _, _, rfl, I, b⟩
theorem toN_of {w w' : World} {L : List Stp} {cut : Int} {torn : Bool} {e : Ending} (hok : toOk B K L cut = false) (h : TpPost w B K L cut torn e w') : NoPost w e w' := by
  rcases h with ⟨_, h⟩ | ⟨q, _⟩
  · exact h
  · rw [hok] at q; cases q
theorem iToF {sa : Option Addr} {sc : Nat} (L : List Stp) (cut : Int) (torn : Bool) (hc0 : -100 ≤ cut) (hc1 : cut ≤ 100) (hl : L.length ≤ 100) (hok : toOk B K L cut = true) (w : World) (h : SF w fa da B K) (hs : SsAt w sa L) :
    Calls Tryz.prog 22 #[.agg #[.slice fa 4 c1, .slice da 6 c2], .slice sa L.length sc, .int .i64 cut, .bool torn] w fun e w' => ToF w (toB B L cut torn) (toK K L cut torn) e w' := by
  have h4 := h.l4
  have h6 := h.l6
  have := implTo_any fa c1 B da c2 K sa sc L cut (by omega) (by omega) torn w h.sat hs (by omega) (by omega) (by omega)
  rw [h4, h6] at this
  exact this.mono fun _ _ q => toF_of hok q
theorem iToN {sa : Option Addr} {sc : Nat} (L : List Stp) (cut : Int) (torn : Bool) (hc0 : -100 ≤ cut) (hc1 : cut ≤ 100) (hl : L.length ≤ 100) (hok : toOk B K L cut = false) (w : World) (h : SF w fa da B K) (hs : SsAt w sa L) :
    Calls Tryz.prog 22 #[.agg #[.slice fa 4 c1, .slice da 6 c2], .slice sa L.length sc, .int .i64 cut, .bool torn] w fun e w' => NoPost w e w' := by
  have h4 := h.l4
  have h6 := h.l6
  have := implTo_any fa c1 B da c2 K sa sc L cut (by omega) (by omega) torn w h.sat hs (by omega) (by omega) (by omega)
  rw [h4, h6] at this
  exact this.mono fun _ _ q => toN_of hok q
theorem sToF {sa : Option Addr} {sc : Nat} (L : List Stp) (cut : Int) (torn : Bool) (hl : L.length ≤ 100) (hok : toOk B K L cut = true) (w : World) (h : SF w fa da B K) (hs : SsAt w sa L) :
    Calls Tryz.prog 21 #[.agg #[.slice fa 4 c1, .slice da 6 c2], .slice sa L.length sc, .int .i64 cut, .bool torn] w fun e w' => ToF w (toB B L cut torn) (toK K L cut torn) e w' := by
  have h4 := h.l4
  have h6 := h.l6
  have hp := h.pg
  have := specTo_any fa c1 B da c2 K sa sc L cut torn w h.sat hs (by omega) (fun b hb => by have := hp b hb; omega) (by omega) (by omega)
  rw [h4, h6] at this
  exact this.mono fun _ _ q => toF_of hok q
theorem lqF (w : World) (h1 : SF w fa da B K) (h2 : SF w ga ea B K) :
    Calls Tryz.prog 23 #[.agg #[.slice fa 4 c1, .slice da 6 c2], .agg #[.slice ga 4 c3, .slice ea 6 c4]] w fun e w' => e = .returned (.bool true) ∧ Below w.heap.size w w' := by
  have h4 := h1.l4
  have h6 := h1.l6
  have hp := h1.pg
  have := lqStore_any fa ga da ea c1 c3 c2 c4 B B K K w h1.sat.fs h2.sat.fs h1.sat.ds h2.sat.ds (by omega) (by omega) (fun b hb => by have := hp b hb; omega) (fun b hb => by have := hp b hb; omega) (by omega) (by omega)
  rw [h4, h6] at this
  refine this.mono ?_
  rintro e w' ⟨⟨r, rfl, hr⟩, b⟩
  rw [hr.2 ⟨rfl, rfl⟩]
  exact ⟨rfl, b⟩
theorem iOkF (w : World) (h : SF w fa da B K) :
    Calls Tryz.prog 24 #[.agg #[.slice fa 4 c1, .slice da 6 c2]] w fun e w' => e = .returned (.bool (stB B K)) ∧ Below w.heap.size w w' := by
  have h4 := h.l4
  have h6 := h.l6
  have := Sv.iOk (fc := c1) (dc := c2) w h.sat (by omega) (by omega)
  rwa [h4, h6] at this

theorem toK_flat (dk : List Int) (L : List Stp) (cut : Int) (tt : Bool) : toK dk L cut tt = toD dk (L.take cut.toNat) := by
  unfold toK
  split
  · unfold doD; simp
  · rfl
theorem toD_take (dk : List Int) (L : List Stp) (j : Nat) (hj : j < L.length) : toD dk (L.take (j + 1)) = doD (toD dk (L.take j)) L[j] false := by
  rw [List.take_succ_eq_append_getElem hj, toD_app]; rfl
theorem toD_len : ∀ (L : List Stp) (dk : List Int), (toD dk L).length = dk.length
  | [], dk => rfl
  | x :: r, dk => by
    show (toD (doD dk x false) r).length = _
    rw [toD_len r]
    unfold doD
    split <;> simp
theorem stk_1 {x : Stp} (h : stkB x = true) (hk : x.kind = 1) : ∃ q : Nat, q < 6 ∧ x.addr = (q : Int) + 1 := by
  unfold stkB at h
  rw [if_pos hk] at h
  simp [inB] at h
  exact ⟨(x.addr - 1).toNat, by omega, by omega⟩
theorem st_4 {w : World} {b o : Nat} {x : Stp} (h : w.rangeAt b o (stC x)) : w.cell? ⟨b, o, none⟩ = some (.int .i64 x.kind) ∧ w.cell? ⟨b, o + 1, none⟩ = some (.int .i64 x.addr) ∧ w.cell? ⟨b, o + 2, none⟩ = some (.int .i64 x.val) :=
  ⟨h 0 _ rfl, h 1 _ rfl, h 2 _ rfl⟩

set_option maxRecDepth 100000 in
set_option maxHeartbeats 8000000 in
theorem walk (a0 : Option Addr) (len0 cap0 : Nat) (z0 : List Int) (w : World) (h0 : IsRow .u8 w a0 len0 cap0 z0) :
    Calls Tryz.prog 4 #[.slice a0 len0 cap0] w fun e w' => e = .returned (.bool true) ∧ Below w.heap.size w w' := by
  have HD := hide (drawTo_any w a0 len0 cap0 z0 h0)
  clear h0
  go_enter Tryz.func4, Tryz.ntmps4
  by_cases hbig0 : 1048576 < (len0 : Int)
  · go_wp2
    go_ret
    exact ⟨rfl, Below.refl _ _⟩
  go_wp2_with fail
  refine (unhide HD).mono ?_
  rintro e w1 ⟨g, o, c, bs, d, z, dc, dk, sa, sc, L, cut, tt, rfl, S1, ⟨hss, _⟩, hl8, hc0, hc1, B⟩
  clear HD
  have h4 := S1.fs.four
  have h6 := S1.six
  have hp4 := S1.fs.pgs
  have hs := S1.at
  clear S1
  generalize (some ⟨g, o, none⟩ : Option Addr) = fa at *
  generalize (some ⟨d, z, none⟩ : Option Addr) = da at *
  have HSS := hide (show (Tryz.prog.info? 26).map (·.size) = some 2 by kernel_rfl)
  have HSE := hide (show (Tryz.prog.info? 42).map (·.size) = some 5 by kernel_rfl)
  cases hok : toOk bs dk L cut
  · have HI := hide (fun (w' : World) (h : SAt w' fa bs da dk) (h2 : SsAt w' sa L) => (implTo_any fa c bs da dc dk sa sc L cut (by omega) (by omega) tt w' h h2 (by omega) (by omega) (by omega)).mono fun _ _ q => toN_of hok q)
    have HS := hide (fun (w' : World) (h : SAt w' fa bs da dk) (h2 : SsAt w' sa L) => (specTo_any fa c bs da dc dk sa sc L cut tt w' h h2 (by omega) (fun b hb => by have := hp4 b hb; omega) (by omega) (by omega)).mono fun _ _ q => toN_of hok q)
    clear h4 h6 hp4 hok
    generalize bs.length = n4 at *
    generalize dk.length = n6 at *
    have b : Below w1.heap.size w1 (w1.alloc (.cells #[.slice fa n4 c, .slice da n6 dc] 26)) := (Below.refl _ _).alloc (Nat.le_refl _) _
    have bx := Bx.new w1 (.slice fa n4 c) (.slice da n6 dc) 26
    replace hs := hs.below b
    replace hss := hss.below b
    replace B := B.trans (b.mono B.size)
    clear b
    have bx0 := bx.c0
    have bx1 := bx.c1
    go_wp2_with fail
    generalize w1.alloc (.cells #[.slice fa n4 c, .slice da n6 dc] 26) = v1 at *
    generalize w1.heap.size = bxb at *
    refine (unhide HS _ hs hss).mono ?_
    rintro e u2 ⟨rfl, b⟩
    replace hs := hs.below b
    replace hss := hss.below b
    replace bx := bx.below b
    clear bx0 bx1
    have bx0 := bx.c0
    have bx1 := bx.c1
    replace B := B.trans (b.mono B.size)
    clear b
    have b : Below u2.heap.size u2 (u2.alloc (.cells #[.slice none 0 0, .slice none 0 0] 26)) := (Below.refl _ _).alloc (Nat.le_refl _) _
    have bw := Bx.new u2 (.slice none 0 0) (.slice none 0 0) 26
    replace hs := hs.below b
    replace hss := hss.below b
    replace bx := bx.below b
    clear bx0 bx1
    have bx0 := bx.c0
    have bx1 := bx.c1
    replace B := B.trans (b.mono B.size)
    clear b
    have bw0 := bw.c0
    have bw1 := bw.c1
    go_wp2_with fail
    generalize u2.alloc (.cells #[.slice none 0 0, .slice none 0 0] 26) = v3 at *
    generalize u2.heap.size = bwb at *
    refine (unhide HI _ hs hss).mono ?_
    rintro e u4 ⟨rfl, b⟩
    replace hs := hs.below b
    replace hss := hss.below b
    replace bx := bx.below b
    clear bx0 bx1
    have bx0 := bx.c0
    have bx1 := bx.c1
    replace bw := bw.below b
    clear bw0 bw1
    have bw0 := bw.c0
    have bw1 := bw.c1
    replace B := B.trans (b.mono B.size)
    clear b
    have b : Below u4.heap.size u4 (u4.alloc (.cells #[.slice none 0 0, .slice none 0 0] 26)) := (Below.refl _ _).alloc (Nat.le_refl _) _
    have bi := Bx.new u4 (.slice none 0 0) (.slice none 0 0) 26
    replace hs := hs.below b
    replace hss := hss.below b
    replace bx := bx.below b
    clear bx0 bx1
    have bx0 := bx.c0
    have bx1 := bx.c1
    replace bw := bw.below b
    clear bw0 bw1
    have bw0 := bw.c0
    have bw1 := bw.c1
    replace B := B.trans (b.mono B.size)
    clear b
    have bi0 := bi.c0
    have bi1 := bi.c1
    go_wp2_with fail
    generalize u4.alloc (.cells #[.slice none 0 0, .slice none 0 0] 26) = v5 at *
    generalize u4.heap.size = bib at *
    refine (lqNil _).mono ?_
    rintro e u6 ⟨rfl, b⟩
    replace hs := hs.below b
    replace hss := hss.below b
    replace bx := bx.below b
    clear bx0 bx1
    have bx0 := bx.c0
    have bx1 := bx.c1
    replace bw := bw.below b
    clear bw0 bw1
    have bw0 := bw.c0
    have bw1 := bw.c1
    replace bi := bi.below b
    clear bi0 bi1
    have bi0 := bi.c0
    have bi1 := bi.c1
    replace B := B.trans (b.mono B.size)
    clear b
    go_wp2_with fail
    refine (lqNil _).mono ?_
    rintro e u7 ⟨rfl, b⟩
    replace hs := hs.below b
    replace hss := hss.below b
    replace bx := bx.below b
    clear bx0 bx1
    have bx0 := bx.c0
    have bx1 := bx.c1
    replace bw := bw.below b
    clear bw0 bw1
    have bw0 := bw.c0
    have bw1 := bw.c1
    replace bi := bi.below b
    clear bi0 bi1
    have bi0 := bi.c0
    have bi1 := bi.c1
    replace B := B.trans (b.mono B.size)
    clear b
    go_wp2
    go_ret
    exact ⟨rfl, B⟩
  · have hok3 : stB bs dk = true ∧ L.all stkB = true ∧ 0 ≤ cut := by unfold toOk at hok; simp only [Bool.and_eq_true, decide_eq_true_eq] at hok; exact ⟨hok.1.1, hok.1.2, hok.2⟩
    have e4 := ok_len (st_parts hok3.1).1
    have e6 := st_len hok3.1
    have hF : SF w1 fa da bs dk := ⟨hs, e4, e6, hp4⟩
    clear hs
    rw [e4, e6]
    have HD6 := hide e6
    clear h4 h6 hp4 e4 e6
    have HOK := hide hok
    have hl9 : L.length ≤ 100 := by omega
    have HS := hide (fun (w' : World) (h : SF w' fa da bs dk) (h2 : SsAt w' sa L) => sToF (c1 := c) (c2 := dc) (sc := sc) L cut tt hl9 hok w' h h2)
    have HI := hide (fun (w' : World) (h : SF w' fa da bs dk) (h2 : SsAt w' sa L) => iToF (c1 := c) (c2 := dc) (sc := sc) L cut tt (by omega) (by omega) hl9 hok w' h h2)
    obtain ⟨M, hM1, hM2, hM3⟩ : ∃ M : Nat, (M : Int) ≤ cut ∧ M ≤ L.length ∧ ((M : Int) = cut ∨ M = L.length) := ⟨min cut.toNat L.length, by omega, by omega, by omega⟩
    have HKX := hide (show toK dk L cut tt = toD dk (L.take M) by rw [toK_flat]; congr 1; rcases hM3 with q | q; rw [show cut.toNat = M by omega]; rw [q, List.take_of_length_le (Nat.le_refl _), List.take_of_length_le (by omega)])
    have HKD := hide (fun (j : Nat) (hj : j < L.length) (hk : L[j].kind = 1) => stk_1 (List.all_eq_true.1 hok3.2.1 L[j] (List.getElem_mem hj)) hk)
    clear hok hok3 HOK
    generalize toB bs L cut tt = BX at *
    generalize toK dk L cut tt = KX at *
    have b : Below w1.heap.size w1 (w1.alloc (.cells #[.slice fa 4 c, .slice da 6 dc] 26)) := (Below.refl _ _).alloc (Nat.le_refl _) _
    have bx := Bx.new w1 (.slice fa 4 c) (.slice da 6 dc) 26
    replace hF := hF.below b
    replace hss := hss.below b
    replace B := B.trans (b.mono B.size)
    clear b
    have bx0 := bx.c0
    have bx1 := bx.c1
    go_wp2_with fail
    generalize w1.alloc (.cells #[.slice fa 4 c, .slice da 6 dc] 26) = v1 at *
    generalize w1.heap.size = bxb at *
    refine (unhide HS _ hF hss).mono ?_
    rintro e u2 ⟨fw, k1, dw, k2, rfl, hw, b⟩
    replace hF := hF.below b
    replace hss := hss.below b
    replace bx := bx.below b
    clear bx0 bx1
    have bx0 := bx.c0
    have bx1 := bx.c1
    replace B := B.trans (b.mono B.size)
    clear b
    have hW := sf_of hw
    clear hw
    have b : Below u2.heap.size u2 (u2.alloc (.cells #[.slice fw 4 k1, .slice dw 6 k2] 26)) := (Below.refl _ _).alloc (Nat.le_refl _) _
    have bw := Bx.new u2 (.slice fw 4 k1) (.slice dw 6 k2) 26
    replace hF := hF.below b
    replace hss := hss.below b
    replace hW := hW.below b
    replace bx := bx.below b
    clear bx0 bx1
    have bx0 := bx.c0
    have bx1 := bx.c1
    replace B := B.trans (b.mono B.size)
    clear b
    have bw0 := bw.c0
    have bw1 := bw.c1
    go_wp2_with fail
    generalize u2.alloc (.cells #[.slice fw 4 k1, .slice dw 6 k2] 26) = v3 at *
    generalize u2.heap.size = bwb at *
    refine (unhide HI _ hF hss).mono ?_
    rintro e u4 ⟨fi, m1, di, m2, rfl, hi9, b⟩
    replace hF := hF.below b
    replace hss := hss.below b
    replace hW := hW.below b
    replace bx := bx.below b
    clear bx0 bx1
    have bx0 := bx.c0
    have bx1 := bx.c1
    replace bw := bw.below b
    clear bw0 bw1
    have bw0 := bw.c0
    have bw1 := bw.c1
    replace B := B.trans (b.mono B.size)
    clear b
    have hI := sf_of hi9
    clear hi9
    have b : Below u4.heap.size u4 (u4.alloc (.cells #[.slice fi 4 m1, .slice di 6 m2] 26)) := (Below.refl _ _).alloc (Nat.le_refl _) _
    have bi := Bx.new u4 (.slice fi 4 m1) (.slice di 6 m2) 26
    replace hF := hF.below b
    replace hss := hss.below b
    replace hW := hW.below b
    replace hI := hI.below b
    replace bx := bx.below b
    clear bx0 bx1
    have bx0 := bx.c0
    have bx1 := bx.c1
    replace bw := bw.below b
    clear bw0 bw1
    have bw0 := bw.c0
    have bw1 := bw.c1
    replace B := B.trans (b.mono B.size)
    clear b
    have bi0 := bi.c0
    have bi1 := bi.c1
    go_wp2_with fail
    generalize u4.alloc (.cells #[.slice fi 4 m1, .slice di 6 m2] 26) = v5 at *
    generalize u4.heap.size = bib at *
    refine (lqF _ hI hW).mono ?_
    rintro e u6 ⟨rfl, b⟩
    replace hF := hF.below b
    replace hss := hss.below b
    replace hW := hW.below b
    replace hI := hI.below b
    replace bx := bx.below b
    clear bx0 bx1
    have bx0 := bx.c0
    have bx1 := bx.c1
    replace bw := bw.below b
    clear bw0 bw1
    have bw0 := bw.c0
    have bw1 := bw.c1
    replace bi := bi.below b
    clear bi0 bi1
    have bi0 := bi.c0
    have bi1 := bi.c1
    replace B := B.trans (b.mono B.size)
    clear b
    clear bw bw0 bw1
    clear hW
    clear HS HI
    obtain ⟨db, do9, rfl, hdr⟩ : ∃ b o, da = some ⟨b, o, none⟩ ∧ u6.rangeAt b o (isC dk) := by rcases hF.sat.ds with e | e; have := unhide HD6; rw [e] at this; cases this; exact e
    have hdl : db < u6.heap.size := Fl.cell_lt (isC_at hdr 0 (by rw [unhide HD6]; omega))
    obtain ⟨iI, hiI, hzI, hsI, hbI⟩ := infoI
    have HII := hide hiI
    clear hiI
    have hl6 : (isC dk).length = 6 * 1 := by rw [len_isC, unhide HD6]
    have bE : Below u6.heap.size u6 (u6.alloc (.cells #[] 3)) := (Below.refl _ _).alloc (Nat.le_refl _) _
    have rW := StD.Rw.nil' u6 u6.heap.size (Nat.le_refl _)
    have hdr4 := rangeAt_below hdr bE hdl
    have bx4 := bx.below bE
    have x40 := bx4.c0
    have x41 := bx4.c1
    have hsE : (u6.alloc (.cells #[] 3)).heap.size = u6.heap.size + 1 := by simp
    go_upto_region 9 with (refine wpList_append_own _ rfl _ _ 24 rfl u6.heap.size 3 iI (.int .i64 0) 1 8 Tryz.underlying24 (unhide HII) hzI hsI hbI rfl (by omega) _ 0 (isC ([] : List Int)) rfl rW.row ⟨db, do9, none⟩ 6 dc (isC dk) rfl hl6 (src_mid hdr4) (one_isC dk) (by simp [maxLen]) (by omega) (by omega) ?_; intro v' wZ hoZ hgZ hatZ)
    have kZ := (Below.refl u6.heap.size (u6.alloc (.cells #[] 3))).grown hgZ (by omega) (fun k e => by have e2 : some u6.heap.size = some k := e; simp at e2; omega)
    obtain ⟨d9, c9, rfl, hdat, cD, hdlt⟩ := row6 (unhide HD6) hoZ
    have b0 := bE.trans kZ
    clear bE rW hdr4 bx4 x40 x41 hsE hgZ hoZ hatZ kZ hdr hl6 hdl bx bx0 bx1
    generalize u6.alloc (.cells #[] 3) = wq9 at *
    go_wp2
    go_loopw [12] (fun i w' => ∃ j : Nat, j ≤ M ∧ i = .int .i64 j ∧ CsAt w' d9 (isC (toD dk (L.take j))) ∧ Below u6.heap.size u6 w') (fun i _ => L.length - (intOf i).toNat)
    case atStart => exact ⟨0, by omega, rfl, cD, b0⟩
    case round =>
      obtain ⟨j, hj, rfl, cD, bw⟩ := hrel
      clear b0 hdlt
      have hD6 : (toD dk (L.take j)).length = 6 := by rw [toD_len]; exact unhide HD6
      have HDL := hide hD6
      clear hD6
      have hji : (j : Int) ≤ cut := by omega
      have hj0 : (0 : Int) ≤ (j : Int) := by omega
      by_cases h0 : j = M
      · have HKE : Hid (KX = toD dk (L.take j)) := by show _ = _; rw [unhide HKX, h0]
        have hI2 := hI.below bw
        have bi2 := bi.below bw
        have y0 := bi2.c0
        have y1 := bi2.c1
        replace B := B.trans (bw.mono B.size)
        have hds := hI2.sat.ds
        rw [unhide HKE] at hds
        have HLQ := lqIn (some ⟨d9, 0, none⟩) di c9 m2 _ (unhide HDL) wr (.inr ⟨d9, 0, rfl, cD.cells⟩) hds
        have HLQ9 := hide HLQ
        clear HLQ hds hI2 hI cD bw HKX HKD hF hss bi bi0 bi1 HKE
        generalize wr = w9 at *
        by_cases hjL : j = L.length
        · have hjb : ¬ (j : Int) < (L.length : Int) := by omega
          clear hM1 hM2 hM3 h0 HDL
          subst hjL
          go_wp2_with fail
          refine (unhide HLQ9).mono ?_
          rintro e w10 ⟨rfl, b⟩
          replace B := B.trans (b.mono B.size)
          clear b y0 y1 bi2
          go_wp2
          go_ret
          exact ⟨rfl, B⟩
        · have hjb : (j : Int) < (L.length : Int) := by omega
          have hjc : (j : Int) = cut := by omega
          have hjd : ¬ (j : Int) < cut := by omega
          clear hM1 hM2 hM3 h0 HDL hjL hjc
          go_wp2_with fail
          refine (unhide HLQ9).mono ?_
          rintro e w10 ⟨rfl, b⟩
          replace B := B.trans (b.mono B.size)
          clear b y0 y1 bi2
          go_wp2
          go_ret
          exact ⟨rfl, B⟩
      have hjl : j < L.length := by omega
      have hjL : (j : Int) < (L.length : Int) := by omega
      have hjc : (j : Int) < cut := by omega
      have hwj : IntKind.i64.wrap ((j : Int) + 1) = (j : Int) + 1 := by rw [IntKind.wrap_i64] <;> omega
      have hjM : j + 1 ≤ M := by omega
      obtain ⟨eb, eo, rfl, _, lE⟩ := hss.at j hjl
      obtain ⟨eb9, eo9, eq9, rX, lX⟩ := (hss.below bw).at j hjl
      cases eq9
      obtain ⟨s0, s1, s2⟩ := st_4 rX
      have HT := hide (toD_take dk L j hjl)
      have HKJ := hide (unhide HKD j hjl)
      clear rX HKX HKD hss hF hI bi bi0 bi1 B hM3 h0
      generalize toD dk (L.take j) = D at *
      generalize hD2 : toD dk (L.take (j + 1)) = D2 at *
      have HD2 := hide hD2
      clear hD2
      generalize L[j] = x at *
      by_cases hk : x.kind = 1
      · obtain ⟨q, hq, ha⟩ := unhide HKJ hk
        have HE : Hid (D2 = D.set q x.val) := by show _ = _; rw [unhide HT]; unfold doD; rw [if_pos hk, if_neg (by simp), ha, show ((q : Int) + 1 - 1).toNat = q by omega]
        rw [hk] at s0
        rw [ha] at s1
        have hq0 : (0 : Int) ≤ (q : Int) := by omega
        have hq6 : (q : Int) < 6 := by omega
        have hqq : (q : Int) + 1 - 1 = (q : Int) := by omega
        have hwq : IntKind.i64.wrap (q : Int) = (q : Int) := by rw [IntKind.wrap_i64] <;> omega
        have hebd : eb < u6.heap.size := lE
        have hned : eb ≠ d9 := by omega
        have hDl0 : 0 < (isC D).length := by rw [len_isC, unhide HDL]; omega
        clear HT HKJ hk ha
        go_upto_region 13 with fail
        refine wp_region_noPanic ?_
        refine wp_region_held_drew (S := fun w' => Kept [d9] wr w') (by kernel_rfl) (Kept.refl _ _).drew (fun hHeld => ?_)
        replace cD := OrdL.ckept cD (L := []) (Kept.refl [] wr).drew (CsAt.lt cD (by first | (simp; done) | assumption)) (by simp)
        generalize wr.drew = y0 at *
        have z0 := hHeld.size
        refine takeL 0 (.slice (some ⟨d9, 0, none⟩) 6 c9) rfl (by kernel_rfl) (by kernel_rfl) (by kernel_rfl) (fun _ _ _ h => h) (Or.inl ⟨rfl, fun _ _ => rfl⟩) hHeld ?_
        try simp only [Act.put, List.setIfInBounds_toArray, List.set_cons_zero, List.set_cons_succ]
        refine takeL 1 (.slice (some ⟨eb, eo, none⟩) L.length sc) rfl (by kernel_rfl) (by kernel_rfl) (by kernel_rfl) (fun _ _ _ h => h) (Or.inl ⟨rfl, fun _ _ => rfl⟩) hHeld ?_
        try simp only [Act.put, List.setIfInBounds_toArray, List.set_cons_zero, List.set_cons_succ]
        refine takeL 2 (.int .i64 (j : Int)) rfl (by kernel_rfl) (by kernel_rfl) (by kernel_rfl) (fun _ _ _ h => h) (Or.inl ⟨rfl, fun _ _ => rfl⟩) hHeld ?_
        try simp only [Act.put, List.setIfInBounds_toArray, List.set_cons_zero, List.set_cons_succ]
        refine takeL 3 (.pointer (some ⟨eb, eo + j * 8, none⟩)) rfl (by kernel_rfl) (by kernel_rfl) (by kernel_rfl) (fun _ _ _ h => h) (Or.inl ⟨rfl, fun w9 hSw => by go_simp⟩) hHeld ?_
        try simp only [Act.put, List.setIfInBounds_toArray, List.set_cons_zero, List.set_cons_succ]
        refine takeL 4 (.pointer (some ⟨eb, eo + j * 8 + 1, none⟩)) rfl (by kernel_rfl) (by kernel_rfl) (by kernel_rfl) (fun _ _ _ h => h) (Or.inl ⟨rfl, fun w9 hSw => by go_simp⟩) hHeld ?_
        try simp only [Act.put, List.setIfInBounds_toArray, List.set_cons_zero, List.set_cons_succ]
        refine takeL 5 (.int .i64 ((q : Int) + 1)) rfl (by kernel_rfl) (by kernel_rfl) (by kernel_rfl) (fun _ _ _ h => h) (Or.inl ⟨rfl, fun w9 hSw => by have hc := (hSw.cell (b := eb) (eo + j * 8 + 1) (by omega) (by simp; omega)).trans s1; go_simp⟩) hHeld ?_
        try simp only [Act.put, List.setIfInBounds_toArray, List.set_cons_zero, List.set_cons_succ]
        refine takeL 6 (.int .i64 (q : Int)) rfl (by kernel_rfl) (by kernel_rfl) (by kernel_rfl) (fun _ _ _ h => h) (Or.inl ⟨rfl, fun w9 hSw => by go_simp⟩) hHeld ?_
        try simp only [Act.put, List.setIfInBounds_toArray, List.set_cons_zero, List.set_cons_succ]
        refine takeL 7 (.slice (some ⟨eb, eo, none⟩) L.length sc) rfl (by kernel_rfl) (by kernel_rfl) (by kernel_rfl) (fun _ _ _ h => h) (Or.inl ⟨rfl, fun _ _ => rfl⟩) hHeld ?_
        try simp only [Act.put, List.setIfInBounds_toArray, List.set_cons_zero, List.set_cons_succ]
        refine takeL 8 (.int .i64 (j : Int)) rfl (by kernel_rfl) (by kernel_rfl) (by kernel_rfl) (fun _ _ _ h => h) (Or.inl ⟨rfl, fun _ _ => rfl⟩) hHeld ?_
        try simp only [Act.put, List.setIfInBounds_toArray, List.set_cons_zero, List.set_cons_succ]
        refine takeL 9 (.pointer (some ⟨eb, eo + j * 8, none⟩)) rfl (by kernel_rfl) (by kernel_rfl) (by kernel_rfl) (fun _ _ _ h => h) (Or.inl ⟨rfl, fun w9 hSw => by go_simp⟩) hHeld ?_
        try simp only [Act.put, List.setIfInBounds_toArray, List.set_cons_zero, List.set_cons_succ]
        refine takeL 10 (.pointer (some ⟨eb, eo + j * 8 + 2, none⟩)) rfl (by kernel_rfl) (by kernel_rfl) (by kernel_rfl) (fun _ _ _ h => h) (Or.inl ⟨rfl, fun w9 hSw => by go_simp⟩) hHeld ?_
        try simp only [Act.put, List.setIfInBounds_toArray, List.set_cons_zero, List.set_cons_succ]
        refine takeL 11 (.int .i64 x.val) rfl (by kernel_rfl) (by kernel_rfl) (by kernel_rfl) (fun _ _ _ h => h) (Or.inl ⟨rfl, fun w9 hSw => by have hc := (hSw.cell (b := eb) (eo + j * 8 + 2) (by omega) (by simp; omega)).trans s2; go_simp⟩) hHeld ?_
        try simp only [Act.put, List.setIfInBounds_toArray, List.set_cons_zero, List.set_cons_succ]
        refine takeL 12 (.pointer (some ⟨d9, q, none⟩)) rfl (by kernel_rfl) (by kernel_rfl) (by kernel_rfl) (fun _ _ _ h => h) (Or.inl ⟨rfl, fun w9 hSw => by go_simp⟩) hHeld ?_
        try simp only [Act.put, List.setIfInBounds_toArray, List.set_cons_zero, List.set_cons_succ]
        refine oneL 13 rfl (by kernel_rfl) rfl (fun K hK => ?_)
        have cq := isC_at cD.cells q (by rw [unhide HDL]; exact hq)
        rw [Nat.zero_add] at cq
        have fq := cD.frozen q (by rw [len_isC, unhide HDL]; exact hq)
        go_simp
        refine hK.out _ _ (hHeld.setCell (p := ⟨d9, q, none⟩) (.inl (by simp)) _) (fun hHeld => ?_)
        clear hK K
        try simp only [Act.put, List.setIfInBounds_toArray, List.set_cons_zero, List.set_cons_succ]
        have cD2 := cD.setInt (k := q) (by rw [unhide HDL]; exact hq) x.val
        clear cD cq fq
        generalize y0.setCell ⟨d9, q, none⟩ (.int .i64 x.val) = y9 at *
        refine wpAnyH_done (by kernel_rfl) ?_ _
        refine NoPanic.normal ?_
        have K2 := bw.trans (Kept.below hHeld (B := u6.heap.size) (fun z hz => by simp at hz; subst hz; exact hdat) bw.size)
        clear hHeld
        go_wp2
        go_roundw
        case rel => exact ⟨j + 1, by omega, by first | rfl | go_num, by rw [unhide HD2, unhide HE]; exact cD2, K2⟩
        case measure => simp [intOf]; omega
      · have HE : Hid (D2 = D) := by show _ = _; rw [unhide HT]; unfold doD; rw [if_neg hk]
        have hkb : (x.kind == 1) = false := by simpa using hk
        clear HT HKJ hk
        go_wp2
        go_roundw
        case rel => exact ⟨j + 1, by omega, by first | rfl | go_num, by rw [unhide HD2, unhide HE]; exact cD, bw⟩
        case measure => simp [intOf]; omega


set_option maxRecDepth 100000 in
theorem lifted (os : Os) (started : os.Started) (H : Type) (enc : TypeId × Value → H) :
    ReturnsInHanded {} Tryz.checked os 4 .any (Rows.fnToDiskSpec.pre6 enc Tryz.prog Tryz.f4 Rows.fnToDiskRow.domain false) (Rows.fnToDiskSpec.post enc Tryz.prog Tryz.f4 false true false false) := by
  refine returnsInHanded_of_change (C := Tryz.checked) own started (by kernel_rfl) Tryz.func4
    (ChangeSpec.witness6 (enc := enc) (C := Tryz.checked) false ⟨#[], #[.slice none 0 0], []⟩ 8 (by kernel_rfl) (by kernel_rfl) (by kernel_rfl) (by kernel_rfl)) ?_
  intro W base args ds gs before hval0 hW hcnd _
  have hval : ∀ (j : Nat) t v, Tryz.f4.params[j]? = some t → args[j]? = some v → Value.okWide Tryz.prog W .any base t v := hval0
  have hW' := hW
  obtain ⟨p, q, hA0, hV, rfl, hfz, hnd⟩ := hW
  have hA : DataW.TrodAll enc Tryz.prog W 0 (fun _ => true) true Tryz.f4.params.toList args.toList ds p := hA0
  rw [Tryz.params4] at hA hval
  obtain ⟨v0, vs0, d0, ds0, p0, q0, hargs, rfl, rfl, h0, r0⟩ := trodAll_cons hA
  obtain ⟨rfl, rfl, rfl⟩ := trodAll_nil r0
  obtain rfl : args = #[v0] := by cases args; simp_all
  obtain ⟨rfl, rfl⟩ := trodVars_none hV
  have kk0 := h0
  have lt0 : ∀ x ∈ p0, x.block < W.heap.size := by obtain ⟨m, hm⟩ := kk0; exact DataW.trod_lt m _ _ _ hm
  obtain ⟨a0, len0, cap0, rfl⟩ := okWide_slice Tryz.underlying22 (hval 0 22 v0 rfl rfl)
  obtain ⟨z0, w0⟩ : ∃ zs, IsRow .u8 W a0 len0 cap0 zs := by
    obtain ⟨fuel, hf⟩ := h0
    rcases open_ints Tryz.underlying22 Tryz.underlying5 (by kernel_rfl) hf with ⟨hcs, _⟩ | ⟨x, l, c, zs, hcs, _, hl, hm, hz, _, hcell, hwz⟩
    · simp [Value.cells] at hcs
      obtain ⟨rfl, rfl, rfl⟩ := hcs
      exact ⟨[], .inl ⟨rfl, rfl, rfl, rfl⟩⟩
    · simp [Value.cells] at hcs
      obtain ⟨rfl, rfl, rfl⟩ := hcs
      exact ⟨zs, .inr ⟨_, rfl, hl, hm, by simpa using hz, hcell, hwz⟩⟩
  clear hA0
  refine (walk a0 len0 cap0 z0 W w0).mono fun e W' ⟨he, bel⟩ => ?_
  subst he
  exact ⟨_, rfl, _, _, _, [], _, [], hW', trodAll_mk1 (shut_bool Tryz.underlying4 _), (trodAll_cons_mk (Below.trod laidOut (by kernel_rfl) (of_decide_eq_true (by kernel_rfl)) kk0 bel lt0) trodAll_mk0), rfl, bel.frame _, fun h => by cases h⟩

set_option maxRecDepth 100000 in
theorem facts : joinedFacts Tryz.prog 4 Tryz.f4 Rows.fnToDiskSpec Rows.fnToDiskRow = true := by
  unfold joinedFacts
  refine Facts.and_t ?_ (by as_aux_lemma => kernel_rfl)
  refine Facts.and_t ?_ (by as_aux_lemma => kernel_rfl)
  refine Facts.and_t ?_ (by as_aux_lemma => kernel_rfl)
  refine Facts.and_t ?_ (by as_aux_lemma => kernel_rfl)
  refine Facts.and_t ?_ (by show (Tryz.prog.make == some Make.cut) = true; rw [Facts.made]; rfl)
  refine Facts.and_t ?_ (by show (false == Tryz.prog.liftsFinal) = true; rw [Facts.lifts]; rfl)
  refine Facts.and_t ?_ (Facts.enters)
  refine Facts.and_t ?_ (Facts.heard)
  refine Facts.and_t ?_ (rfl)
  refine Facts.and_t ?_ (by show (true == Tryz.prog.plainKeys) = true; rw [Facts.keys]; rfl)
  refine Facts.and_t ?_ (by as_aux_lemma => kernel_rfl)
  refine Facts.and_t ?_ (by as_aux_lemma => kernel_rfl)
  refine Facts.and_t ?_ (by as_aux_lemma => kernel_rfl)
  refine Facts.and_t ?_ (by as_aux_lemma => kernel_rfl)
  refine Facts.and_t ?_ (by as_aux_lemma => kernel_rfl)
  refine Facts.and_t ?_ (by as_aux_lemma => kernel_rfl)
  refine Facts.and_t ?_ (by as_aux_lemma => kernel_rfl)
  refine Facts.and_t ?_ (by as_aux_lemma => kernel_rfl)
  refine Facts.and_t ?_ (by as_aux_lemma => kernel_rfl)
  refine Facts.and_t ?_ (by as_aux_lemma => kernel_rfl)
  refine Facts.and_t ?_ (by as_aux_lemma => kernel_rfl)
  refine Facts.and_t ?_ (by as_aux_lemma => kernel_rfl)
  refine Facts.and_t ?_ (by as_aux_lemma => kernel_rfl)
  refine Facts.and_t ?_ (by as_aux_lemma => kernel_rfl)
  refine Facts.and_t ?_ (by as_aux_lemma => kernel_rfl)
  refine Facts.and_t ?_ (by as_aux_lemma => kernel_rfl)
  refine Facts.and_t ?_ (by as_aux_lemma => kernel_rfl)
  refine Facts.and_t ?_ (by as_aux_lemma => kernel_rfl)
  refine Facts.and_t ?_ (by as_aux_lemma => kernel_rfl)
  refine Facts.and_t ?_ (Facts.rowed)
  refine Facts.and_t ?_ (Facts.laidOut)
  kernel_rfl

theorem over : Rows.fnToDiskRow.holds Tryz.pinned (OpenSpec.ofChange Rows.fnToDiskSpec) :=
  OpenClaim.holds_of_wide 4 Tryz.f4 rfl rfl rfl rfl rfl rfl rfl ⟨rfl, rfl, rfl, rfl, rfl⟩ rfl rfl rfl rfl rfl (by kernel_rfl) Tryz.func4 facts
    (of_decide_eq_true (by kernel_rfl)) (by unfold Func.isWrapper; first | (rw [if_pos (by decide +kernel)]; kernel_rfl) | (rw [if_neg (by decide +kernel)]; exact ⟨rfl, rfl⟩))
    (fun os started H enc _ => (lifted os started H enc))

end Go.Proofs.YtbiokmojjneleaaGreat.ToDisk
namespace Go.Proofs.YtbiokmojjneleaaGreat
theorem fnToDisk_holds : Rows.FnToDiskSaid := ToDisk.over
end Go.Proofs.YtbiokmojjneleaaGreat
