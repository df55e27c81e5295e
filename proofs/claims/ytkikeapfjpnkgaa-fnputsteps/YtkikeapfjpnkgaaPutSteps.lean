/-
  One writes last, and wipes just when no page is clean: so it is in a drawn store. The given statement, with no condition.
-/
import Derived.Test.YtkikeapfjpnkgaaPw
import Derived.Test.YtkikeapfjpnkgaaPlE
import Derived.Test.YtkikeapfjpnkgaaImplX
import Derived.Test.YtkikeapfjpnkgaaBaS
import Derived.Test.YtkikeapfjpnkgaaLqM
import Derived.Test.YtkikeapfjpnkgaaFacts
import Derived.Lib.SmallJoins
namespace Go.Proofs.Ytkikeapfjpnkgaa.PutSteps
open Go.ChangeShapes Go.WideShapes Go.ChangeAt Go.RowKit Go.Shelf Go.Joins OkA Big Fl ImplB ImplF ImplS ImplT ImplU SpecA SpecB SpecC SpecD SpecW SpecX SpecF SpecG SpecH FindP FindN FindO FindD ImplW ImplX Pick Draw ClA DrB PlB Pl FindL StA StB StC StD StE StF StG SpS SpT DrS Sv LqI Pw DrF RmA WrA FlA PlA SpU ToA Px NwA Sn9 ImplL Kp DoA FindV LawsE SpecO FindQ
open FlB (FsN)
open StN (SN)
open Facts (own laidOut)
set_option linter.unusedVariables false
set_option linter.unusedSimpArgs false
attribute [local go_sem ↓] Go.wp_at_zero Go.wp_at_succ

structure C8 (w : World) (b : Nat) (l : List Value) : Prop where
  c : CsAt w b l
  p : 0 < l.length
theorem C8.below {w w' : World} {b : Nat} {l : List Value} (h : C8 w b l) (hb : Below w.heap.size w w') : C8 w' b l := ⟨h.c.below hb (CsAt.lt h.c h.p), h.p⟩
theorem st_r {w : World} {sg : Nat} {L : List Stp} (h : StAt w (some ⟨sg, 0, none⟩) L) (hne : L ≠ []) : sg < w.heap.size ∧ w.rangeAt sg 0 (stsC L) := by
  rcases h with q | ⟨g, e, h1, h2⟩
  · exact absurd q hne
  · cases e; exact ⟨h1, h2⟩
theorem stp_q {w : World} {sg : Nat} {L : List Stp} (h : w.rangeAt sg 0 (stsC L)) {n : Nat} {x : Stp} (hx : L[n]? = some x) : w.rangeAt sg (n * 8) (stC x) := by
  obtain ⟨hn, e⟩ := List.getElem?_eq_some_iff.1 hx
  have := stp_at h n hn
  rw [Nat.zero_add, e] at this
  exact this
theorem rng_at {w : World} {b o : Nat} {l : List Value} (h : w.rangeAt b o l) (j : Nat) (v : Value) (hv : l[j]? = some v) : w.cell? ⟨b, o + j, none⟩ = some v := h j v hv
theorem rng_48 {w : World} {b : Nat} {x0 x1 x2 x3 x4 x5 x6 x7 : Value} (h : w.rangeAt b 0 [x0, x1, x2, x3, x4, x5, x6, x7]) : w.rangeAt b 4 [x4, x5, x6, x7] := fun j v hv => by
  have := h (4 + j) v (by rw [show [x0, x1, x2, x3, x4, x5, x6, x7] = [x0, x1, x2, x3] ++ [x4, x5, x6, x7] from rfl, List.getElem?_append_right (by simp)]; simpa using hv)
  rw [Nat.zero_add] at this; exact this
theorem tell_get (bs : List Bk) (ps : List Pg) (i : Nat) (hi : i < ps.length) (h : (liveB bs ps[i] && ps[i].k == 1) = true) : (tellP bs ps)[(tellP bs (ps.take i)).length]? = some (diskS ps[i].a ps[i].v) ∧ (tellP bs (ps.take (i + 1))).length = (tellP bs (ps.take i)).length + 1 := by
  have e : tellP bs ps = tellP bs (ps.take (i + 1)) ++ tellP bs (ps.drop (i + 1)) := by unfold tellP; rw [← List.filterMap_append, List.take_append_drop]
  have e2 := tellP_take bs ps i hi
  rw [if_pos h] at e2
  refine ⟨?_, by rw [e2]; simp⟩
  rw [e, e2, List.append_assoc, List.getElem?_append_right (Nat.le_refl _), Nat.sub_self]; rfl
theorem tell_same (bs : List Bk) (ps : List Pg) (i : Nat) (hi : i < ps.length) (h : (liveB bs ps[i] && ps[i].k == 1) = false) : (tellP bs (ps.take (i + 1))).length = (tellP bs (ps.take i)).length := by
  rw [tellP_take bs ps i hi, h]; simp
theorem lv_eq {bs : List Bk} (hok : okB bs = true) {b i : Nat} (hb : b < bs.length) (hb4 : b < 4) (hi4 : i < 4) (hi : i < bs[b].ps.length) : lvR bs (b : Int) (i : Int) = liveB bs bs[b].ps[i] := by
  unfold lvR pgAt
  have h1 : inB (b : Int) 0 3 = true := by simp [inB]; omega
  have h2 : inB (i : Int) 0 3 = true := by simp [inB]; omega
  rw [hok, h1, h2, Int.toNat_natCast, Int.toNat_natCast, Ok2.getD_in bs b hb, Bool.true_and, Bool.true_and, Bool.true_and]
  rw [List.getD_eq_getElem?_getD, List.getElem?_eq_getElem hi]; rfl
theorem last_q (A : List Stp) (x : Stp) : (A ++ [x])[A.length]? = some x := by simp
theorem open_room {bs : List Bk} : ((openR bs).2 = true → roomL bs = [] ∧ roomB bs = (openR bs).1) ∧ ((openR bs).2 = false → roomL bs = tellP bs (bs.getD (oldN bs 3) zBk).ps ++ [wipeS (oldN bs 3)] ∧ roomB bs = (oldN bs 3 : Nat)) := by
  unfold roomL roomB
  constructor
  · intro h; rw [h]; exact ⟨rfl, rfl⟩
  · intro h; rw [h]; exact ⟨rfl, rfl⟩

set_option maxRecDepth 100000 in
set_option maxHeartbeats 8000000 in
theorem walk (a0 : Option Addr) (len0 cap0 : Nat) (z0 : List Int) (w : World) (h0 : IsRow .u8 w a0 len0 cap0 z0) :
    Calls Try.prog 12 #[.slice a0 len0 cap0] w fun e w' => e = .returned (.bool true) ∧ Below w.heap.size w w' := by
  have HD := hide (drawPut_any w a0 len0 cap0 z0 h0)
  clear h0
  go_enter Try.func12, Try.ntmps12
  by_cases hbig0 : 1048576 < (len0 : Int)
  · go_wp2
    go_ret
    exact ⟨rfl, Below.refl _ _⟩
  go_wp2_with fail
  refine (unhide HD).mono ?_
  rintro e w1 ⟨g, o, c, bs, d, z, dc, dk, ad, vl, rfl, S1, k0, k1, v0, v1, B⟩
  have h4 := S1.fs.four
  have h6 := S1.six
  have hp4 := hide S1.fs.pgs
  have hs := S1.at
  clear HD S1
  generalize (some ⟨g, o, none⟩ : Option Addr) = fa at *
  generalize (some ⟨d, z, none⟩ : Option Addr) = da at *
  have HSS := hide (show (Try.prog.info? 54).map (·.size) = some 2 by kernel_rfl)
  have HS8 := hide (show (Try.prog.info? 60).map (·.size) = some 8 by kernel_rfl)
  have HS4 := hide (show (Try.prog.info? 25).map (·.size) = some 4 by kernel_rfl)
  have HSZ := hide (fun (p : Pg) => (show (Try.prog.info? 33).map (·.size) = some (pgC p).length by rw [len_pgC]; kernel_rfl))
  have HIP := hide (fun (w' : World) (h : SAt w' fa bs da dk) => iPut ad vl (fc := c) (dc := dc) w' h h4 h6)
  have HSP := hide (fun (w' : World) (h : SAt w' fa bs da dk) => sPut ad vl (fc := c) (dc := dc) w' h h4 h6 (unhide hp4))
  have HOP := hide (fun (w' : World) (h : SAt w' fa bs da dk) => implOpen_any fa c bs w' h.fs (by omega))
  have HNX := hide (fun (w' : World) (h : SAt w' fa bs da dk) => implNext_any fa c bs w' h.fs (by omega))
  have HOL := hide (fun (w' : World) (h : SAt w' fa bs da dk) => implOld_any fa c bs w' h.fs (by omega))
  have HLV := hide (fun (i : Int) (w' : World) (h : SAt w' fa bs da dk) => implLive_any fa c ((oldN bs 3 : Nat) : Int) i bs w' h.fs (by omega))
  have HLL := hide (put_len (bs := bs) (dk := dk) ad vl)
  obtain ⟨L, hL⟩ : ∃ x, x = putS bs dk ad vl := ⟨_, rfl⟩
  rw [← hL] at HIP HSP HLL
  have HL := hide hL
  clear hL h4 h6 hp4
  have b : Below w1.heap.size w1 (w1.alloc (.cells #[.slice fa bs.length c, .slice da dk.length dc] 54)) := (Below.refl _ _).alloc (Nat.le_refl _) _
  have bx := Bx.new w1 (.slice fa bs.length c) (.slice da dk.length dc) 54
  replace hs := hs.below b
  replace B := B.trans (b.mono B.size)
  clear b
  have bx0 := bx.c0
  have bx1 := bx.c1
  go_wp2_with fail
  generalize w1.alloc (.cells #[.slice fa bs.length c, .slice da dk.length dc] 54) = v1 at *
  generalize w1.heap.size = bxb at *
  refine (unhide HIP _ hs).mono ?_
  rintro e u2 ⟨la, lc, rfl, l, b⟩
  replace hs := hs.below b
  replace bx := bx.below b
  clear bx0 bx1
  have bx0 := bx.c0
  have bx1 := bx.c1
  replace B := B.trans (b.mono B.size)
  clear b
  go_wp2_with fail
  refine (unhide HSP _ hs).mono ?_
  rintro e u3 ⟨ma, mc, rfl, _, b⟩
  replace hs := hs.below b
  replace l := l.below b
  replace bx := bx.below b
  clear bx0 bx1
  have bx0 := bx.c0
  have bx1 := bx.c1
  replace B := B.trans (b.mono B.size)
  clear b
  by_cases hL0 : L.length = 0
  · have hLi : (L.length : Int) = 0 := by omega
    clear HL HOP HNX HOL HLV
    clear l
    go_wp2_with fail
    refine (unhide HSP _ hs).mono ?_
    rintro e u4 ⟨ma2, mc2, rfl, _, b⟩
    replace hs := hs.below b
    replace bx := bx.below b
    clear bx0 bx1
    have bx0 := bx.c0
    have bx1 := bx.c1
    replace B := B.trans (b.mono B.size)
    clear b
    go_wp2
    go_ret
    exact ⟨rfl, B⟩
  have hne : L ≠ [] := fun q => hL0 (by rw [q]; rfl)
  have hPF := put_form (bs := bs) (dk := dk) (a := ad) (v := vl) (by rw [← unhide HL]; exact hne)
  rw [← unhide HL] at hPF
  obtain ⟨hst, -, -, hLE⟩ := hPF
  have hok := (st_parts hst).1
  rw [fop_ok hok] at HOP
  rw [(next_ok hok).1] at HNX
  obtain ⟨hol, hol4⟩ := old_ok hok
  rw [hol] at HOL
  have hlen : L.length = (roomL bs).length + 1 := by rw [hLE]; simp
  have hLq : L[(roomL bs).length]? = some (writeS (roomB bs) ⟨1, mostB bs + 1, ad, vl⟩) := by rw [hLE]; exact last_q _ _
  have hb4 := ok_len hok
  have HOK := hide hok
  have HRM := hide (open_room (bs := bs))
  clear hst hol hok HL HSP HIP
  obtain ⟨sg, rfl⟩ : ∃ g, la = some ⟨g, 0, none⟩ := by rcases l with q | ⟨g, e, _⟩ <;> first | exact absurd q hne | exact ⟨g, e⟩
  have hrl := stp_q (st_r l hne).2 hLq
  obtain ⟨M, hM⟩ : ∃ M, M = (roomL bs).length := ⟨_, rfl⟩
  rw [← hM] at hrl hlen
  have HM := hide hM
  clear hM hLq
  have hL6 := unhide HLL
  have hMi : (M : Int) < (L.length : Int) := by omega
  have hM0 : (0 : Int) ≤ (M : Int) := by omega
  have hwM : IntKind.i64.wrap ((L.length : Int) - 1) = (M : Int) := by rw [IntKind.wrap_i64] <;> omega
  have hLE9 := hide hLE
  have HNE := hide hne
  have HB4 := hide hb4
  have HLEN := hide hlen
  clear hb4 hlen
  have hLn0 : ((L.length : Int) == 0) = false := by simp; omega
  have hLnn : ((L.length : Int) != (L.length : Int)) = false := by simp
  clear hLE hne HLL
  generalize hrb : roomB bs = rb at *
  generalize hm1 : mostB bs + 1 = m1 at *
  have HRB := hide hrb
  clear hrb hm1
  have b : Below u3.heap.size u3 (u3.alloc (.cells #[.int .i64 3, .int .i64 0, .int .i64 0, .int .i64 rb, .int .i64 1, .int .i64 m1, .int .i64 ad, .int .i64 vl] 60)) := (Below.refl _ _).alloc (Nat.le_refl _) _
  have cl : C8 (u3.alloc (.cells #[.int .i64 3, .int .i64 0, .int .i64 0, .int .i64 rb, .int .i64 1, .int .i64 m1, .int .i64 ad, .int .i64 vl] 60)) u3.heap.size [.int .i64 3, .int .i64 0, .int .i64 0, .int .i64 rb, .int .i64 1, .int .i64 m1, .int .i64 ad, .int .i64 vl] := ⟨CsAt.new u3 [.int .i64 3, .int .i64 0, .int .i64 0, .int .i64 rb, .int .i64 1, .int .i64 m1, .int .i64 ad, .int .i64 vl] 60, by simp⟩
  replace hs := hs.below b
  replace l := l.below b
  replace bx := bx.below b
  clear bx0 bx1
  have bx0 := bx.c0
  have bx1 := bx.c1
  replace B := B.trans (b.mono B.size)
  clear b
  go_wp2_with (refine wpList_load_mid rfl 60 _ rfl sg (M * 8) rfl [.int .i64 3, .int .i64 0, .int .i64 0, .int .i64 rb, .int .i64 1, .int .i64 m1, .int .i64 ad, .int .i64 vl] _ hrl Try.underlying60 rfl (unhide HS8) ?_)
  generalize u3.alloc (.cells #[.int .i64 3, .int .i64 0, .int .i64 0, .int .i64 rb, .int .i64 1, .int .i64 m1, .int .i64 ad, .int .i64 vl] 60) = v4 at *
  generalize u3.heap.size = lb at *
  clear hrl
  refine (unhide HOP _ hs).mono ?_
  rintro e u5 ⟨rfl, b⟩
  replace hs := hs.below b
  replace l := l.below b
  replace cl := cl.below b
  replace bx := bx.below b
  clear bx0 bx1
  have bx0 := bx.c0
  have bx1 := bx.c1
  replace B := B.trans (b.mono B.size)
  clear b
  clear HOP
  have hbl : bxb < u5.heap.size := by have := Fl.cell_lt bx0; simpa using this
  have hll : lb < u5.heap.size := CsAt.lt cl.c cl.p
  have l0 := cl.c.cell 0 _ rfl
  have hnr : ((3 : Int) != 3) = false := rfl
  go_upto_region 10 with fail
  refine wp_region_noPanic ?_
  refine wp_region_held_drew (S := fun w' => Kept [] u5 w') (by kernel_rfl) (Kept.refl _ _).drew (fun hHeld => ?_)
  generalize u5.drew = y0 at *
  have z0 := hHeld.size
  refine takeL 0 (.pointer (some ⟨lb, 0, none⟩)) rfl (by kernel_rfl) (by kernel_rfl) (by kernel_rfl) (fun _ _ _ h => h) (Or.inl ⟨rfl, fun w9 hSw => by go_simp⟩) hHeld ?_
  try simp only [Act.put, List.setIfInBounds_toArray, List.set_cons_zero, List.set_cons_succ]
  refine takeL 1 (.int .i64 3) rfl (by kernel_rfl) (by kernel_rfl) (by kernel_rfl) (fun _ _ _ h => h) (Or.inl ⟨rfl, fun w9 hSw => by have hc := (hSw.cell (b := lb) (0) (by omega) (by simp)).trans l0; go_simp⟩) hHeld ?_
  try simp only [Act.put, List.setIfInBounds_toArray, List.set_cons_zero, List.set_cons_succ]
  refine takeL 2 (.bool false) rfl (by kernel_rfl) (by kernel_rfl) (by kernel_rfl) (fun _ _ _ h => h) (Or.inl ⟨rfl, fun w9 hSw => by go_simp⟩) hHeld ?_
  try simp only [Act.put, List.setIfInBounds_toArray, List.set_cons_zero, List.set_cons_succ]
  refine takeL 3 (.bool false) rfl (by kernel_rfl) (by kernel_rfl) (by kernel_rfl) (fun _ _ _ h => h) (Or.inl ⟨rfl, fun _ _ => rfl⟩) hHeld ?_
  try simp only [Act.put, List.setIfInBounds_toArray, List.set_cons_zero, List.set_cons_succ]
  refine takeL 4 (.pointer (some ⟨lb, 4, none⟩)) rfl (by kernel_rfl) (by kernel_rfl) (by kernel_rfl) (fun _ _ _ h => h) (Or.inl ⟨rfl, fun w9 hSw => by go_simp⟩) hHeld ?_
  try simp only [Act.put, List.setIfInBounds_toArray, List.set_cons_zero, List.set_cons_succ]
  refine takeL 5 (.agg #[.int .i64 1, .int .i64 m1, .int .i64 ad, .int .i64 vl]) rfl (by kernel_rfl) (by kernel_rfl) (by kernel_rfl) (fun _ _ _ h => h) (yieldsIf_load_mid rfl 25 _ rfl lb 4 rfl [.int .i64 1, .int .i64 m1, .int .i64 ad, .int .i64 vl] _ (fun _ h => rng_48 (cl.c.below (Kept.all h (by simp)) (CsAt.lt cl.c cl.p)).cells) Try.underlying25 rfl (unhide HS4)) hHeld ?_
  try simp only [Act.put, List.setIfInBounds_toArray, List.set_cons_zero, List.set_cons_succ]
  refine takeL 6 (.pointer (some ⟨bxb, 0, none⟩)) rfl (by kernel_rfl) (by kernel_rfl) (by kernel_rfl) (fun _ _ _ h => h) (Or.inl ⟨rfl, fun w9 hSw => by go_simp⟩) hHeld ?_
  try simp only [Act.put, List.setIfInBounds_toArray, List.set_cons_zero, List.set_cons_succ]
  refine takeL 7 (.slice fa bs.length c) rfl (by kernel_rfl) (by kernel_rfl) (by kernel_rfl) (fun _ _ _ h => h) (Or.inl ⟨rfl, fun w9 hSw => by have hc := (hSw.cell (b := bxb) (0) (by omega) (by simp)).trans bx0; go_simp⟩) hHeld ?_
  try simp only [Act.put, List.setIfInBounds_toArray, List.set_cons_zero, List.set_cons_succ]
  refine takeL 9 (.int .i64 ad) rfl (by kernel_rfl) (by kernel_rfl) (by kernel_rfl) (fun _ _ _ h => h) (Or.inl ⟨rfl, fun _ _ => rfl⟩) hHeld ?_
  try simp only [Act.put, List.setIfInBounds_toArray, List.set_cons_zero, List.set_cons_succ]
  refine takeL 10 (.int .i64 vl) rfl (by kernel_rfl) (by kernel_rfl) (by kernel_rfl) (fun _ _ _ h => h) (Or.inl ⟨rfl, fun _ _ => rfl⟩) hHeld ?_
  try simp only [Act.put, List.setIfInBounds_toArray, List.set_cons_zero, List.set_cons_succ]
  refine oneL 8 rfl (by kernel_rfl) rfl (fun K hK => ?_)
  go_simp
  refine (unhide HNX _ (hs.below (Kept.all hHeld (by simp)))).mono ?_
  rintro e y1 ⟨rfl, b⟩
  go_wp2_with fail
  refine hK.out _ _ (hHeld.trans (Kept.of b)) (fun hHeld => ?_)
  clear hK K
  try simp only [Act.put, List.setIfInBounds_toArray, List.set_cons_zero, List.set_cons_succ]
  have z1 := b.size
  clear b
  refine takeL 11 (.agg #[.int .i64 1, .int .i64 m1, .int .i64 ad, .int .i64 vl]) rfl (by kernel_rfl) (by kernel_rfl) (by kernel_rfl) (fun _ _ _ h => h) (Or.inl ⟨rfl, fun w9 hSw => by go_simp⟩) hHeld ?_
  try simp only [Act.put, List.setIfInBounds_toArray, List.set_cons_zero, List.set_cons_succ]
  refine takeL 12 (.bool false) rfl (by kernel_rfl) (by kernel_rfl) (by kernel_rfl) (fun _ _ _ h => h) (Or.inl ⟨rfl, fun w9 hSw => by go_simp⟩) hHeld ?_
  try simp only [Act.put, List.setIfInBounds_toArray, List.set_cons_zero, List.set_cons_succ]
  refine takeL 13 (.bool false) rfl (by kernel_rfl) (by kernel_rfl) (by kernel_rfl) (fun _ _ _ h => h) (Or.inl ⟨rfl, fun w9 hSw => by go_simp⟩) hHeld ?_
  try simp only [Act.put, List.setIfInBounds_toArray, List.set_cons_zero, List.set_cons_succ]
  refine wpAnyH_done (by kernel_rfl) ?_ _
  refine NoPanic.normal ?_
  have b := Kept.all hHeld (by simp)
  clear hHeld z0 z1 l0 HNX hbl hll
  replace hs := hs.below b
  replace l := l.below b
  replace cl := cl.below b
  replace bx := bx.below b
  clear bx0 bx1
  have bx0 := bx.c0
  have bx1 := bx.c1
  replace B := B.trans (b.mono B.size)
  clear b
  have l3 := cl.c.cell 3 _ rfl
  generalize hoo : openR bs = O at *
  obtain ⟨ob, oo⟩ := O
  cases oo
  · obtain ⟨hR1, hR2⟩ := (unhide HRM).2 rfl
    obtain rfl : rb = ((oldN bs 3 : Nat) : Int) := hR2
    have hM := unhide HM
    have hLE := unhide hLE9
    rw [hR1] at hM hLE
    clear HRM HRB hR1 hLE9 hoo HM
    have hb4 := unhide HB4
    have hlen := unhide HLEN
    have hodb : oldN bs 3 < bs.length := by omega
    have hps4 : bs[oldN bs 3].ps.length = 4 := (ok_fours (unhide HOK)).at _ hodb
    rw [Ok2.getD_in bs _ hodb] at hM hLE
    have hMT : M = (tellP bs bs[oldN bs 3].ps).length + 1 := by rw [hM]; simp
    have HTI := hide (fun (j : Nat) (x : Stp) (hx : (tellP bs bs[oldN bs 3].ps)[j]? = some x) => (show L[j]? = some x by obtain ⟨hj, e⟩ := List.getElem?_eq_some_iff.1 hx; rw [hLE, List.append_assoc, List.getElem?_append_left hj]; exact hx))
    have HTW := hide (show L[(tellP bs bs[oldN bs 3].ps).length]? = some (wipeS ((oldN bs 3 : Nat) : Int)) by rw [hLE, List.append_assoc, List.getElem?_append_right (Nat.le_refl _), Nat.sub_self]; rfl)
    clear hLE hM
    have hodi : ((oldN bs 3 : Nat) : Int) < (bs.length : Int) := by omega
    have hod0 : (0 : Int) ≤ ((oldN bs 3 : Nat) : Int) := by omega
    obtain ⟨TL, hTL⟩ : ∃ n, n = (tellP bs bs[oldN bs 3].ps).length := ⟨_, rfl⟩
    rw [← hTL] at hMT HTW
    have HTL := hide hTL
    clear hTL
    have hwT : IntKind.i64.wrap ((L.length : Int) - 2) = (TL : Int) := by rw [IntKind.wrap_i64] <;> omega
    have hTi : (TL : Int) < (L.length : Int) := by omega
    have hT0 : (0 : Int) ≤ (TL : Int) := by omega
    clear hb4 hlen hMT
    generalize hod : oldN bs 3 = od at *
    clear hod
    clear l3
    go_wp2_with fail
    refine (unhide HOL _ hs).mono ?_
    rintro e u6 ⟨rfl, b⟩
    replace hs := hs.below b
    replace l := l.below b
    replace cl := cl.below b
    replace bx := bx.below b
    clear bx0 bx1
    have bx0 := bx.c0
    have bx1 := bx.c1
    replace B := B.trans (b.mono B.size)
    clear b
    clear HOL
    have h00 : (tellP bs (bs[od].ps.take 0)).length = 0 := by rw [List.take_zero]; rfl
    go_wp2
    go_loopw [12, 13] (fun q i w' => ∃ j : Nat, j ≤ 4 ∧ q = .int .i64 ((tellP bs (bs[od].ps.take j)).length : Nat) ∧ i = .int .i64 j ∧ Below u6.heap.size u6 w') (fun q i _ => 4 - (intOf i).toNat)
    case atStart => exact ⟨0, by omega, by rw [h00]; rfl, rfl, Below.refl _ _⟩
    case round =>
      obtain ⟨j, hj, rfl, rfl, bw⟩ := hrel
      have b := bw
      replace hs := hs.below b
      replace l := l.below b
      replace cl := cl.below b
      replace bx := bx.below b
      clear bx0 bx1
      have bx0 := bx.c0
      have bx1 := bx.c1
      replace B := B.trans (b.mono B.size)
      clear b
      by_cases h0 : j = 4
      · subst h0
        rw [List.take_of_length_le (by omega), ← unhide HTL]
        have hr := stp_q (st_r l (unhide HNE)).2 (unhide HTW)
        have s0 := rng_at hr 0 (.int .i64 2) rfl
        have s3 := rng_at hr 3 (.int .i64 (od : Int)) rfl
        rw [Nat.add_zero] at s0
        have l3 := cl.c.cell 3 _ rfl
        have hTT : ((TL : Int) == (TL : Int)) = true := by simp
        have hoo : ((od : Int) == (od : Int)) = true := by simp
        clear hr HTI HTW HLV hs l cl bx bx0 bx1 HSZ HTL
        go_wp2
        go_ret
        exact ⟨rfl, B⟩
      have hj4 : j < 4 := by omega
      have hji : (j : Int) < 4 := by omega
      have hj0 : (0 : Int) ≤ (j : Int) := by omega
      have hwj : IntKind.i64.wrap ((j : Int) + 1) = (j : Int) + 1 := by rw [IntKind.wrap_i64] <;> omega
      have hjl : j < bs[od].ps.length := by omega
      obtain ⟨fb, fo, pb, po, pc, ep, cp, -, hrp⟩ := ok_at hs.fs (unhide HOK) od (by omega)
      subst ep
      have hrp2 := range_pg hrp j hjl
      have HTG := hide (tell_get bs bs[od].ps j hjl)
      have HTS := hide (tell_same bs bs[od].ps j hjl)
      have hlv := lv_eq (unhide HOK) hodb (by omega) hj4 hjl
      have HLJ := hide (fun (w' : World) (h : SAt w' (some ⟨fb, fo, none⟩) bs da dk) => unhide HLV (j : Int) w' h)
      rw [hlv] at HLJ
      clear HLV hrp hlv
      have HTI2 := hide (fun (h : (liveB bs bs[od].ps[j] && bs[od].ps[j].k == 1) = true) => unhide HTI _ _ (unhide HTG h).1)
      have HT2 := hide (fun (h : (liveB bs bs[od].ps[j] && bs[od].ps[j].k == 1) = true) => (unhide HTG h).2)
      have HTM := hide (fun (h : (liveB bs bs[od].ps[j] && bs[od].ps[j].k == 1) = true) => (show (tellP bs (bs[od].ps.take j)).length < TL by rw [unhide HTL]; exact (List.getElem?_eq_some_iff.1 (unhide HTG h).1).1))
      have HQL := hide (show (tellP bs (bs[od].ps.take j)).length ≤ 4 by have := tellP_len bs (bs[od].ps.take j); rw [List.length_take] at this; omega)
      clear HTI HTW HTG HTL h00
      obtain ⟨q, hq⟩ : ∃ n, n = (tellP bs (bs[od].ps.take j)).length := ⟨_, rfl⟩
      rw [← hq] at HTI2 HT2 HTS HTM HQL ⊢
      clear hq
      obtain ⟨q2, hq2⟩ : ∃ n, n = (tellP bs (bs[od].ps.take (j + 1))).length := ⟨_, rfl⟩
      rw [← hq2] at HT2 HTS
      have HQ2 := hide hq2
      clear hq2
      generalize hp9 : bs[od].ps[j] = p at *
      generalize hv9 : liveB bs p = lv at *
      clear hv9 hp9 hjl
      have b : Below wr.heap.size wr (wr.alloc (.cells #[.int .i64 p.st, .int .i64 p.k, .int .i64 p.s, .int .i64 p.a, .int .i64 p.v] 33)) := (Below.refl _ _).alloc (Nat.le_refl _) _
      have cpg : C8 (wr.alloc (.cells #[.int .i64 p.st, .int .i64 p.k, .int .i64 p.s, .int .i64 p.a, .int .i64 p.v] 33)) wr.heap.size [.int .i64 p.st, .int .i64 p.k, .int .i64 p.s, .int .i64 p.a, .int .i64 p.v] := ⟨CsAt.new wr [.int .i64 p.st, .int .i64 p.k, .int .i64 p.s, .int .i64 p.a, .int .i64 p.v] 33, by simp⟩
      have bx00 := bx0
      have hsP := hs
      have lP := l
      have bw2 := bw.trans (b.mono bw.size)
      replace hs := hs.below b
      replace l := l.below b
      replace cl := cl.below b
      replace bx := bx.below b
      clear bx0 bx1
      have bx0 := bx.c0
      have bx1 := bx.c1
      replace B := B.trans (b.mono B.size)
      clear b
      go_wp2_with (refine wpList_load_mid rfl 33 _ rfl pb (po + j * 5) rfl [.int .i64 p.st, .int .i64 p.k, .int .i64 p.s, .int .i64 p.a, .int .i64 p.v] _ hrp2 Try.underlying33 rfl (unhide HSZ p) ?_)
      generalize wr.alloc (.cells #[.int .i64 p.st, .int .i64 p.k, .int .i64 p.s, .int .i64 p.a, .int .i64 p.v] 33) = v7 at *
      generalize wr.heap.size = pg at *
      clear hrp2 bx00 hsP lP cp
      refine (unhide HLJ _ hs).mono ?_
      rintro e u8 ⟨rfl, b⟩
      replace bw2 := bw2.trans (b.mono bw2.size)
      clear HLJ bw
      replace hs := hs.below b
      replace l := l.below b
      replace cl := cl.below b
      replace cpg := cpg.below b
      replace bx := bx.below b
      clear bx0 bx1
      have bx0 := bx.c0
      have bx1 := bx.c1
      replace B := B.trans (b.mono B.size)
      clear b
      have p1 := cpg.c.cell 1 _ rfl
      have hQL := unhide HQL
      cases lv
      · have HE : Hid (q2 = q) := unhide HTS rfl
        clear HTI2 HT2 HTS HTM hs l cl bx bx0 bx1 cpg
        go_wp2
        go_roundw
        case rel => exact ⟨j + 1, by omega, by rw [← unhide HQ2, unhide HE]; first | done | rfl | go_num, by first | rfl | go_num, bw2⟩
        case measure => simp [intOf]; omega
      · by_cases hk1 : p.k = 1
        · have hkb : (true && p.k == 1) = true := by rw [hk1]; rfl
          have HE : Hid (q2 = q + 1) := unhide HT2 hkb
          have hqT := unhide HTM hkb
          have hr := stp_q (st_r l (unhide HNE)).2 (unhide HTI2 hkb)
          have s0 := rng_at hr 0 (.int .i64 1) rfl
          have s1 := rng_at hr 1 (.int .i64 p.a) rfl
          have s2 := rng_at hr 2 (.int .i64 p.v) rfl
          rw [Nat.add_zero] at s0
          have hsl := (st_r l (unhide HNE)).1
          have p3 := cpg.c.cell 3 _ rfl
          have p4 := cpg.c.cell 4 _ rfl
          have hpl : pg < u8.heap.size := CsAt.lt cpg.c cpg.p
          rw [hk1] at p1
          clear hr HTI2 HT2 HTS HTM hkb hk1 bx bx0 bx1 hs cl
          have hqi : (q : Int) < (L.length : Int) := by omega
          have hq0 : (0 : Int) ≤ (q : Int) := by omega
          have hqTi : (q : Int) < (TL : Int) := by omega
          have hnq : ¬ (TL : Int) ≤ (q : Int) := by omega
          have hwq : IntKind.i64.wrap ((q : Int) + 1) = (q : Int) + 1 := by rw [IntKind.wrap_i64] <;> omega
          have h11 : ((1 : Int) != 1) = false := rfl
          have haa : (p.a != p.a) = false := by simp
          have hvv : (p.v != p.v) = false := by simp
          go_upto_region 21 with fail
          refine wp_region_noPanic ?_
          refine wp_region_held_drew (S := fun w' => Kept [] u8 w') (by kernel_rfl) (Kept.refl _ _).drew (fun hHeld => ?_)
          generalize u8.drew = y0 at *
          have z0 := hHeld.size
          refine takeL 0 (.int .i64 (q : Int)) rfl (by kernel_rfl) (by kernel_rfl) (by kernel_rfl) (fun _ _ _ h => h) (Or.inl ⟨rfl, fun _ _ => rfl⟩) hHeld ?_
          try simp only [Act.put, List.setIfInBounds_toArray, List.set_cons_zero, List.set_cons_succ]
          refine takeL 1 (.int .i64 (L.length : Int)) rfl (by kernel_rfl) (by kernel_rfl) (by kernel_rfl) (fun _ _ _ h => h) (Or.inl ⟨rfl, fun _ _ => rfl⟩) hHeld ?_
          try simp only [Act.put, List.setIfInBounds_toArray, List.set_cons_zero, List.set_cons_succ]
          refine takeL 2 (.int .i64 (TL : Int)) rfl (by kernel_rfl) (by kernel_rfl) (by kernel_rfl) (fun _ _ _ h => h) (Or.inl ⟨rfl, fun w9 hSw => by go_simp⟩) hHeld ?_
          try simp only [Act.put, List.setIfInBounds_toArray, List.set_cons_zero, List.set_cons_succ]
          refine takeL 3 (.bool false) rfl (by kernel_rfl) (by kernel_rfl) (by kernel_rfl) (fun _ _ _ h => h) (Or.inl ⟨rfl, fun w9 hSw => by go_simp⟩) hHeld ?_
          try simp only [Act.put, List.setIfInBounds_toArray, List.set_cons_zero, List.set_cons_succ]
          refine takeL 4 (.bool false) rfl (by kernel_rfl) (by kernel_rfl) (by kernel_rfl) (fun _ _ _ h => h) (Or.inl ⟨rfl, fun _ _ => rfl⟩) hHeld ?_
          try simp only [Act.put, List.setIfInBounds_toArray, List.set_cons_zero, List.set_cons_succ]
          refine takeL 5 (.slice (some ⟨sg, 0, none⟩) L.length lc) rfl (by kernel_rfl) (by kernel_rfl) (by kernel_rfl) (fun _ _ _ h => h) (Or.inl ⟨rfl, fun _ _ => rfl⟩) hHeld ?_
          try simp only [Act.put, List.setIfInBounds_toArray, List.set_cons_zero, List.set_cons_succ]
          refine takeL 6 (.int .i64 (q : Int)) rfl (by kernel_rfl) (by kernel_rfl) (by kernel_rfl) (fun _ _ _ h => h) (Or.inl ⟨rfl, fun _ _ => rfl⟩) hHeld ?_
          try simp only [Act.put, List.setIfInBounds_toArray, List.set_cons_zero, List.set_cons_succ]
          refine takeL 7 (.pointer (some ⟨sg, q * 8, none⟩)) rfl (by kernel_rfl) (by kernel_rfl) (by kernel_rfl) (fun _ _ _ h => h) (Or.inl ⟨rfl, fun w9 hSw => by go_simp⟩) hHeld ?_
          try simp only [Act.put, List.setIfInBounds_toArray, List.set_cons_zero, List.set_cons_succ]
          refine takeL 8 (.pointer (some ⟨sg, q * 8, none⟩)) rfl (by kernel_rfl) (by kernel_rfl) (by kernel_rfl) (fun _ _ _ h => h) (Or.inl ⟨rfl, fun w9 hSw => by go_simp⟩) hHeld ?_
          try simp only [Act.put, List.setIfInBounds_toArray, List.set_cons_zero, List.set_cons_succ]
          refine takeL 9 (.int .i64 1) rfl (by kernel_rfl) (by kernel_rfl) (by kernel_rfl) (fun _ _ _ h => h) (Or.inl ⟨rfl, fun w9 hSw => by have hc := (hSw.cell (b := sg) (q * 8) (by omega) (by simp)).trans s0; go_simp⟩) hHeld ?_
          try simp only [Act.put, List.setIfInBounds_toArray, List.set_cons_zero, List.set_cons_succ]
          refine takeL 10 (.bool false) rfl (by kernel_rfl) (by kernel_rfl) (by kernel_rfl) (fun _ _ _ h => h) (Or.inl ⟨rfl, fun w9 hSw => by go_simp⟩) hHeld ?_
          try simp only [Act.put, List.setIfInBounds_toArray, List.set_cons_zero, List.set_cons_succ]
          refine takeL 11 (.bool false) rfl (by kernel_rfl) (by kernel_rfl) (by kernel_rfl) (fun _ _ _ h => h) (Or.inl ⟨rfl, fun w9 hSw => by go_simp⟩) hHeld ?_
          try simp only [Act.put, List.setIfInBounds_toArray, List.set_cons_zero, List.set_cons_succ]
          refine takeL 12 (.bool false) rfl (by kernel_rfl) (by kernel_rfl) (by kernel_rfl) (fun _ _ _ h => h) (Or.inl ⟨rfl, fun _ _ => rfl⟩) hHeld ?_
          try simp only [Act.put, List.setIfInBounds_toArray, List.set_cons_zero, List.set_cons_succ]
          refine takeL 13 (.slice (some ⟨sg, 0, none⟩) L.length lc) rfl (by kernel_rfl) (by kernel_rfl) (by kernel_rfl) (fun _ _ _ h => h) (Or.inl ⟨rfl, fun _ _ => rfl⟩) hHeld ?_
          try simp only [Act.put, List.setIfInBounds_toArray, List.set_cons_zero, List.set_cons_succ]
          refine takeL 14 (.int .i64 (q : Int)) rfl (by kernel_rfl) (by kernel_rfl) (by kernel_rfl) (fun _ _ _ h => h) (Or.inl ⟨rfl, fun _ _ => rfl⟩) hHeld ?_
          try simp only [Act.put, List.setIfInBounds_toArray, List.set_cons_zero, List.set_cons_succ]
          refine takeL 15 (.pointer (some ⟨sg, q * 8, none⟩)) rfl (by kernel_rfl) (by kernel_rfl) (by kernel_rfl) (fun _ _ _ h => h) (Or.inl ⟨rfl, fun w9 hSw => by go_simp⟩) hHeld ?_
          try simp only [Act.put, List.setIfInBounds_toArray, List.set_cons_zero, List.set_cons_succ]
          refine takeL 16 (.pointer (some ⟨sg, q * 8 + 1, none⟩)) rfl (by kernel_rfl) (by kernel_rfl) (by kernel_rfl) (fun _ _ _ h => h) (Or.inl ⟨rfl, fun w9 hSw => by go_simp⟩) hHeld ?_
          try simp only [Act.put, List.setIfInBounds_toArray, List.set_cons_zero, List.set_cons_succ]
          refine takeL 17 (.int .i64 p.a) rfl (by kernel_rfl) (by kernel_rfl) (by kernel_rfl) (fun _ _ _ h => h) (Or.inl ⟨rfl, fun w9 hSw => by have hc := (hSw.cell (b := sg) (q * 8 + 1) (by omega) (by simp)).trans s1; go_simp⟩) hHeld ?_
          try simp only [Act.put, List.setIfInBounds_toArray, List.set_cons_zero, List.set_cons_succ]
          refine takeL 18 (.pointer (some ⟨pg, 1, none⟩)) rfl (by kernel_rfl) (by kernel_rfl) (by kernel_rfl) (fun _ _ _ h => h) (Or.inl ⟨rfl, fun w9 hSw => by go_simp⟩) hHeld ?_
          try simp only [Act.put, List.setIfInBounds_toArray, List.set_cons_zero, List.set_cons_succ]
          refine takeL 19 (.pointer (some ⟨pg, 3, none⟩)) rfl (by kernel_rfl) (by kernel_rfl) (by kernel_rfl) (fun _ _ _ h => h) (Or.inl ⟨rfl, fun w9 hSw => by go_simp⟩) hHeld ?_
          try simp only [Act.put, List.setIfInBounds_toArray, List.set_cons_zero, List.set_cons_succ]
          refine takeL 20 (.int .i64 p.a) rfl (by kernel_rfl) (by kernel_rfl) (by kernel_rfl) (fun _ _ _ h => h) (Or.inl ⟨rfl, fun w9 hSw => by have hc := (hSw.cell (b := pg) (3) (by omega) (by simp)).trans p3; go_simp⟩) hHeld ?_
          try simp only [Act.put, List.setIfInBounds_toArray, List.set_cons_zero, List.set_cons_succ]
          refine takeL 21 (.bool false) rfl (by kernel_rfl) (by kernel_rfl) (by kernel_rfl) (fun _ _ _ h => h) (Or.inl ⟨rfl, fun w9 hSw => by go_simp⟩) hHeld ?_
          try simp only [Act.put, List.setIfInBounds_toArray, List.set_cons_zero, List.set_cons_succ]
          refine takeL 22 (.bool false) rfl (by kernel_rfl) (by kernel_rfl) (by kernel_rfl) (fun _ _ _ h => h) (Or.inl ⟨rfl, fun w9 hSw => by go_simp⟩) hHeld ?_
          try simp only [Act.put, List.setIfInBounds_toArray, List.set_cons_zero, List.set_cons_succ]
          refine takeL 23 (.bool false) rfl (by kernel_rfl) (by kernel_rfl) (by kernel_rfl) (fun _ _ _ h => h) (Or.inl ⟨rfl, fun _ _ => rfl⟩) hHeld ?_
          try simp only [Act.put, List.setIfInBounds_toArray, List.set_cons_zero, List.set_cons_succ]
          refine takeL 24 (.slice (some ⟨sg, 0, none⟩) L.length lc) rfl (by kernel_rfl) (by kernel_rfl) (by kernel_rfl) (fun _ _ _ h => h) (Or.inl ⟨rfl, fun _ _ => rfl⟩) hHeld ?_
          try simp only [Act.put, List.setIfInBounds_toArray, List.set_cons_zero, List.set_cons_succ]
          refine takeL 25 (.int .i64 (q : Int)) rfl (by kernel_rfl) (by kernel_rfl) (by kernel_rfl) (fun _ _ _ h => h) (Or.inl ⟨rfl, fun _ _ => rfl⟩) hHeld ?_
          try simp only [Act.put, List.setIfInBounds_toArray, List.set_cons_zero, List.set_cons_succ]
          refine takeL 26 (.pointer (some ⟨sg, q * 8, none⟩)) rfl (by kernel_rfl) (by kernel_rfl) (by kernel_rfl) (fun _ _ _ h => h) (Or.inl ⟨rfl, fun w9 hSw => by go_simp⟩) hHeld ?_
          try simp only [Act.put, List.setIfInBounds_toArray, List.set_cons_zero, List.set_cons_succ]
          refine takeL 27 (.pointer (some ⟨sg, q * 8 + 2, none⟩)) rfl (by kernel_rfl) (by kernel_rfl) (by kernel_rfl) (fun _ _ _ h => h) (Or.inl ⟨rfl, fun w9 hSw => by go_simp⟩) hHeld ?_
          try simp only [Act.put, List.setIfInBounds_toArray, List.set_cons_zero, List.set_cons_succ]
          refine takeL 28 (.int .i64 p.v) rfl (by kernel_rfl) (by kernel_rfl) (by kernel_rfl) (fun _ _ _ h => h) (Or.inl ⟨rfl, fun w9 hSw => by have hc := (hSw.cell (b := sg) (q * 8 + 2) (by omega) (by simp)).trans s2; go_simp⟩) hHeld ?_
          try simp only [Act.put, List.setIfInBounds_toArray, List.set_cons_zero, List.set_cons_succ]
          refine takeL 29 (.pointer (some ⟨pg, 1, none⟩)) rfl (by kernel_rfl) (by kernel_rfl) (by kernel_rfl) (fun _ _ _ h => h) (Or.inl ⟨rfl, fun w9 hSw => by go_simp⟩) hHeld ?_
          try simp only [Act.put, List.setIfInBounds_toArray, List.set_cons_zero, List.set_cons_succ]
          refine takeL 30 (.pointer (some ⟨pg, 4, none⟩)) rfl (by kernel_rfl) (by kernel_rfl) (by kernel_rfl) (fun _ _ _ h => h) (Or.inl ⟨rfl, fun w9 hSw => by go_simp⟩) hHeld ?_
          try simp only [Act.put, List.setIfInBounds_toArray, List.set_cons_zero, List.set_cons_succ]
          refine takeL 31 (.int .i64 p.v) rfl (by kernel_rfl) (by kernel_rfl) (by kernel_rfl) (fun _ _ _ h => h) (Or.inl ⟨rfl, fun w9 hSw => by have hc := (hSw.cell (b := pg) (4) (by omega) (by simp)).trans p4; go_simp⟩) hHeld ?_
          try simp only [Act.put, List.setIfInBounds_toArray, List.set_cons_zero, List.set_cons_succ]
          refine takeL 32 (.bool false) rfl (by kernel_rfl) (by kernel_rfl) (by kernel_rfl) (fun _ _ _ h => h) (Or.inl ⟨rfl, fun w9 hSw => by go_simp⟩) hHeld ?_
          try simp only [Act.put, List.setIfInBounds_toArray, List.set_cons_zero, List.set_cons_succ]
          refine takeL 33 (.bool false) rfl (by kernel_rfl) (by kernel_rfl) (by kernel_rfl) (fun _ _ _ h => h) (Or.inl ⟨rfl, fun w9 hSw => by go_simp⟩) hHeld ?_
          try simp only [Act.put, List.setIfInBounds_toArray, List.set_cons_zero, List.set_cons_succ]
          refine wpAnyH_done (by kernel_rfl) ?_ _
          refine NoPanic.normal ?_
          replace bw2 := bw2.trans ((Kept.all hHeld (by simp)).mono bw2.size)
          clear hHeld
          go_wp2
          go_roundw
          case rel => exact ⟨j + 1, by omega, by rw [← unhide HQ2, unhide HE]; first | done | rfl | go_num, by first | rfl | go_num, bw2⟩
          case measure => simp [intOf]; omega
        · have hkb : (p.k == 1) = false := by simpa using hk1
          have HE : Hid (q2 = q) := unhide HTS (by rw [hkb]; rfl)
          clear HTI2 HT2 HTS HTM hs l cl bx bx0 bx1 cpg hk1
          go_wp2
          go_roundw
          case rel => exact ⟨j + 1, by omega, by rw [← unhide HQ2, unhide HE]; first | done | rfl | go_num, by first | rfl | go_num, bw2⟩
          case measure => simp [intOf]; omega
  · obtain ⟨hR1, hR2⟩ := (unhide HRM).1 rfl
    have hM := unhide HM
    rw [hR1] at hM
    obtain rfl : rb = ob := hR2
    have hL1 : L.length = 1 := by rw [unhide HLEN, hM]; rfl
    have hLb : ((L.length : Int) == 1) = true := by rw [hL1]; rfl
    have hrr : (rb == rb) = true := by simp
    clear HRM HRB hR1 hLE9 hoo HM hM hL1 HOL HLV hs l cl bx bx0 bx1
    go_wp2
    go_ret
    exact ⟨rfl, B⟩


set_option maxRecDepth 100000 in
theorem lifted (os : Os) (started : os.Started) (H : Type) (enc : TypeId × Value → H) :
    ReturnsInHanded {} Try.checked os 12 .any (Rows.fnPutStepsSpec.pre6 enc Try.prog Try.f12 Rows.fnPutStepsRow.domain false) (Rows.fnPutStepsSpec.post enc Try.prog Try.f12 false true false false) := by
  refine returnsInHanded_of_change (C := Try.checked) own started (by kernel_rfl) Try.func12
    (ChangeSpec.witness6 (enc := enc) (C := Try.checked) false ⟨#[], #[.slice none 0 0], []⟩ 8 (by kernel_rfl) (by kernel_rfl) (by kernel_rfl) (by kernel_rfl)) ?_
  intro W base args ds gs before hval0 hW hcnd _
  have hval : ∀ (j : Nat) t v, Try.f12.params[j]? = some t → args[j]? = some v → Value.okWide Try.prog W .any base t v := hval0
  have hW' := hW
  obtain ⟨p, q, hA0, hV, rfl, hfz, hnd⟩ := hW
  have hA : DataW.TrodAll enc Try.prog W 0 (fun _ => true) true Try.f12.params.toList args.toList ds p := hA0
  rw [Try.params12] at hA hval
  obtain ⟨v0, vs0, d0, ds0, p0, q0, hargs, rfl, rfl, h0, r0⟩ := trodAll_cons hA
  obtain ⟨rfl, rfl, rfl⟩ := trodAll_nil r0
  obtain rfl : args = #[v0] := by cases args; simp_all
  obtain ⟨rfl, rfl⟩ := trodVars_none hV
  have kk0 := h0
  have lt0 : ∀ x ∈ p0, x.block < W.heap.size := by obtain ⟨m, hm⟩ := kk0; exact DataW.trod_lt m _ _ _ hm
  obtain ⟨a0, len0, cap0, rfl⟩ := okWide_slice Try.underlying22 (hval 0 22 v0 rfl rfl)
  obtain ⟨z0, w0⟩ : ∃ zs, IsRow .u8 W a0 len0 cap0 zs := by
    obtain ⟨fuel, hf⟩ := h0
    rcases open_ints Try.underlying22 Try.underlying5 (by kernel_rfl) hf with ⟨hcs, _⟩ | ⟨x, l, c, zs, hcs, _, hl, hm, hz, _, hcell, hwz⟩
    · simp [Value.cells] at hcs
      obtain ⟨rfl, rfl, rfl⟩ := hcs
      exact ⟨[], .inl ⟨rfl, rfl, rfl, rfl⟩⟩
    · simp [Value.cells] at hcs
      obtain ⟨rfl, rfl, rfl⟩ := hcs
      exact ⟨zs, .inr ⟨_, rfl, hl, hm, by simpa using hz, hcell, hwz⟩⟩
  clear hA0
  refine (walk a0 len0 cap0 z0 W w0).mono fun e W' ⟨he, bel⟩ => ?_
  subst he
  exact ⟨_, rfl, _, _, _, [], _, [], hW', trodAll_mk1 (shut_bool Try.underlying4 _), (trodAll_cons_mk (Below.trod laidOut (by kernel_rfl) (of_decide_eq_true (by kernel_rfl)) kk0 bel lt0) trodAll_mk0), rfl, bel.frame _, fun h => by cases h⟩

set_option maxRecDepth 100000 in
theorem facts : joinedFacts Try.prog 12 Try.f12 Rows.fnPutStepsSpec Rows.fnPutStepsRow = true := by
  unfold joinedFacts
  refine Facts.and_t ?_ (by as_aux_lemma => kernel_rfl)
  refine Facts.and_t ?_ (by as_aux_lemma => kernel_rfl)
  refine Facts.and_t ?_ (by as_aux_lemma => kernel_rfl)
  refine Facts.and_t ?_ (by as_aux_lemma => kernel_rfl)
  refine Facts.and_t ?_ (by show (Try.prog.make == some Make.cut) = true; rw [Facts.made]; rfl)
  refine Facts.and_t ?_ (by show (false == Try.prog.liftsFinal) = true; rw [Facts.lifts]; rfl)
  refine Facts.and_t ?_ (Facts.enters)
  refine Facts.and_t ?_ (Facts.heard)
  refine Facts.and_t ?_ (rfl)
  refine Facts.and_t ?_ (by show (true == Try.prog.plainKeys) = true; rw [Facts.keys]; rfl)
  refine Facts.and_t ?_ (by as_aux_lemma => kernel_rfl)
  refine Facts.and_t ?_ (by as_aux_lemma => kernel_rfl)
  refine Facts.and_t ?_ (by as_aux_lemma => kernel_rfl)
  refine Facts.and_t ?_ (by as_aux_lemma => kernel_rfl)
  refine Facts.and_t ?_ (by as_aux_lemma => kernel_rfl)
  refine Facts.and_t ?_ (by as_aux_lemma => kernel_rfl)
  refine Facts.and_t ?_ (by as_aux_lemma => kernel_rfl)
  refine Facts.and_t ?_ (by as_aux_lemma => kernel_rfl)
  refine Facts.and_t ?_ (by as_aux_lemma => kernel_rfl)
  refine Facts.and_t ?_ (by as_aux_lemma => kernel_rfl)
  refine Facts.and_t ?_ (by as_aux_lemma => kernel_rfl)
  refine Facts.and_t ?_ (by as_aux_lemma => kernel_rfl)
  refine Facts.and_t ?_ (by as_aux_lemma => kernel_rfl)
  refine Facts.and_t ?_ (by as_aux_lemma => kernel_rfl)
  refine Facts.and_t ?_ (by as_aux_lemma => kernel_rfl)
  refine Facts.and_t ?_ (by as_aux_lemma => kernel_rfl)
  refine Facts.and_t ?_ (by as_aux_lemma => kernel_rfl)
  refine Facts.and_t ?_ (by as_aux_lemma => kernel_rfl)
  refine Facts.and_t ?_ (by as_aux_lemma => kernel_rfl)
  refine Facts.and_t ?_ (Facts.rowed)
  refine Facts.and_t ?_ (Facts.laidOut)
  kernel_rfl

theorem over : Rows.fnPutStepsRow.holds Try.pinned (OpenSpec.ofChange Rows.fnPutStepsSpec) :=
  OpenClaim.holds_of_wide 12 Try.f12 rfl rfl rfl rfl rfl rfl rfl ⟨rfl, rfl, rfl, rfl, rfl⟩ rfl rfl rfl rfl rfl (by kernel_rfl) Try.func12 facts
    (of_decide_eq_true (by kernel_rfl)) (by unfold Func.isWrapper; first | (rw [if_pos (by decide +kernel)]; kernel_rfl) | (rw [if_neg (by decide +kernel)]; exact ⟨rfl, rfl⟩))
    (fun os started H enc _ => (lifted os started H enc))

end Go.Proofs.Ytkikeapfjpnkgaa.PutSteps
namespace Go.Proofs.Ytkikeapfjpnkgaa
theorem fnPutSteps_holds : Rows.FnPutStepsSaid := PutSteps.over
end Go.Proofs.Ytkikeapfjpnkgaa
