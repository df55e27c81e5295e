/-
  Texts that belong together, one behind the other: Pw, DrG, Pv.
-/
import Derived.Test.YtogfelpdgeionaaGreatHbT
import Derived.Test.YtogfelpdgeionaaGreatHbU
import Derived.Test.YtogfelpdgeionaaGreatHbD
import Derived.Test.YtogfelpdgeionaaGreatHbL
import Derived.Test.YtogfelpdgeionaaGreatHbR
import Derived.Test.YtogfelpdgeionaaGreatHbQ
import Derived.Test.YtogfelpdgeionaaGreatHbP

/-
  What is put, and flushed, step by step, as the laws ask it; plain facts of these steps.
-/
namespace Go.Proofs.YtogfelpdgeionaaGreat.Pw
open Go.ChangeShapes Go.WideShapes Go.ChangeAt Go.RowKit Go.Shelf OkA Big Fl ImplB ImplF ImplS ImplT ImplU SpecA SpecB SpecC SpecD SpecW SpecF SpecG SpecH FindP ImplL FindN FindL FindD FindO Pl Kp StA StB StC StD StE StF StG SpS SpT Sv RmA WrA FlA PlA PlB SpU TwC
set_option linter.unusedVariables false
set_option linter.unusedSimpArgs false

/-- A list of steps lies there. -/
def StAt (w : World) (a : Option Addr) (l : List Stp) : Prop := l = [] ∨ ∃ g, a = some ⟨g, 0, none⟩ ∧ g < w.heap.size ∧ w.rangeAt g 0 (stsC l)
theorem StAt.below {w w' : World} {a : Option Addr} {l : List Stp} (h : StAt w a l) (b : Below w.heap.size w w') : StAt w' a l := by
  rcases h with h | ⟨g, rfl, h1, h2⟩
  · exact .inl h
  · exact .inr ⟨g, rfl, Nat.lt_of_lt_of_le h1 b.size, rangeAt_below h2 b h1⟩
def SlPost (w : World) (l : List Stp) (e : Ending) (w' : World) : Prop := ∃ a cap, e = .returned (.slice a l.length cap) ∧ StAt w' a l ∧ Below w.heap.size w w'
theorem slForm {w : World} {l : List Stp} {e : Ending} {w' : World} (h : StpPost w l e w') : SlPost w l e w' := by
  obtain ⟨v, rfl, hs, b⟩ := h
  obtain ⟨a, cap, rfl, h2⟩ := stsForm hs
  refine ⟨a, cap, rfl, ?_, b⟩
  rcases h2 with h2 | ⟨g, rfl, _, h3, h4⟩
  · exact .inl h2
  · exact .inr ⟨g, rfl, h3, h4⟩
variable {fa da : Option Addr} {fc dc : Nat} {bs : List Bk} {dk : List Int}
theorem iPut (k v : Int) (w : World) (h : SAt w fa bs da dk) (h4 : bs.length ≤ 4) (h6 : dk.length ≤ 6) :
    Calls Tryz.prog 26 #[.agg #[.slice fa bs.length fc, .slice da dk.length dc], .int .i64 k, .int .i64 v] w fun e w' => SlPost w (putS bs dk k v) e w' := (implPut_any fa fc bs da dc dk k v w h (by omega) (by omega)).mono fun _ _ q => slForm q
theorem sPut (k v : Int) (w : World) (h : SAt w fa bs da dk) (h4 : bs.length ≤ 4) (h6 : dk.length ≤ 6) (hp : ∀ b ∈ bs, b.ps.length ≤ 4) :
    Calls Tryz.prog 27 #[.agg #[.slice fa bs.length fc, .slice da dk.length dc], .int .i64 k, .int .i64 v] w fun e w' => SlPost w (putS bs dk k v) e w' := (specPut_any fa fc bs da dc dk k v w h (by omega) (fun b hb => by have := hp b hb; omega) (by omega)).mono fun _ _ q => slForm q
theorem iFlush (k : Int) (hk0 : -1000 ≤ k) (hk1 : k ≤ 1000) (w : World) (h : SAt w fa bs da dk) (h4 : bs.length ≤ 4) (h6 : dk.length ≤ 6) :
    Calls Tryz.prog 34 #[.agg #[.slice fa bs.length fc, .slice da dk.length dc], .int .i64 k] w fun e w' => SlPost w (flushS bs dk k) e w' := (implFlush_any fa fc bs da dc dk k (by omega) (by omega) w h (by omega) (by omega)).mono fun _ _ q => slForm q
theorem sFlush (k : Int) (w : World) (h : SAt w fa bs da dk) (h4 : bs.length ≤ 4) (h6 : dk.length ≤ 6) (hp : ∀ b ∈ bs, b.ps.length ≤ 4) :
    Calls Tryz.prog 35 #[.agg #[.slice fa bs.length fc, .slice da dk.length dc], .int .i64 k] w fun e w' => SlPost w (flushS bs dk k) e w' := (specFlush_any fa fc bs da dc dk k w h (by omega) (fun b hb => by have := hp b hb; omega) (by omega)).mono fun _ _ q => slForm q
/-- How many of the first j steps wipe. -/
def wpN (l : List Stp) (j : Nat) : Nat := ((l.take j).filter fun x => x.kind == 2).length
theorem wpN_succ (l : List Stp) (j : Nat) (hj : j < l.length) : wpN l (j + 1) = wpN l j + if l[j].kind = 2 then 1 else 0 := by
  unfold wpN
  rw [List.take_succ_eq_append_getElem hj, List.filter_append, List.length_append]
  by_cases e : l[j].kind = 2
  · rw [if_pos e]; simp [e]
  · rw [if_neg e]; simp [e]
theorem wpN_le (l : List Stp) (j : Nat) : wpN l j ≤ j := by
  unfold wpN
  refine Nat.le_trans (List.length_filter_le _ _) ?_
  rw [List.length_take]; omega
theorem put_form {a v : Int} (hne : putS bs dk a v ≠ []) : stB bs dk = true ∧ roomO bs = true ∧ recB 1 (mostB bs + 1) a v = true ∧ putS bs dk a v = roomL bs ++ [writeS (roomB bs) ⟨1, mostB bs + 1, a, v⟩] := by
  unfold putS at hne ⊢
  cases hs : stB bs dk
  · rw [hs] at hne; exact absurd rfl hne
  rw [hs] at hne
  rw [if_pos rfl] at hne ⊢
  unfold writeP at hne ⊢
  cases hc : roomO bs && recB 1 (mostB bs + 1) a v
  · rw [hc] at hne; exact absurd rfl hne
  · rw [Bool.and_eq_true] at hc
    exact ⟨rfl, hc.1, hc.2, rfl⟩
theorem tell_kind (ps : List Pg) : ∀ x ∈ tellP bs ps, x.kind = 1 := fun x hx => by
  unfold tellP at hx
  rw [List.mem_filterMap] at hx
  obtain ⟨p, _, e⟩ := hx
  split at e
  · simp at e; subst e; rfl
  · cases e
theorem put_wipes {a v : Int} (hne : putS bs dk a v ≠ []) : ((putS bs dk a v).length = 1 ↔ wpN (putS bs dk a v) (putS bs dk a v).length = 0) ∧ wpN (putS bs dk a v) (putS bs dk a v).length ≤ 1 := by
  obtain ⟨_, _, _, e⟩ := put_form hne
  rw [e]
  unfold wpN
  rw [List.take_length]
  unfold roomL
  split
  · simp [writeS]
  · have h0 : ((tellP bs (bs.getD (oldB bs) zBk).ps).filter fun x => x.kind == 2) = [] := List.filter_eq_nil_iff.2 fun x hx => by rw [tell_kind _ x hx]; decide
    rw [List.filter_append, List.filter_append, h0]
    simp [writeS, wipeS]
theorem put_len (a v : Int) : (putS bs dk a v).length ≤ 6 := by
  unfold putS
  cases hs : stB bs dk
  · simp
  · have hok := (st_parts hs).1
    rw [if_pos rfl]
    unfold writeP
    split
    · have := roomL_len bs (ok_fours hok) (ok_len hok)
      rw [List.length_append]; simp; omega
    · simp
theorem flush_len (a : Int) : (flushS bs dk a).length ≤ 7 := by
  unfold flushS
  cases hs : stB bs dk
  · simp
  · exact flushP_len bs dk a (st_parts hs).1
theorem put_can {a v : Int} (hs : stB bs dk = true) (h1 : 1 ≤ a) (h6 : a ≤ 6) (h0 : 0 ≤ v) (h9 : v ≤ 9) : decide (0 < (putS bs dk a v).length) = (decide (nextR bs ≤ 600) && ((fopR bs).2 || decide ((bs.getD (oldN bs 3) zBk).wn < 200))) := by
  have hok := (st_parts hs).1
  obtain ⟨e, n1, _⟩ := next_ok hok
  have hr : recB 1 (mostB bs + 1) a v = decide (nextR bs ≤ 600) := by
    rw [← e]
    rw [Bool.eq_iff_iff, decide_eq_true_iff]
    simp [recB, numB, inB]
    omega
  unfold putS
  rw [if_pos hs]
  unfold writeP
  rw [hr, fop_ok hok]
  have ho : roomO bs = ((openR bs).2 || decide ((bs.getD (oldN bs 3) zBk).wn < 200)) := rfl
  rw [← ho]
  cases roomO bs <;> cases decide (nextR bs ≤ 600) <;> simp
end Go.Proofs.YtogfelpdgeionaaGreat.Pw

/-
  A flush that is drawn: a store and an address.
-/
namespace Go.Proofs.YtogfelpdgeionaaGreat.DrG
open Go.ChangeShapes Go.WideShapes Go.ChangeAt Go.RowKit Go.Shelf Big Fl ImplF ImplL Kp StA RmA DoA AlA DpA NwA Pick Draw EvA ImplB ImplS ImplU SpecC SpecD SpecW ImplW PyA FlB ClA DrB StB StD StG SpS SpT StN Fu Sv
set_option linter.unusedVariables false
set_option linter.unusedSimpArgs false
attribute [local go_sem ↓] Go.wp_at_zero Go.wp_at_succ

def DgPost (w : World) (e : Ending) (w' : World) : Prop := ∃ g o c bs d z dc dk k, e = .returned (.tuple #[.agg #[.slice (some ⟨g, o, none⟩) bs.length c, .slice (some ⟨d, z, none⟩) dk.length dc], .int .i64 k]) ∧ SN w.heap.size w' g o bs d z dk ∧ 1 ≤ k ∧ k ≤ 12 ∧ Below w.heap.size w w'
theorem dy_rng (bs : List Bk) (dk : List Int) : ∀ x ∈ dyS bs dk, 1 ≤ x ∧ x ≤ 6 := fun x hx => by
  unfold dyS at hx
  split at hx
  · unfold dyK at hx
    have := (List.mem_filter.1 hx).1
    simp at this
    omega
  · simp at hx
theorem dy_le6 (bs : List Bk) (dk : List Int) : (dyS bs dk).length ≤ 6 := by
  unfold dyS
  split
  · exact dyK_len bs 6
  · simp
set_option maxRecDepth 100000 in
set_option maxHeartbeats 4000000 in
theorem drawFlush_any (w : World) (a : Option Addr) (len cap : Nat) (zs : List Int) (h : IsRow .u8 w a len cap zs) :
    Calls Tryz.prog 33 #[.slice a len cap] w fun e w' => DgPost w e w' := by
  have bA : Below w.heap.size w (w.alloc (.cells #[.slice none 0 0, .slice none 0 0] 26)) := (Below.refl _ _).alloc (Nat.le_refl _) _
  have cZ := CsAt.new w [.slice none 0 0, .slice none 0 0] 26
  have hsz : w.heap.size < (w.alloc (.cells #[.slice none 0 0, .slice none 0 0] 26)).heap.size := by simp
  have HO := hide (open_any _ a len cap zs (isRow_below h bA))
  have HSS := hide (show (Tryz.prog.info? 26).map (·.size) = some 2 by kernel_rfl)
  clear h
  go_enter Tryz.func33, Tryz.ntmps33
  go_wp2_with fail
  generalize w.alloc (.cells #[.slice none 0 0, .slice none 0 0] 26) = wA at *
  refine (unhide HO).mono ?_
  rintro e w1 ⟨rfl, len', hl', hrow, d1⟩
  have hlt := d1.lt
  clear HO
  go_wp2_with fail
  refine (full_any wA wA w1 wA.heap.size a len' cap 0 hrow hl' d1 (by omega) (by omega)).mono ?_
  rintro e w2 ⟨g, o, c, bs, d, z, dc, dk, p', rfl, S2, hp0, hp1, d2, k2⟩
  generalize hrb : wA.heap.size = rb at *
  generalize hlo : w1.heap.size = lo at *
  have cR2 := csAt_kept cZ (L := []) (Kept.of d2.bel) (by omega) (by simp)
  have sz2 := k2.size
  have bB : Below w2.heap.size w2 (w2.alloc (.cells #[.slice (some ⟨g, o, none⟩) bs.length c, .slice (some ⟨d, z, none⟩) dk.length dc] 26)) := (Below.refl _ _).alloc (Nat.le_refl _) _
  have cB := CsAt.new w2 [.slice (some ⟨g, o, none⟩) bs.length c, .slice (some ⟨d, z, none⟩) dk.length dc] 26
  have d3 := d2.alloc (.cells #[.slice (some ⟨g, o, none⟩) bs.length c, .slice (some ⟨d, z, none⟩) dk.length dc] 26)
  have S3 := S2.below bB
  have cR3 := csAt_kept cR2 (L := []) (Kept.of bB) (by omega) (by simp)
  have sz3 : (w2.alloc (.cells #[.slice (some ⟨g, o, none⟩) bs.length c, .slice (some ⟨d, z, none⟩) dk.length dc] 26)).heap.size = w2.heap.size + 1 := by simp
  have h4 := S2.fs.four
  have h6 := S2.six
  have hp4 := hide S2.fs.pgs
  have y0 := cB.cell 0 _ rfl
  have y1 := cB.cell 1 _ rfl
  clear d1 d2 k2 S2 cR2 bB
  go_wp2_with fail
  generalize hsb : w2.heap.size = sb at *
  generalize w2.alloc (.cells #[.slice (some ⟨g, o, none⟩) bs.length c, .slice (some ⟨d, z, none⟩) dk.length dc] 26) = w3 at *
  refine (sDirty (fc := c) (dc := dc) w3 S3.at h4 h6 (unhide hp4)).mono ?_
  rintro e w4 ⟨lv, rfl, hN, b⟩
  have HRG := hide (dy_rng bs dk)
  have hL6 := dy_le6 bs dk
  have S4 := S3.below b
  have cR4 := csAt_kept cR3 (L := []) (Kept.of b) (by omega) (by simp)
  have cB4 := csAt_kept cB (L := []) (Kept.of b) (by omega) (by simp)
  have d4 := rd_kept d3 (L := []) (Kept.of b) (by simp)
  have s4 : sb + 1 ≤ w4.heap.size := by have := b.size; omega
  clear S3 cR3 cB d3 y0 y1 b
  have cB := cB4
  have y0 := cB.cell 0 _ rfl
  have y1 := cB.cell 1 _ rfl
  clear cB4
  generalize dyS bs dk = L at *
  rcases hN with ⟨rfl, la, lc, rfl⟩ | ⟨lg, lc, rfl, l0, l1, cL⟩
  · go_upto_region 6 with fail
    refine wp_region_noPanic ?_
    refine wp_region_held_drew (S := fun w' => Kept [rb, w.heap.size] w4 w') (by kernel_rfl) ((Kept.refl _ _).drew) (fun hHeld => ?_)
    refine takeL 0 (.agg #[.slice (some ⟨g, o, none⟩) bs.length c, .slice (some ⟨d, z, none⟩) dk.length dc]) rfl (by kernel_rfl) (by kernel_rfl) (by kernel_rfl) (fun _ _ _ h => h) (yieldsIf_load_mid rfl 26 _ rfl sb 0 rfl [.slice (some ⟨g, o, none⟩) bs.length c, .slice (some ⟨d, z, none⟩) dk.length dc] _ (fun _ h => (csAt_kept cB h (by omega) (by simp; omega)).cells) Tryz.underlying26 rfl (unhide HSS)) hHeld ?_
    try simp only [Act.put, List.setIfInBounds_toArray, List.set_cons_zero, List.set_cons_succ]
    refine takeL 1 (.pointer (some ⟨rb, 0, none⟩)) rfl (by kernel_rfl) (by kernel_rfl) (by kernel_rfl) (fun _ _ _ h => h) (Or.inl ⟨rfl, fun _ _ => rfl⟩) hHeld ?_
    try simp only [Act.put, List.setIfInBounds_toArray, List.set_cons_zero, List.set_cons_succ]
    refine takeL 4 (.pointer (some ⟨rb, 0, none⟩)) rfl (by kernel_rfl) (by kernel_rfl) (by kernel_rfl) (fun _ _ _ h => h) (Or.inl ⟨rfl, fun _ _ => rfl⟩) hHeld ?_
    try simp only [Act.put, List.setIfInBounds_toArray, List.set_cons_zero, List.set_cons_succ]
    have S5 := S4.kept (L := []) (Kept.refl [] w4).drew (by simp)
    have cR5 := csAt_kept cR4 (L := []) (Kept.refl [] w4).drew (by omega) (by simp)
    have d5 := d4.drew
    have s5 : sb + 1 ≤ w4.drew.heap.size := s4
    generalize w4.drew = w5 at *
    refine oneL 2 rfl (by kernel_rfl) rfl (fun K hK => ?_)
    go_simp
    refine (pick_k wA wA _ rb a len' cap (p') 6 hrow hl' d5 (by omega) (by omega) (by omega) (by omega)).mono ?_
    rintro e w6 ⟨r, rfl, r0, r1, d6, m⟩
    go_wp2_with fail
    refine hK.out _ _ (hHeld.trans (m.sub (fun x hx => by simp at hx; simp [hx]))) (fun hHeld => ?_)
    clear hK K
    try simp only [Act.put, List.setIfInBounds_toArray, List.set_cons_zero, List.set_cons_succ]
    have S6 := S5.kept m (fun x hx => by simp at hx; omega)
    have cR6 := csAt_kept cR5 m (by omega) (by simp; omega)
    have s6 := Nat.le_trans s5 m.size
    clear m
    refine takeL 3 (.int .i64 (1 + r)) rfl (by kernel_rfl) (by kernel_rfl) (by kernel_rfl) (fun _ _ _ h => h) (Or.inl ⟨rfl, fun w9 hSw => by have hw := (show IntKind.i64.wrap (1 + r) = 1 + r from (by rw [IntKind.wrap_i64] <;> omega)); go_simp⟩) hHeld ?_
    try simp only [Act.put, List.setIfInBounds_toArray, List.set_cons_zero, List.set_cons_succ]
    refine oneL 5 rfl (by kernel_rfl) rfl (fun K hK => ?_)
    go_simp
    refine (pick_k wA wA _ rb a len' cap (p' + 1) 24 hrow hl' d6 (by omega) (by omega) (by omega) (by omega)).mono ?_
    rintro e w7 ⟨s, rfl, s0, s1, d7, m⟩
    go_wp2_with fail
    refine hK.out _ _ (hHeld.trans (m.sub (fun x hx => by simp at hx; simp [hx]))) (fun hHeld => ?_)
    clear hK K
    try simp only [Act.put, List.setIfInBounds_toArray, List.set_cons_zero, List.set_cons_succ]
    have S7 := S6.kept m (fun x hx => by simp at hx; omega)
    have cR7 := csAt_kept cR6 m (by omega) (by simp; omega)
    have s7 := Nat.le_trans s6 m.size
    clear m
    obtain ⟨q, hq, hqq⟩ : ∃ q : Int, s.tdiv 23 = q ∧ (q = 0 ∨ q = 1) := ⟨_, rfl, by
      by_cases e : s = 23
      · subst e; right; rfl
      · left; exact Int.tdiv_eq_zero_of_lt s0 (by omega)⟩
    have hq' : s / 23 = q := by rw [← hq, Int.tdiv_eq_ediv_of_nonneg s0]
    have hw0 : IntKind.i64.wrap q = q := by rw [IntKind.wrap_i64] <;> omega
    have hw1 : IntKind.i64.wrap (q * 6) = q * 6 := by rw [IntKind.wrap_i64] <;> omega
    have hw2 : IntKind.i64.wrap (1 + r + q * 6) = 1 + r + q * 6 := by rw [IntKind.wrap_i64] <;> omega
    refine takeL 6 (.int .i64 q) rfl (by kernel_rfl) (by kernel_rfl) (by kernel_rfl) (fun _ _ _ h => h) (Or.inl ⟨rfl, fun w9 hSw => by go_simp⟩) hHeld ?_
    try simp only [Act.put, List.setIfInBounds_toArray, List.set_cons_zero, List.set_cons_succ]
    refine takeL 7 (.int .i64 (q * 6)) rfl (by kernel_rfl) (by kernel_rfl) (by kernel_rfl) (fun _ _ _ h => h) (Or.inl ⟨rfl, fun w9 hSw => by go_simp⟩) hHeld ?_
    try simp only [Act.put, List.setIfInBounds_toArray, List.set_cons_zero, List.set_cons_succ]
    refine takeL 8 (.int .i64 (1 + r + q * 6)) rfl (by kernel_rfl) (by kernel_rfl) (by kernel_rfl) (fun _ _ _ h => h) (Or.inl ⟨rfl, fun w9 hSw => by go_simp⟩) hHeld ?_
    try simp only [Act.put, List.setIfInBounds_toArray, List.set_cons_zero, List.set_cons_succ]
    have pt := cR7.put [.slice (some ⟨g, o, none⟩) bs.length c, .slice (some ⟨d, z, none⟩) dk.length dc] rfl
    have kz := kept_cells w7 w.heap.size 0 [.slice (some ⟨g, o, none⟩) bs.length c, .slice (some ⟨d, z, none⟩) dk.length dc]
    refine oneL 9 rfl (by kernel_rfl) rfl (fun K hK => ?_)
    refine wp_store_mid 26 _ _ rfl w.heap.size 0 [.slice (some ⟨g, o, none⟩) bs.length c, .slice (some ⟨d, z, none⟩) dk.length dc].toArray rfl rfl cR7.free (unhide HSS) (by kernel_rfl) ?_
    refine hK.out _ _ (hHeld.trans (kz.sub (fun x hx => by simp at hx; simp [hx]))) (fun hHeld => ?_)
    clear hK K
    try simp only [Act.put, List.setIfInBounds_toArray, List.set_cons_zero, List.set_cons_succ]
    refine takeL 10 (.int .i64 (1 + r + q * 6)) rfl (by kernel_rfl) (by kernel_rfl) (by kernel_rfl) (fun _ _ _ h => h) (Or.inl ⟨rfl, fun _ _ => rfl⟩) hHeld ?_
    try simp only [Act.put, List.setIfInBounds_toArray, List.set_cons_zero, List.set_cons_succ]
    refine wpAnyH_done (by kernel_rfl) ?_ _
    refine NoPanic.normal ?_
    have b9 := d7.bel
    have B9 := bA.trans (b9.mono bA.size)
    have SZ := SN.mono (S7.kept kz (fun x hx => by simp at hx; omega)) (show w.heap.size ≤ lo by omega)
    have BZ := ((Kept.of (L := []) B9).setCells (b := w.heap.size) (.inr (Nat.le_refl _)) 0 [.slice (some ⟨g, o, none⟩) bs.length c, .slice (some ⟨d, z, none⟩) dk.length dc]).all (by simp)
    clear hHeld
    go_wp2
    refine bodyPost_ret (res_cell_tmp Tryz.results33 _ _ w.heap.size [.slice (some ⟨g, o, none⟩) bs.length c, .slice (some ⟨d, z, none⟩) dk.length dc] _ rfl pt.cells Tryz.underlying26 rfl (by kernel_rfl)) rfl ?_
    exact ⟨g, o, c, bs, d, z, dc, dk, 1 + r + q * 6, rfl, SZ, by omega, by omega, BZ⟩
  by_cases hL0 : L.length = 0
  · have hLi : (L.length : Int) = 0 := by omega
    have hLb : ¬ (0 : Int) < (L.length : Int) := by omega
    go_upto_region 6 with fail
    refine wp_region_noPanic ?_
    refine wp_region_held_drew (S := fun w' => Kept [rb, w.heap.size] w4 w') (by kernel_rfl) ((Kept.refl _ _).drew) (fun hHeld => ?_)
    refine takeL 0 (.agg #[.slice (some ⟨g, o, none⟩) bs.length c, .slice (some ⟨d, z, none⟩) dk.length dc]) rfl (by kernel_rfl) (by kernel_rfl) (by kernel_rfl) (fun _ _ _ h => h) (yieldsIf_load_mid rfl 26 _ rfl sb 0 rfl [.slice (some ⟨g, o, none⟩) bs.length c, .slice (some ⟨d, z, none⟩) dk.length dc] _ (fun _ h => (csAt_kept cB h (by omega) (by simp; omega)).cells) Tryz.underlying26 rfl (unhide HSS)) hHeld ?_
    try simp only [Act.put, List.setIfInBounds_toArray, List.set_cons_zero, List.set_cons_succ]
    refine takeL 1 (.pointer (some ⟨rb, 0, none⟩)) rfl (by kernel_rfl) (by kernel_rfl) (by kernel_rfl) (fun _ _ _ h => h) (Or.inl ⟨rfl, fun _ _ => rfl⟩) hHeld ?_
    try simp only [Act.put, List.setIfInBounds_toArray, List.set_cons_zero, List.set_cons_succ]
    refine takeL 4 (.pointer (some ⟨rb, 0, none⟩)) rfl (by kernel_rfl) (by kernel_rfl) (by kernel_rfl) (fun _ _ _ h => h) (Or.inl ⟨rfl, fun _ _ => rfl⟩) hHeld ?_
    try simp only [Act.put, List.setIfInBounds_toArray, List.set_cons_zero, List.set_cons_succ]
    have S5 := S4.kept (L := []) (Kept.refl [] w4).drew (by simp)
    have cR5 := csAt_kept cR4 (L := []) (Kept.refl [] w4).drew (by omega) (by simp)
    have d5 := d4.drew
    have s5 : sb + 1 ≤ w4.drew.heap.size := s4
    generalize w4.drew = w5 at *
    refine oneL 2 rfl (by kernel_rfl) rfl (fun K hK => ?_)
    go_simp
    refine (pick_k wA wA _ rb a len' cap (p') 6 hrow hl' d5 (by omega) (by omega) (by omega) (by omega)).mono ?_
    rintro e w6 ⟨r, rfl, r0, r1, d6, m⟩
    go_wp2_with fail
    refine hK.out _ _ (hHeld.trans (m.sub (fun x hx => by simp at hx; simp [hx]))) (fun hHeld => ?_)
    clear hK K
    try simp only [Act.put, List.setIfInBounds_toArray, List.set_cons_zero, List.set_cons_succ]
    have S6 := S5.kept m (fun x hx => by simp at hx; omega)
    have cR6 := csAt_kept cR5 m (by omega) (by simp; omega)
    have s6 := Nat.le_trans s5 m.size
    clear m
    refine takeL 3 (.int .i64 (1 + r)) rfl (by kernel_rfl) (by kernel_rfl) (by kernel_rfl) (fun _ _ _ h => h) (Or.inl ⟨rfl, fun w9 hSw => by have hw := (show IntKind.i64.wrap (1 + r) = 1 + r from (by rw [IntKind.wrap_i64] <;> omega)); go_simp⟩) hHeld ?_
    try simp only [Act.put, List.setIfInBounds_toArray, List.set_cons_zero, List.set_cons_succ]
    refine oneL 5 rfl (by kernel_rfl) rfl (fun K hK => ?_)
    go_simp
    refine (pick_k wA wA _ rb a len' cap (p' + 1) 24 hrow hl' d6 (by omega) (by omega) (by omega) (by omega)).mono ?_
    rintro e w7 ⟨s, rfl, s0, s1, d7, m⟩
    go_wp2_with fail
    refine hK.out _ _ (hHeld.trans (m.sub (fun x hx => by simp at hx; simp [hx]))) (fun hHeld => ?_)
    clear hK K
    try simp only [Act.put, List.setIfInBounds_toArray, List.set_cons_zero, List.set_cons_succ]
    have S7 := S6.kept m (fun x hx => by simp at hx; omega)
    have cR7 := csAt_kept cR6 m (by omega) (by simp; omega)
    have s7 := Nat.le_trans s6 m.size
    clear m
    obtain ⟨q, hq, hqq⟩ : ∃ q : Int, s.tdiv 23 = q ∧ (q = 0 ∨ q = 1) := ⟨_, rfl, by
      by_cases e : s = 23
      · subst e; right; rfl
      · left; exact Int.tdiv_eq_zero_of_lt s0 (by omega)⟩
    have hq' : s / 23 = q := by rw [← hq, Int.tdiv_eq_ediv_of_nonneg s0]
    have hw0 : IntKind.i64.wrap q = q := by rw [IntKind.wrap_i64] <;> omega
    have hw1 : IntKind.i64.wrap (q * 6) = q * 6 := by rw [IntKind.wrap_i64] <;> omega
    have hw2 : IntKind.i64.wrap (1 + r + q * 6) = 1 + r + q * 6 := by rw [IntKind.wrap_i64] <;> omega
    refine takeL 6 (.int .i64 q) rfl (by kernel_rfl) (by kernel_rfl) (by kernel_rfl) (fun _ _ _ h => h) (Or.inl ⟨rfl, fun w9 hSw => by go_simp⟩) hHeld ?_
    try simp only [Act.put, List.setIfInBounds_toArray, List.set_cons_zero, List.set_cons_succ]
    refine takeL 7 (.int .i64 (q * 6)) rfl (by kernel_rfl) (by kernel_rfl) (by kernel_rfl) (fun _ _ _ h => h) (Or.inl ⟨rfl, fun w9 hSw => by go_simp⟩) hHeld ?_
    try simp only [Act.put, List.setIfInBounds_toArray, List.set_cons_zero, List.set_cons_succ]
    refine takeL 8 (.int .i64 (1 + r + q * 6)) rfl (by kernel_rfl) (by kernel_rfl) (by kernel_rfl) (fun _ _ _ h => h) (Or.inl ⟨rfl, fun w9 hSw => by go_simp⟩) hHeld ?_
    try simp only [Act.put, List.setIfInBounds_toArray, List.set_cons_zero, List.set_cons_succ]
    have pt := cR7.put [.slice (some ⟨g, o, none⟩) bs.length c, .slice (some ⟨d, z, none⟩) dk.length dc] rfl
    have kz := kept_cells w7 w.heap.size 0 [.slice (some ⟨g, o, none⟩) bs.length c, .slice (some ⟨d, z, none⟩) dk.length dc]
    refine oneL 9 rfl (by kernel_rfl) rfl (fun K hK => ?_)
    refine wp_store_mid 26 _ _ rfl w.heap.size 0 [.slice (some ⟨g, o, none⟩) bs.length c, .slice (some ⟨d, z, none⟩) dk.length dc].toArray rfl rfl cR7.free (unhide HSS) (by kernel_rfl) ?_
    refine hK.out _ _ (hHeld.trans (kz.sub (fun x hx => by simp at hx; simp [hx]))) (fun hHeld => ?_)
    clear hK K
    try simp only [Act.put, List.setIfInBounds_toArray, List.set_cons_zero, List.set_cons_succ]
    refine takeL 10 (.int .i64 (1 + r + q * 6)) rfl (by kernel_rfl) (by kernel_rfl) (by kernel_rfl) (fun _ _ _ h => h) (Or.inl ⟨rfl, fun _ _ => rfl⟩) hHeld ?_
    try simp only [Act.put, List.setIfInBounds_toArray, List.set_cons_zero, List.set_cons_succ]
    refine wpAnyH_done (by kernel_rfl) ?_ _
    refine NoPanic.normal ?_
    have b9 := d7.bel
    have B9 := bA.trans (b9.mono bA.size)
    have SZ := SN.mono (S7.kept kz (fun x hx => by simp at hx; omega)) (show w.heap.size ≤ lo by omega)
    have BZ := ((Kept.of (L := []) B9).setCells (b := w.heap.size) (.inr (Nat.le_refl _)) 0 [.slice (some ⟨g, o, none⟩) bs.length c, .slice (some ⟨d, z, none⟩) dk.length dc]).all (by simp)
    clear hHeld
    go_wp2
    refine bodyPost_ret (res_cell_tmp Tryz.results33 _ _ w.heap.size [.slice (some ⟨g, o, none⟩) bs.length c, .slice (some ⟨d, z, none⟩) dk.length dc] _ rfl pt.cells Tryz.underlying26 rfl (by kernel_rfl)) rfl ?_
    exact ⟨g, o, c, bs, d, z, dc, dk, 1 + r + q * 6, rfl, SZ, by omega, by omega, BZ⟩
  have hLb : (0 : Int) < (L.length : Int) := by omega
  go_wp2_with fail
  refine (pick_k wA wA w4 rb a len' cap p' 6 hrow hl' d4 (by omega) (by omega) (by omega) (by omega)).mono ?_
  rintro e w5 ⟨t, rfl, t0, t1, d5, m⟩
  have S5 := S4.kept m (fun x hx => by simp at hx; omega)
  have cR5 := csAt_kept cR4 m (by omega) (by simp; omega)
  have cB5 := csAt_kept cB m (by omega) (by simp; omega)
  have cL5 := csAt_kept cL m (by omega) (by simp; omega)
  have s5 := Nat.le_trans s4 m.size
  have hlg := Nat.lt_of_lt_of_le l1 m.size
  clear S4 cR4 cB d4 cL y0 y1 m
  have cB := cB5
  have cL := cL5
  have y0 := cB.cell 0 _ rfl
  have y1 := cB.cell 1 _ rfl
  clear cB5 cL5
  by_cases ht : t = 0
  · subst ht
    go_upto_region 6 with fail
    refine wp_region_noPanic ?_
    refine wp_region_held_drew (S := fun w' => Kept [rb, w.heap.size] w5 w') (by kernel_rfl) ((Kept.refl _ _).drew) (fun hHeld => ?_)
    refine takeL 0 (.agg #[.slice (some ⟨g, o, none⟩) bs.length c, .slice (some ⟨d, z, none⟩) dk.length dc]) rfl (by kernel_rfl) (by kernel_rfl) (by kernel_rfl) (fun _ _ _ h => h) (yieldsIf_load_mid rfl 26 _ rfl sb 0 rfl [.slice (some ⟨g, o, none⟩) bs.length c, .slice (some ⟨d, z, none⟩) dk.length dc] _ (fun _ h => (csAt_kept cB h (by omega) (by simp; omega)).cells) Tryz.underlying26 rfl (unhide HSS)) hHeld ?_
    try simp only [Act.put, List.setIfInBounds_toArray, List.set_cons_zero, List.set_cons_succ]
    refine takeL 1 (.pointer (some ⟨rb, 0, none⟩)) rfl (by kernel_rfl) (by kernel_rfl) (by kernel_rfl) (fun _ _ _ h => h) (Or.inl ⟨rfl, fun _ _ => rfl⟩) hHeld ?_
    try simp only [Act.put, List.setIfInBounds_toArray, List.set_cons_zero, List.set_cons_succ]
    refine takeL 4 (.pointer (some ⟨rb, 0, none⟩)) rfl (by kernel_rfl) (by kernel_rfl) (by kernel_rfl) (fun _ _ _ h => h) (Or.inl ⟨rfl, fun _ _ => rfl⟩) hHeld ?_
    try simp only [Act.put, List.setIfInBounds_toArray, List.set_cons_zero, List.set_cons_succ]
    have S6 := S5.kept (L := []) (Kept.refl [] w5).drew (by simp)
    have cR6 := csAt_kept cR5 (L := []) (Kept.refl [] w5).drew (by omega) (by simp)
    have d6 := d5.drew
    have s6 : sb + 1 ≤ w5.drew.heap.size := s5
    generalize w5.drew = w6 at *
    refine oneL 2 rfl (by kernel_rfl) rfl (fun K hK => ?_)
    go_simp
    refine (pick_k wA wA _ rb a len' cap (p' + 1) 6 hrow hl' d6 (by omega) (by omega) (by omega) (by omega)).mono ?_
    rintro e w7 ⟨r, rfl, r0, r1, d7, m⟩
    go_wp2_with fail
    refine hK.out _ _ (hHeld.trans (m.sub (fun x hx => by simp at hx; simp [hx]))) (fun hHeld => ?_)
    clear hK K
    try simp only [Act.put, List.setIfInBounds_toArray, List.set_cons_zero, List.set_cons_succ]
    have S7 := S6.kept m (fun x hx => by simp at hx; omega)
    have cR7 := csAt_kept cR6 m (by omega) (by simp; omega)
    have s7 := Nat.le_trans s6 m.size
    clear m
    refine takeL 3 (.int .i64 (1 + r)) rfl (by kernel_rfl) (by kernel_rfl) (by kernel_rfl) (fun _ _ _ h => h) (Or.inl ⟨rfl, fun w9 hSw => by have hw := (show IntKind.i64.wrap (1 + r) = 1 + r from (by rw [IntKind.wrap_i64] <;> omega)); go_simp⟩) hHeld ?_
    try simp only [Act.put, List.setIfInBounds_toArray, List.set_cons_zero, List.set_cons_succ]
    refine oneL 5 rfl (by kernel_rfl) rfl (fun K hK => ?_)
    go_simp
    refine (pick_k wA wA _ rb a len' cap (p' + 1 + 1) 24 hrow hl' d7 (by omega) (by omega) (by omega) (by omega)).mono ?_
    rintro e w8 ⟨s, rfl, s0, s1, d8, m⟩
    go_wp2_with fail
    refine hK.out _ _ (hHeld.trans (m.sub (fun x hx => by simp at hx; simp [hx]))) (fun hHeld => ?_)
    clear hK K
    try simp only [Act.put, List.setIfInBounds_toArray, List.set_cons_zero, List.set_cons_succ]
    have S8 := S7.kept m (fun x hx => by simp at hx; omega)
    have cR8 := csAt_kept cR7 m (by omega) (by simp; omega)
    have s8 := Nat.le_trans s7 m.size
    clear m
    obtain ⟨q, hq, hqq⟩ : ∃ q : Int, s.tdiv 23 = q ∧ (q = 0 ∨ q = 1) := ⟨_, rfl, by
      by_cases e : s = 23
      · subst e; right; rfl
      · left; exact Int.tdiv_eq_zero_of_lt s0 (by omega)⟩
    have hq' : s / 23 = q := by rw [← hq, Int.tdiv_eq_ediv_of_nonneg s0]
    have hw0 : IntKind.i64.wrap q = q := by rw [IntKind.wrap_i64] <;> omega
    have hw1 : IntKind.i64.wrap (q * 6) = q * 6 := by rw [IntKind.wrap_i64] <;> omega
    have hw2 : IntKind.i64.wrap (1 + r + q * 6) = 1 + r + q * 6 := by rw [IntKind.wrap_i64] <;> omega
    refine takeL 6 (.int .i64 q) rfl (by kernel_rfl) (by kernel_rfl) (by kernel_rfl) (fun _ _ _ h => h) (Or.inl ⟨rfl, fun w9 hSw => by go_simp⟩) hHeld ?_
    try simp only [Act.put, List.setIfInBounds_toArray, List.set_cons_zero, List.set_cons_succ]
    refine takeL 7 (.int .i64 (q * 6)) rfl (by kernel_rfl) (by kernel_rfl) (by kernel_rfl) (fun _ _ _ h => h) (Or.inl ⟨rfl, fun w9 hSw => by go_simp⟩) hHeld ?_
    try simp only [Act.put, List.setIfInBounds_toArray, List.set_cons_zero, List.set_cons_succ]
    refine takeL 8 (.int .i64 (1 + r + q * 6)) rfl (by kernel_rfl) (by kernel_rfl) (by kernel_rfl) (fun _ _ _ h => h) (Or.inl ⟨rfl, fun w9 hSw => by go_simp⟩) hHeld ?_
    try simp only [Act.put, List.setIfInBounds_toArray, List.set_cons_zero, List.set_cons_succ]
    have pt := cR8.put [.slice (some ⟨g, o, none⟩) bs.length c, .slice (some ⟨d, z, none⟩) dk.length dc] rfl
    have kz := kept_cells w8 w.heap.size 0 [.slice (some ⟨g, o, none⟩) bs.length c, .slice (some ⟨d, z, none⟩) dk.length dc]
    refine oneL 9 rfl (by kernel_rfl) rfl (fun K hK => ?_)
    refine wp_store_mid 26 _ _ rfl w.heap.size 0 [.slice (some ⟨g, o, none⟩) bs.length c, .slice (some ⟨d, z, none⟩) dk.length dc].toArray rfl rfl cR8.free (unhide HSS) (by kernel_rfl) ?_
    refine hK.out _ _ (hHeld.trans (kz.sub (fun x hx => by simp at hx; simp [hx]))) (fun hHeld => ?_)
    clear hK K
    try simp only [Act.put, List.setIfInBounds_toArray, List.set_cons_zero, List.set_cons_succ]
    refine takeL 10 (.int .i64 (1 + r + q * 6)) rfl (by kernel_rfl) (by kernel_rfl) (by kernel_rfl) (fun _ _ _ h => h) (Or.inl ⟨rfl, fun _ _ => rfl⟩) hHeld ?_
    try simp only [Act.put, List.setIfInBounds_toArray, List.set_cons_zero, List.set_cons_succ]
    refine wpAnyH_done (by kernel_rfl) ?_ _
    refine NoPanic.normal ?_
    have b9 := d8.bel
    have B9 := bA.trans (b9.mono bA.size)
    have SZ := SN.mono (S8.kept kz (fun x hx => by simp at hx; omega)) (show w.heap.size ≤ lo by omega)
    have BZ := ((Kept.of (L := []) B9).setCells (b := w.heap.size) (.inr (Nat.le_refl _)) 0 [.slice (some ⟨g, o, none⟩) bs.length c, .slice (some ⟨d, z, none⟩) dk.length dc]).all (by simp)
    clear hHeld
    go_wp2
    refine bodyPost_ret (res_cell_tmp Tryz.results33 _ _ w.heap.size [.slice (some ⟨g, o, none⟩) bs.length c, .slice (some ⟨d, z, none⟩) dk.length dc] _ rfl pt.cells Tryz.underlying26 rfl (by kernel_rfl)) rfl ?_
    exact ⟨g, o, c, bs, d, z, dc, dk, 1 + r + q * 6, rfl, SZ, by omega, by omega, BZ⟩
  have htp : 0 < t := by omega
  go_upto_region 5 with fail
  refine wp_region_noPanic ?_
  refine wp_region_held_drew (S := fun w' => Kept [rb, w.heap.size] w5 w') (by kernel_rfl) ((Kept.refl _ _).drew) (fun hHeld => ?_)
  refine takeL 0 (.agg #[.slice (some ⟨g, o, none⟩) bs.length c, .slice (some ⟨d, z, none⟩) dk.length dc]) rfl (by kernel_rfl) (by kernel_rfl) (by kernel_rfl) (fun _ _ _ h => h) (yieldsIf_load_mid rfl 26 _ rfl sb 0 rfl [.slice (some ⟨g, o, none⟩) bs.length c, .slice (some ⟨d, z, none⟩) dk.length dc] _ (fun _ h => (csAt_kept cB h (by omega) (by simp; omega)).cells) Tryz.underlying26 rfl (unhide HSS)) hHeld ?_
  try simp only [Act.put, List.setIfInBounds_toArray, List.set_cons_zero, List.set_cons_succ]
  refine takeL 1 (.slice (some ⟨lg, 0, none⟩) L.length lc) rfl (by kernel_rfl) (by kernel_rfl) (by kernel_rfl) (fun _ _ _ h => h) (Or.inl ⟨rfl, fun _ _ => rfl⟩) hHeld ?_
  try simp only [Act.put, List.setIfInBounds_toArray, List.set_cons_zero, List.set_cons_succ]
  refine takeL 2 (.pointer (some ⟨rb, 0, none⟩)) rfl (by kernel_rfl) (by kernel_rfl) (by kernel_rfl) (fun _ _ _ h => h) (Or.inl ⟨rfl, fun _ _ => rfl⟩) hHeld ?_
  try simp only [Act.put, List.setIfInBounds_toArray, List.set_cons_zero, List.set_cons_succ]
  refine takeL 3 (.slice (some ⟨lg, 0, none⟩) L.length lc) rfl (by kernel_rfl) (by kernel_rfl) (by kernel_rfl) (fun _ _ _ h => h) (Or.inl ⟨rfl, fun _ _ => rfl⟩) hHeld ?_
  try simp only [Act.put, List.setIfInBounds_toArray, List.set_cons_zero, List.set_cons_succ]
  refine takeL 4 (.int .i64 (L.length : Nat)) rfl (by kernel_rfl) (by kernel_rfl) (by kernel_rfl) (fun _ _ _ h => h) (Or.inl ⟨rfl, fun w9 hSw => by go_simp⟩) hHeld ?_
  try simp only [Act.put, List.setIfInBounds_toArray, List.set_cons_zero, List.set_cons_succ]
  have S6 := S5.kept (L := []) (Kept.refl [] w5).drew (by simp)
  have cR6 := csAt_kept cR5 (L := []) (Kept.refl [] w5).drew (by omega) (by simp)
  have d6 := d5.drew
  have s6 : sb + 1 ≤ w5.drew.heap.size := s5
  generalize w5.drew = w6 at *
  refine oneL 5 rfl (by kernel_rfl) rfl (fun K hK => ?_)
  go_simp
  refine (pick_k wA wA _ rb a len' cap (p' + 1) (L.length : Int) hrow hl' d6 (by omega) (by omega) (by omega) (by omega)).mono ?_
  rintro e w7 ⟨r, rfl, r0, r1, d7, m⟩
  go_wp2_with fail
  refine hK.out _ _ (hHeld.trans (m.sub (fun x hx => by simp at hx; simp [hx]))) (fun hHeld => ?_)
  clear hK K
  try simp only [Act.put, List.setIfInBounds_toArray, List.set_cons_zero, List.set_cons_succ]
  have S7 := S6.kept m (fun x hx => by simp at hx; omega)
  have cR7 := csAt_kept cR6 m (by omega) (by simp; omega)
  have s7 := Nat.le_trans s6 m.size
  clear m
  obtain ⟨q, rfl⟩ := Int.eq_ofNat_of_zero_le r0
  have hqL : q < L.length := by omega
  have hlq := isC_at cL.cells q hqL
  rw [Nat.zero_add] at hlq
  have hrng := unhide HRG _ (List.getElem_mem hqL)
  rw [List.getD_eq_getElem?_getD, List.getElem?_eq_getElem hqL] at hlq
  replace hlq : w5.cell? ⟨lg, q, none⟩ = some (.int .i64 L[q]) := hlq
  generalize L[q] = x at *
  refine takeL 6 (.pointer (some ⟨lg, q, none⟩)) rfl (by kernel_rfl) (by kernel_rfl) (by kernel_rfl) (fun _ _ _ h => h) (Or.inl ⟨rfl, fun w9 hSw => by go_simp⟩) hHeld ?_
  try simp only [Act.put, List.setIfInBounds_toArray, List.set_cons_zero, List.set_cons_succ]
  refine takeL 7 (.int .i64 x) rfl (by kernel_rfl) (by kernel_rfl) (by kernel_rfl) (fun _ _ _ h => h) (Or.inl ⟨rfl, fun w9 hSw => by have hc := (hSw.cell (b := lg) q (by omega) (by simp; omega)).trans hlq; go_simp⟩) hHeld ?_
  try simp only [Act.put, List.setIfInBounds_toArray, List.set_cons_zero, List.set_cons_succ]
  have pt := cR7.put [.slice (some ⟨g, o, none⟩) bs.length c, .slice (some ⟨d, z, none⟩) dk.length dc] rfl
  have kz := kept_cells w7 w.heap.size 0 [.slice (some ⟨g, o, none⟩) bs.length c, .slice (some ⟨d, z, none⟩) dk.length dc]
  refine oneL 8 rfl (by kernel_rfl) rfl (fun K hK => ?_)
  refine wp_store_mid 26 _ _ rfl w.heap.size 0 [.slice (some ⟨g, o, none⟩) bs.length c, .slice (some ⟨d, z, none⟩) dk.length dc].toArray rfl rfl cR7.free (unhide HSS) (by kernel_rfl) ?_
  refine hK.out _ _ (hHeld.trans (kz.sub (fun x hx => by simp at hx; simp [hx]))) (fun hHeld => ?_)
  clear hK K
  try simp only [Act.put, List.setIfInBounds_toArray, List.set_cons_zero, List.set_cons_succ]
  refine takeL 9 (.int .i64 x) rfl (by kernel_rfl) (by kernel_rfl) (by kernel_rfl) (fun _ _ _ h => h) (Or.inl ⟨rfl, fun _ _ => rfl⟩) hHeld ?_
  try simp only [Act.put, List.setIfInBounds_toArray, List.set_cons_zero, List.set_cons_succ]
  refine wpAnyH_done (by kernel_rfl) ?_ _
  refine NoPanic.normal ?_
  have b9 := d7.bel
  have B9 := bA.trans (b9.mono bA.size)
  have SZ := SN.mono (S7.kept kz (fun x hx => by simp at hx; omega)) (show w.heap.size ≤ lo by omega)
  have BZ := ((Kept.of (L := []) B9).setCells (b := w.heap.size) (.inr (Nat.le_refl _)) 0 [.slice (some ⟨g, o, none⟩) bs.length c, .slice (some ⟨d, z, none⟩) dk.length dc]).all (by simp)
  clear hHeld
  go_wp2
  refine bodyPost_ret (res_cell_tmp Tryz.results33 _ _ w.heap.size [.slice (some ⟨g, o, none⟩) bs.length c, .slice (some ⟨d, z, none⟩) dk.length dc] _ rfl pt.cells Tryz.underlying26 rfl (by kernel_rfl)) rfl ?_
  exact ⟨g, o, c, bs, d, z, dc, dk, x, rfl, SZ, by omega, by omega, BZ⟩
end Go.Proofs.YtogfelpdgeionaaGreat.DrG

/-
  Plain facts of a flush.
-/
namespace Go.Proofs.YtogfelpdgeionaaGreat.Pv
open Go.ChangeShapes Go.WideShapes Go.ChangeAt Go.RowKit Go.Shelf OkA Big Fl ImplB ImplF ImplS ImplT ImplU SpecA SpecB SpecC SpecD SpecW SpecF SpecG SpecH FindP ImplL FindN FindL FindD FindO Pl Kp StA StB StC StD StE StF StG SpS SpT Sv RmA WrA FlA PlA PlB SpU TwC Pw Py
set_option linter.unusedVariables false
set_option linter.unusedSimpArgs false
variable {bs : List Bk} {dk : List Int}
/-- Whether a value is to be told. -/
def dtB (bs : List Bk) (k : Int) : Bool := inB k 1 6 && dirtyB bs k
/-- Whether one of the first j numbers is this one. -/
def anyN (l : List Int) (k : Int) (j : Nat) : Bool := (l.take j).any fun x => x == k
theorem anyN_succ (l : List Int) (k : Int) (j : Nat) (hj : j < l.length) : anyN l k (j + 1) = (anyN l k j || l.getD j 0 == k) := by
  unfold anyN
  rw [List.take_succ_eq_append_getElem hj, List.any_append, List.getD_eq_getElem?_getD, List.getElem?_eq_getElem hj]
  simp
theorem any_dy (hs : stB bs dk = true) (k : Int) : anyN (dyS bs dk) k (dyS bs dk).length = dtB bs k := by
  unfold anyN
  rw [List.take_length, dy_ok hs, Bool.eq_iff_iff, List.any_eq_true]
  unfold dtB dyK
  constructor
  · rintro ⟨x, hx, e⟩
    obtain ⟨h1, h2⟩ := List.mem_filter.1 hx
    rw [List.mem_map] at h1
    obtain ⟨i, hi, rfl⟩ := h1
    rw [List.mem_range] at hi
    have e' : ((i : Nat) : Int) + 1 = k := by simpa using e
    rw [← e', h2]
    simp [inB]; omega
  · intro h
    rw [Bool.and_eq_true] at h
    have h1 : 1 ≤ k ∧ k ≤ 6 := by simpa [inB] using h.1
    refine ⟨k, List.mem_filter.2 ⟨List.mem_map.2 ⟨(k - 1).toNat, List.mem_range.2 (by omega), by omega⟩, h.2⟩, by simp⟩
theorem dt_read (hs : stB bs dk = true) {k : Int} (hd : dtB bs k = true) : (1 ≤ k ∧ k ≤ 6) ∧ rdS bs dk k = readI bs dk k ∧ 0 ≤ readI bs dk k ∧ readI bs dk k ≤ 9 := by
  unfold dtB at hd
  rw [Bool.and_eq_true] at hd
  have h1 : 1 ≤ k ∧ k ≤ 6 := by simpa [inB] using hd.1
  have hok := (st_parts hs).1
  unfold dirtyB at hd
  rw [Bool.and_eq_true] at hd
  have hr : readI bs dk k = (lastR bs k).v := by unfold readI; rw [hd.2.1, if_pos rfl]
  refine ⟨h1, by unfold rdS; rw [hs, hd.1]; rfl, ?_⟩
  rw [hr]
  rcases lastR_ok bs k hok with e | ⟨e, _⟩
  · have := hd.2.1; unfold lastO at this; rw [e] at this; simp [zRc] at this
  · simp [recB, numB, inB] at e
    omega
theorem fl_def (hs : stB bs dk = true) (k : Int) : flushS bs dk k = if dtB bs k then (if (writeP bs 2 k (readI bs dk k)).isEmpty then [] else diskS k (readI bs dk k) :: writeP bs 2 k (readI bs dk k)) else [] := by
  unfold flushS
  rw [if_pos hs]; rfl
theorem rec_same {k v v' : Int} (h1 : 1 ≤ k) (h6 : k ≤ 6) (h0 : 0 ≤ v) (h9 : v ≤ 9) (h0' : 0 ≤ v') (h9' : v' ≤ 9) (s : Int) : recB 2 s k v = recB 1 s k v' := by
  rw [Bool.eq_iff_iff]
  simp [recB, numB, inB]
  omega
theorem fl_zero (hs : stB bs dk = true) {k : Int} (hd : dtB bs k = true) (h : flushS bs dk k = []) : putS bs dk k 1 = [] := by
  obtain ⟨h1, _, h0, h9⟩ := dt_read hs hd
  rw [fl_def hs, if_pos hd] at h
  unfold putS
  rw [if_pos hs]
  cases hw : (writeP bs 2 k (readI bs dk k)).isEmpty
  · rw [hw] at h; cases h
  · unfold writeP at hw ⊢
    rw [rec_same h1.1 h1.2 h0 h9 (show (0 : Int) ≤ 1 by omega) (show (1 : Int) ≤ 9 by omega)] at hw
    cases hc : roomO bs && recB 1 (mostB bs + 1) k 1
    · rfl
    · rw [hc] at hw; simp at hw
theorem fl_pos (hs : stB bs dk = true) {k : Int} (h : flushS bs dk k ≠ []) : dtB bs k = true ∧ flushS bs dk k = diskS k (rdS bs dk k) :: (roomL bs ++ [writeS (roomB bs) ⟨2, mostB bs + 1, k, rdS bs dk k⟩]) ∧ putS bs dk k (rdS bs dk k) = roomL bs ++ [writeS (roomB bs) ⟨1, mostB bs + 1, k, rdS bs dk k⟩] := by
  rw [fl_def hs] at h
  cases hd : dtB bs k
  · rw [hd] at h; exact absurd rfl h
  rw [hd, if_pos rfl] at h
  obtain ⟨h1, hr, h0, h9⟩ := dt_read hs hd
  cases hw : (writeP bs 2 k (readI bs dk k)).isEmpty
  · have hc : (roomO bs && recB 2 (mostB bs + 1) k (readI bs dk k)) = true := by
      cases hc : roomO bs && recB 2 (mostB bs + 1) k (readI bs dk k)
      · unfold writeP at hw; rw [hc] at hw; simp at hw
      · rfl
    refine ⟨rfl, ?_, ?_⟩
    · rw [fl_def hs, hd, if_pos rfl, hw, hr]
      unfold writeP
      rw [hc]; rfl
    · unfold putS
      rw [if_pos hs]
      unfold writeP
      rw [hr, ← rec_same h1.1 h1.2 h0 h9 h0 h9, hc]; rfl
  · rw [hw] at h; exact absurd rfl h
end Go.Proofs.YtogfelpdgeionaaGreat.Pv
