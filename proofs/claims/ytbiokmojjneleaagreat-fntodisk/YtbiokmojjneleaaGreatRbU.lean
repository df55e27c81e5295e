/-
  Texts that belong together, one behind the other: Fu, DrF, DrX, Pw, DrG, Pv, Nf.
-/
import Derived.Test.YtbiokmojjneleaaGreatHbQ
import Derived.Test.YtbiokmojjneleaaGreatHaZ
import Derived.Test.YtbiokmojjneleaaGreatRaH
import Derived.Test.YtbiokmojjneleaaGreatRbO
import Derived.Test.YtbiokmojjneleaaGreatRaP
import Derived.Test.YtbiokmojjneleaaGreatRbS
import Derived.Test.YtbiokmojjneleaaGreatHbD
import Derived.Test.YtbiokmojjneleaaGreatHbL
import Derived.Test.YtbiokmojjneleaaGreatHbW

/-
  Stores that are drawn, often one of which no page is clean.
-/
namespace Go.Proofs.YtbiokmojjneleaaGreat.Fu
open Go.ChangeShapes Go.WideShapes Go.ChangeAt Go.RowKit Go.Shelf Big Fl ImplF ImplL Kp StA RmA DoA AlA DpA NwA Pick Draw EvA ImplB ImplS ImplU SpecC SpecD SpecW ImplW PyA FlB ClA StB StG SpS SpT StN
set_option linter.unusedVariables false
set_option linter.unusedSimpArgs false
attribute [local go_sem ↓] Go.wp_at_zero Go.wp_at_succ

def FuPost (u w0 w : World) (rb : Nat) (a : Option Addr) (len cap : Nat) (p : Int) (e : Ending) (w' : World) : Prop :=
  ∃ g o c bs d z dc dk p', e = .returned (.agg #[.slice (some ⟨g, o, none⟩) bs.length c, .slice (some ⟨d, z, none⟩) dk.length dc]) ∧ SN w.heap.size w' g o bs d z dk ∧ p ≤ p' ∧ p' ≤ p + 1080 ∧ Rd u w0 rb a len cap p' w' ∧ Kept [rb] w w'
theorem okS (fa : Option Addr) (fc : Nat) (bs : List Bk) (da : Option Addr) (dc : Nat) (dk : List Int) (N M : Nat) (hN : bs.length = N) (hM : dk.length = M) (h4 : bs.length ≤ 4) (h6 : dk.length ≤ 6) (hp : ∀ b ∈ bs, b.ps.length ≤ 4) (w : World) (h : SAt w fa bs da dk) :
    Calls Tryz.prog 29 #[.agg #[.slice fa N fc, .slice da M dc]] w fun e w' => e = .returned (.bool (stB bs dk)) ∧ Below w.heap.size w w' := by
  subst hN hM
  exact specOk_st fa fc bs da dc dk w h (by omega) (fun b hb => by have := hp b hb; omega) (by omega)
theorem openS (g cap : Nat) (bs : List Bk) (w : World) (hF : Fours bs) (h4 : bs.length = 4) (hf : FsAt w (some ⟨g, 0, none⟩) bs) :
    Calls Tryz.prog 75 #[.slice (some ⟨g, 0, none⟩) 4 cap] w fun e w' => ∃ k b, e = .returned (.tuple #[.int .i64 k, .bool b]) ∧ Below w.heap.size w w' := by
  rcases hf with h | ⟨b, o, e, h⟩
  · rw [h] at h4; cases h4
  · simp at e
    obtain ⟨rfl, rfl⟩ := e
    refine (SpecH.open_any g 0 cap bs w hF h4 h).mono ?_
    rintro e w' ⟨rfl, b⟩
    exact ⟨_, _, rfl, b⟩

set_option maxRecDepth 100000 in
set_option maxHeartbeats 4000000 in
theorem full_any (u w0 w : World) (rb : Nat) (a : Option Addr) (len cap : Nat) (p : Int) (hr : Row w0 a len) (hl : len ≤ 10000) (h : Rd u w0 rb a len cap p w) (hp0 : 0 ≤ p) (hp : p ≤ 450) :
    Calls Tryz.prog 44 #[.pointer (some ⟨rb, 0, none⟩)] w fun e w' => FuPost u w0 w rb a len cap p e w' := by
  have hlt := h.lt
  have hold := h.old
  have hu := h.kp.size
  have cR0 := CsAt.new w [.slice none 0 0, .slice none 0 0] 26
  have dA := h.alloc (.cells #[.slice none 0 0, .slice none 0 0] 26)
  have kA : Kept [rb] w (w.alloc (.cells #[.slice none 0 0, .slice none 0 0] 26)) := Kept.of ((Below.refl _ _).alloc (Nat.le_refl _) _)
  have sA : (w.alloc (.cells #[.slice none 0 0, .slice none 0 0] 26)).heap.size = w.heap.size + 1 := by simp
  have HST := hide (store_any u w0 _ rb a len cap p hr hl dA hp0 hp)
  have HSS := hide (show (Tryz.prog.info? 26).map (·.size) = some 2 by kernel_rfl)
  have HBE := hide (fun (x y : Int) => (show Tryz.prog.built 42 [(0, .int .i64 1), (1, .int .i64 x), (2, .int .i64 y), (3, .int .i64 9)] = some #[.int .i64 1, .int .i64 x, .int .i64 y, .int .i64 9, .bool false] by kernel_rfl))
  clear h
  go_enter Tryz.func44, Tryz.ntmps44
  go_wp2_with fail
  refine (unhide HST).mono ?_
  rintro e w1 ⟨g, o, c, bs0, d, z, dc, dk0, p1, rfl, S1, hc4, hp1, hp2, d1, k1⟩
  generalize hR : w.heap.size = R at *
  generalize w.alloc (.cells #[.slice none 0 0, .slice none 0 0] 26) = wa at *
  rw [sA] at S1
  have cR1 := csAt_kept cR0 k1 (by omega) (by simp; omega)
  have k1' := kA.trans k1
  have sz1 := k1.size
  clear HST dA kA cR0 k1 hc4
  have h40 := S1.fs.four
  have h60 := S1.six
  have hp40 := hide S1.fs.pgs
  obtain ⟨N, hN0⟩ : ∃ n, bs0.length = n := ⟨_, rfl⟩
  obtain ⟨M, hM0⟩ : ∃ n, dk0.length = n := ⟨_, rfl⟩
  have HDN : ∀ (bs : List Bk) (dk : List Int) (p' : Int) (w' : World), bs.length = N → dk.length = M → SN (R + 1) w' g o bs d z dk → p ≤ p' → p' ≤ p + 1080 → Rd u w0 rb a len cap p' w' → Kept [rb] w w' → FuPost u w0 w rb a len cap p (.returned (.agg #[.slice (some ⟨g, o, none⟩) N c, .slice (some ⟨d, z, none⟩) M dc])) w' := fun bs dk p' w' e1 e2 h1 h2 h3 h4 h5 => ⟨g, o, c, bs, d, z, dc, dk, p', by rw [e1, e2], h1.mono (by omega), h2, h3, h4, h5⟩
  have O1 : Hid (okB bs0 = true → dk0.length = 6 → o = 0 ∧ z = 0 ∧ ∃ G, St w1 (R + 1) g d G bs0 dk0 ∧ ∀ x ∈ d :: g :: G, x < w1.heap.size) := fun q1 q2 => by
    obtain ⟨e1, e2, G, S⟩ := S1.own q1 q2
    exact ⟨e1, e2, G, S, fun x hx => (S.all x hx).2⟩
  have bB : Below w1.heap.size w1 (w1.alloc (.cells #[.slice (some ⟨g, o, none⟩) N c, .slice (some ⟨d, z, none⟩) M dc] 26)) := (Below.refl _ _).alloc (Nat.le_refl _) _
  have cB2 := CsAt.new w1 [.slice (some ⟨g, o, none⟩) N c, .slice (some ⟨d, z, none⟩) M dc] 26
  have d2 := d1.alloc (.cells #[.slice (some ⟨g, o, none⟩) N c, .slice (some ⟨d, z, none⟩) M dc] 26)
  have S2 := S1.below bB
  have O2 : Hid (okB bs0 = true → dk0.length = 6 → o = 0 ∧ z = 0 ∧ ∃ G, St (w1.alloc (.cells #[.slice (some ⟨g, o, none⟩) N c, .slice (some ⟨d, z, none⟩) M dc] 26)) (R + 1) g d G bs0 dk0 ∧ ∀ x ∈ d :: g :: G, x < w1.heap.size) := fun q1 q2 => by
    obtain ⟨e1, e2, G, S, hx⟩ := unhide O1 q1 q2
    exact ⟨e1, e2, G, S.below bB, hx⟩
  have k2 : Kept [rb] w (w1.alloc (.cells #[.slice (some ⟨g, o, none⟩) N c, .slice (some ⟨d, z, none⟩) M dc] 26)) := k1'.trans (Kept.of bB)
  have cR2 := csAt_kept cR1 (L := []) (Kept.of bB) (by omega) (by simp)
  have sz2 : (w1.alloc (.cells #[.slice (some ⟨g, o, none⟩) N c, .slice (some ⟨d, z, none⟩) M dc] 26)).heap.size = w1.heap.size + 1 := by simp
  have hgs : g < w1.heap.size ∧ d < w1.heap.size ∧ R + 1 ≤ g ∧ R + 1 ≤ d := ⟨S1.fs.ghi, S1.dhi, S1.fs.glo, S1.dlo⟩
  clear S1 bB d1 k1' cR1 O1
  rw [hN0, hM0]
  go_upto_region 3 with fail
  generalize hSB : w1.heap.size = sb at *
  generalize w1.alloc (.cells #[.slice (some ⟨g, o, none⟩) N c, .slice (some ⟨d, z, none⟩) M dc] 26) = w2 at *
  go_loopw [4] (fun i w' => ∃ (k : Nat) (bs : List Bk) (dk : List Int) (p' : Int), k ≤ 12 ∧ i = .int .i64 k ∧ bs.length = N ∧ dk.length = M ∧ SN (R + 1) w' g o bs d z dk ∧ Hid (okB bs = true → dk.length = 6 → o = 0 ∧ z = 0 ∧ ∃ G, St w' (R + 1) g d G bs dk ∧ ∀ x ∈ d :: g :: G, x < sb) ∧ CsAt w' sb [.slice (some ⟨g, o, none⟩) N c, .slice (some ⟨d, z, none⟩) M dc] ∧ CsAt w' R [.slice none 0 0, .slice none 0 0] ∧ p1 ≤ p' ∧ p' ≤ p1 + 3 * k ∧ Rd u w0 rb a len cap p' w' ∧ Kept [rb] w w' ∧ sb + 1 ≤ w'.heap.size) (fun i _ => 12 - (intOf i).toNat)
  case atStart => exact ⟨0, bs0, dk0, p1, by omega, rfl, hN0, hM0, S2, O2, cB2, cR2, by omega, by omega, d2, k2, by omega⟩
  case round =>
    clear S2 O2 cB2 cR2 d2 k2 hN0 hM0 hp40
    obtain ⟨k, bs, dk, p', hk, rfl, hN, hM, S3, O3, cB, cR, q1, q2, d3, k3, s3⟩ := hrel
    have h4 := S3.fs.four
    have h6 := S3.six
    have y0 := cB.cell 0 _ rfl
    have y1 := cB.cell 1 _ rfl
    by_cases h0 : k = 12
    · subst h0
      go_upto_region 9 with fail
      have e0 := cB.cell 0 _ rfl
      have e1 := cB.cell 1 _ rfl
      have d0 := cR.cell 0 _ rfl
      have d1 := cR.cell 1 _ rfl
      have f0 := cR.frozen 0 (by simp)
      have f1 := cR.frozen 1 (by simp)
      have pt1 := cR.put [.slice (some ⟨g, o, none⟩) N c, .slice (some ⟨d, z, none⟩) M dc] rfl
      have kz := kept_cells wr R 0 [.slice (some ⟨g, o, none⟩) N c, .slice (some ⟨d, z, none⟩) M dc]
      have DONE := HDN bs dk p' _ hN hM (S3.kept kz (fun x hx => by simp at hx; omega)) (by omega) (by omega) (rd_set d3 kz (by omega) (by omega) (by omega)) (k3.then kz (fun y hy => by simp at hy; subst hy; right; omega))
      go_wp2
      refine bodyPost_ret (res_cell_mid Tryz.results44 _ _ R [.slice (some ⟨g, o, none⟩) N c, .slice (some ⟨d, z, none⟩) M dc] _ rfl pt1.cells Tryz.underlying26 rfl (by kernel_rfl)) rfl ?_
      exact DONE
    have hlt2 : (k : Int) < 12 := by omega
    have HP4 := hide S3.fs.pgs
    have HOK := hide (okS _ c bs _ dc dk N M hN hM h4 h6 (unhide HP4) wr S3.at)
    go_wp2_with fail
    refine (unhide HOK).mono ?_
    rintro e w4 ⟨rfl, b⟩
    have S4 := S3.below b
    have O4 : Hid (okB bs = true → dk.length = 6 → o = 0 ∧ z = 0 ∧ ∃ G, St w4 (R + 1) g d G bs dk ∧ ∀ x ∈ d :: g :: G, x < sb) := fun q1 q2 => by
      obtain ⟨e1, e2, G, S, hx⟩ := unhide O3 q1 q2
      exact ⟨e1, e2, G, S.below b, hx⟩
    have cB4 := csAt_kept cB (L := []) (Kept.of b) (by omega) (by simp)
    have cR4 := csAt_kept cR (L := []) (Kept.of b) (by omega) (by simp)
    have d4 := rd_kept d3 (L := []) (Kept.of b) (by simp)
    have k4 := k3.trans (Kept.of b)
    have s4 := Nat.le_trans s3 b.size
    clear HOK S3 O3 cB cR d3 k3 y0 y1 b
    have cB := cB4
    have cR := cR4
    have y0 := cB.cell 0 _ rfl
    have y1 := cB.cell 1 _ rfl
    clear cB4 cR4
    cases hst : stB bs dk
    · simp only [hst]
      go_upto_region 9 with fail
      have e0 := cB.cell 0 _ rfl
      have e1 := cB.cell 1 _ rfl
      have d0 := cR.cell 0 _ rfl
      have d1 := cR.cell 1 _ rfl
      have f0 := cR.frozen 0 (by simp)
      have f1 := cR.frozen 1 (by simp)
      have pt1 := cR.put [.slice (some ⟨g, o, none⟩) N c, .slice (some ⟨d, z, none⟩) M dc] rfl
      have kz := kept_cells w4 R 0 [.slice (some ⟨g, o, none⟩) N c, .slice (some ⟨d, z, none⟩) M dc]
      have DONE := HDN bs dk p' _ hN hM (S4.kept kz (fun x hx => by simp at hx; omega)) (by omega) (by omega) (rd_set d4 kz (by omega) (by omega) (by omega)) (k4.then kz (fun y hy => by simp at hy; subst hy; right; omega))
      go_wp2
      refine bodyPost_ret (res_cell_mid Tryz.results44 _ _ R [.slice (some ⟨g, o, none⟩) N c, .slice (some ⟨d, z, none⟩) M dc] _ rfl pt1.cells Tryz.underlying26 rfl (by kernel_rfl)) rfl ?_
      exact DONE
    obtain ⟨hok, hd6⟩ := st_parts hst
    obtain ⟨e1, e2, G, SS, hxs⟩ := unhide O4 hok hd6
    subst e1 e2
    have hb4 := ok_len hok
    obtain rfl : N = 4 := by omega
    obtain rfl : M = 6 := by omega
    have hrbG : rb ∉ d :: g :: G := fun hm => by have := (SS.all _ hm).1; omega
    simp only [hst]
    go_wp2_with fail
    refine (pick_k u w0 w4 rb a len cap p' 8 hr hl d4 (by omega) (by omega) (by omega) (by omega)).mono ?_
    rintro e w5 ⟨r, rfl, r0, r1, d5, m5⟩
    have S5 := S4.kept m5 (fun x hx => by simp at hx; omega)
    have SS5 := SS.kept m5 (fun x hx hm => by simp at hm; subst hm; exact hrbG hx)
    have cB5 := csAt_kept cB m5 (by omega) (by simp; omega)
    have cR5 := csAt_kept cR m5 (by omega) (by simp; omega)
    have k5 := k4.trans m5
    have s5 := Nat.le_trans s4 m5.size
    clear S4 SS O4 cB cR d4 k4 y0 y1 m5
    have cB := cB5
    have cR := cR5
    have y0 := cB.cell 0 _ rfl
    have y1 := cB.cell 1 _ rfl
    clear cB5 cR5
    by_cases hr0 : r = 0
    · subst hr0
      go_upto_region 9 with fail
      have e0 := cB.cell 0 _ rfl
      have e1 := cB.cell 1 _ rfl
      have d0 := cR.cell 0 _ rfl
      have d1 := cR.cell 1 _ rfl
      have f0 := cR.frozen 0 (by simp)
      have f1 := cR.frozen 1 (by simp)
      have pt1 := cR.put [.slice (some ⟨g, 0, none⟩) 4 c, .slice (some ⟨d, 0, none⟩) 6 dc] rfl
      have kz := kept_cells w5 R 0 [.slice (some ⟨g, 0, none⟩) 4 c, .slice (some ⟨d, 0, none⟩) 6 dc]
      have DONE := HDN bs dk (p' + 1) _ hN hM (S5.kept kz (fun x hx => by simp at hx; omega)) (by omega) (by omega) (rd_set d5 kz (by omega) (by omega) (by omega)) (k5.then kz (fun y hy => by simp at hy; subst hy; right; omega))
      go_wp2
      refine bodyPost_ret (res_cell_mid Tryz.results44 _ _ R [.slice (some ⟨g, 0, none⟩) 4 c, .slice (some ⟨d, 0, none⟩) 6 dc] _ rfl pt1.cells Tryz.underlying26 rfl (by kernel_rfl)) rfl ?_
      exact DONE
    have hrp : 0 < r := by omega
    have HOP := hide (openS g c bs w5 (ok_fours hok) hb4 SS5.own.fs)
    go_wp2_with fail
    refine (unhide HOP).mono ?_
    rintro e w6 ⟨ko, bo, rfl, b⟩
    have S6 := S5.below b
    have SS6 := SS5.below b
    have cB6 := csAt_kept cB (L := []) (Kept.of b) (by omega) (by simp)
    have cR6 := csAt_kept cR (L := []) (Kept.of b) (by omega) (by simp)
    have d6 := rd_kept d5 (L := []) (Kept.of b) (by simp)
    have k6 := k5.trans (Kept.of b)
    have s6 := Nat.le_trans s5 b.size
    clear HOP S5 SS5 cB cR d5 k5 y0 y1 b
    have cB := cB6
    have cR := cR6
    have y0 := cB.cell 0 _ rfl
    have y1 := cB.cell 1 _ rfl
    clear cB6 cR6
    cases bo
    · go_upto_region 7 with fail
      have e0 := cB.cell 0 _ rfl
      have e1 := cB.cell 1 _ rfl
      have d0 := cR.cell 0 _ rfl
      have d1 := cR.cell 1 _ rfl
      have f0 := cR.frozen 0 (by simp)
      have f1 := cR.frozen 1 (by simp)
      have pt1 := cR.put [.slice (some ⟨g, 0, none⟩) 4 c, .slice (some ⟨d, 0, none⟩) 6 dc] rfl
      have kz := kept_cells w6 R 0 [.slice (some ⟨g, 0, none⟩) 4 c, .slice (some ⟨d, 0, none⟩) 6 dc]
      have DONE := HDN bs dk (p' + 1) _ hN hM (S6.kept kz (fun x hx => by simp at hx; omega)) (by omega) (by omega) (rd_set d6 kz (by omega) (by omega) (by omega)) (k6.then kz (fun y hy => by simp at hy; subst hy; right; omega))
      go_wp2
      refine bodyPost_ret (res_cell_mid Tryz.results44 _ _ R [.slice (some ⟨g, 0, none⟩) 4 c, .slice (some ⟨d, 0, none⟩) 6 dc] _ rfl pt1.cells Tryz.underlying26 rfl (by kernel_rfl)) rfl ?_
      exact DONE
    have HHA := hide (fun (x y : Int) (w' : World) (h : St w' (R + 1) g d G bs dk) => happen_any (R + 1) g d c dc G bs dk 1 x y 9 false w' h hok)
    have hL0 : ∀ x ∈ d :: g :: G, R + 1 ≤ x ∧ x < sb := fun x hx => ⟨(SS6.all x hx).1, hxs x hx⟩
    go_upto_region 8 with fail
    refine wp_region_noPanic ?_
    refine wp_region_held_drew (S := fun w' => Kept (rb :: sb :: d :: g :: G) w6 w' ∧ CsAt w' sb [.slice (some ⟨g, 0, none⟩) 4 c, .slice (some ⟨d, 0, none⟩) 6 dc]) (by kernel_rfl) (⟨(Kept.refl _ _).drew, csAt_kept cB (L := []) (Kept.refl [] w6).drew (by omega) (by simp)⟩) (fun hHeld => ?_)
    refine takeL 0 (.agg #[.slice (some ⟨g, 0, none⟩) 4 c, .slice (some ⟨d, 0, none⟩) 6 dc]) rfl (by kernel_rfl) (by kernel_rfl) (by kernel_rfl) (fun _ _ _ h => h) (yieldsIf_load_mid rfl 26 _ rfl sb 0 rfl [.slice (some ⟨g, 0, none⟩) 4 c, .slice (some ⟨d, 0, none⟩) 6 dc] _ (fun _ h => h.2.cells) Tryz.underlying26 rfl (unhide HSS)) hHeld ?_
    try simp only [Act.put, List.setIfInBounds_toArray, List.set_cons_zero, List.set_cons_succ]
    refine takeL 1 (.pointer (some ⟨rb, 0, none⟩)) rfl (by kernel_rfl) (by kernel_rfl) (by kernel_rfl) (fun _ _ _ h => h) (Or.inl ⟨rfl, fun _ _ => rfl⟩) hHeld ?_
    try simp only [Act.put, List.setIfInBounds_toArray, List.set_cons_zero, List.set_cons_succ]
    refine takeL 4 (.pointer (some ⟨rb, 0, none⟩)) rfl (by kernel_rfl) (by kernel_rfl) (by kernel_rfl) (fun _ _ _ h => h) (Or.inl ⟨rfl, fun _ _ => rfl⟩) hHeld ?_
    try simp only [Act.put, List.setIfInBounds_toArray, List.set_cons_zero, List.set_cons_succ]
    have SS7 := SS6.kept (L := []) (Kept.refl [] w6).drew (fun _ _ => by simp)
    have cR7 := csAt_kept cR (L := []) (Kept.refl [] w6).drew (by omega) (by simp)
    have d7 := d6.drew
    have k7 := k6.drew
    have s7 : sb + 1 ≤ w6.drew.heap.size := s6
    generalize w6.drew = y0' at *
    refine oneL 2 rfl (by kernel_rfl) rfl (fun K hK => ?_)
    go_simp
    refine (pick_k u w0 _ rb a len cap (p' + 1) 6 hr hl d7 (by omega) (by omega) (by omega) (by omega)).mono ?_
    rintro e w8 ⟨ra, rfl, ra0, ra1, d8, m⟩
    go_wp2_with fail
    refine hK.out _ _ ⟨hHeld.1.trans (m.sub (fun x hx => by simp at hx; simp [hx])), csAt_kept hHeld.2 m (by omega) (by simp; omega)⟩ (fun hHeld => ?_)
    clear hK K
    try simp only [Act.put, List.setIfInBounds_toArray, List.set_cons_zero, List.set_cons_succ]
    have SS8 := SS7.kept m (fun x hx hm => by simp at hm; subst hm; exact hrbG hx)
    have cR8 := csAt_kept cR7 m (by omega) (by simp; omega)
    have k8 := k7.trans m
    have s8 := Nat.le_trans s7 m.size
    clear m
    refine takeL 3 (.int .i64 (1 + ra)) rfl (by kernel_rfl) (by kernel_rfl) (by kernel_rfl) (fun _ _ _ h => h) (Or.inl ⟨rfl, fun w9 hSw => by have hwk : IntKind.i64.wrap (1 + ra) = 1 + ra := (by rw [IntKind.wrap_i64] <;> omega); go_simp⟩) hHeld ?_
    try simp only [Act.put, List.setIfInBounds_toArray, List.set_cons_zero, List.set_cons_succ]
    refine oneL 5 rfl (by kernel_rfl) rfl (fun K hK => ?_)
    go_simp
    refine (pick_k u w0 _ rb a len cap (p' + 1 + 1) 10 hr hl d8 (by omega) (by omega) (by omega) (by omega)).mono ?_
    rintro e w9 ⟨rv, rfl, rv0, rv1, d9, m⟩
    go_wp2_with fail
    refine hK.out _ _ ⟨hHeld.1.trans (m.sub (fun x hx => by simp at hx; simp [hx])), csAt_kept hHeld.2 m (by omega) (by simp; omega)⟩ (fun hHeld => ?_)
    clear hK K
    try simp only [Act.put, List.setIfInBounds_toArray, List.set_cons_zero, List.set_cons_succ]
    have SS9 := SS8.kept m (fun x hx hm => by simp at hm; subst hm; exact hrbG hx)
    have cR9 := csAt_kept cR8 m (by omega) (by simp; omega)
    have k9 := k8.trans m
    have s9 := Nat.le_trans s8 m.size
    clear m
    refine takeL 6 (.agg #[.int .i64 1, .int .i64 (1 + ra), .int .i64 rv, .int .i64 9, .bool false]) rfl (by kernel_rfl) (by kernel_rfl) (by kernel_rfl) (fun _ _ _ h => h) (Or.inl ⟨rfl, fun w9 hSw => by have hbe := unhide HBE (1 + ra) rv; go_simp⟩) hHeld ?_
    try simp only [Act.put, List.setIfInBounds_toArray, List.set_cons_zero, List.set_cons_succ]
    refine oneL 7 rfl (by kernel_rfl) rfl (fun K hK => ?_)
    go_simp
    refine (unhide HHA (1 + ra) rv _ SS9).mono ?_
    rintro e wA ⟨rfl, B', D', ok', SA, kA⟩
    go_wp2_with fail
    refine hK.out _ _ ⟨hHeld.1.trans (kA.sub (fun x hx => List.mem_cons_of_mem _ (List.mem_cons_of_mem _ hx))), csAt_kept hHeld.2 kA (by omega) (fun hm => by have := hL0 _ hm; omega)⟩ (fun hHeld => ?_)
    clear hK K
    try simp only [Act.put, List.setIfInBounds_toArray, List.set_cons_zero, List.set_cons_succ]
    have cRA := csAt_kept cR9 kA (by omega) (fun hm => by have := hL0 _ hm; omega)
    have dA := rd_kept d9 kA (fun y hy => by have := hL0 y hy; omega)
    have kAA := k9.then kA (fun y hy => by have := hL0 y hy; right; omega)
    have sA' := Nat.le_trans s9 kA.size
    have kz := kept_cells wA sb 0 [.slice (some ⟨g, 0, none⟩) 4 c, .slice (some ⟨d, 0, none⟩) 6 dc]
    have cBZ := hHeld.2.put [.slice (some ⟨g, 0, none⟩) 4 c, .slice (some ⟨d, 0, none⟩) 6 dc] rfl
    refine oneL 8 rfl (by kernel_rfl) rfl (fun K hK => ?_)
    refine wp_store_mid 26 _ _ rfl sb 0 [.slice (some ⟨g, 0, none⟩) 4 c, .slice (some ⟨d, 0, none⟩) 6 dc].toArray rfl rfl hHeld.2.free (unhide HSS) (by kernel_rfl) ?_
    refine hK.out _ _ ⟨hHeld.1.trans (kz.sub (fun x hx => by simp at hx; simp [hx])), cBZ⟩ (fun hHeld => ?_)
    clear hK K
    try simp only [Act.put, List.setIfInBounds_toArray, List.set_cons_zero, List.set_cons_succ]
    refine wpAnyH_done (by kernel_rfl) ?_ _
    refine NoPanic.normal ?_
    have SZ := SA.kept kz (fun y hy hm => by simp at hm; subst hm; have := hL0 _ hy; omega)
    have cRZ := csAt_kept cRA kz (by omega) (by simp; omega)
    have dZ := rd_set dA kz (by omega) (by omega) (by omega)
    have kZ := kAA.then kz (fun y hy => by simp at hy; subst hy; right; omega)
    have sZ := Nat.le_trans sA' kz.size
    have hB'4 := ok_len ok'
    have hF' := ok_fours ok'
    have SNZ := SN.of SZ (by omega) (fun b hb => by have := hF' b hb; omega)
    have OZ : Hid (okB B' = true → D'.length = 6 → (0 : Nat) = 0 ∧ (0 : Nat) = 0 ∧ ∃ G, St (wA.setCells sb 0 [.slice (some ⟨g, 0, none⟩) 4 c, .slice (some ⟨d, 0, none⟩) 6 dc]) (R + 1) g d G B' D' ∧ ∀ x ∈ d :: g :: G, x < sb) := fun _ _ => ⟨rfl, rfl, G, SZ, hxs⟩
    have hD'6 := SZ.six
    clear hHeld SS6 SS7 SS8 SS9 SA cRA cR7 cR8 cR9 d6 d7 d8 d9 dA k6 k7 k8 k9 kAA kA kz cR cB y0 y1 S6
    generalize wA.setCells sb 0 [.slice (some ⟨g, 0, none⟩) 4 c, .slice (some ⟨d, 0, none⟩) 6 dc] = wZ at *
    go_wp2
    go_roundw
    case rel => exact ⟨k + 1, B', D', p' + 1 + 1 + 1, by omega, by first | rfl | go_num, hB'4, hD'6, SNZ, (by first | exact OZ | exact fun q1 q2 => by have := unhide OZ q1 q2; simpa using this), cBZ, cRZ, by omega, by omega, dZ, kZ, sZ⟩
    case measure => simp [intOf]; omega
end Go.Proofs.YtbiokmojjneleaaGreat.Fu

/-
  A put that is drawn: a store, an address, and a value.
-/
namespace Go.Proofs.YtbiokmojjneleaaGreat.DrF
open Go.ChangeShapes Go.WideShapes Go.ChangeAt Go.RowKit Go.Shelf Big Fl ImplF ImplL Kp StA RmA DoA AlA DpA NwA Pick Draw EvA ImplB ImplS ImplU SpecC SpecD SpecW ImplW PyA FlB ClA DrB StB StG StN Fu
set_option linter.unusedVariables false
set_option linter.unusedSimpArgs false
attribute [local go_sem ↓] Go.wp_at_zero Go.wp_at_succ

theorem res_three {P : Program} {fn : Func} {p q r : Tmp} {ty : TypeId} (h : fn.results = #[.cell p ty, .tmp q, .tmp r]) (tmps : Array Value) (w : World) (g : Nat) (cs : List Value) (d : TypeDesc)
    (hp : tmps.getD p undef = .pointer (some ⟨g, 0, none⟩)) (hg : w.rangeAt g 0 cs) (hu : P.underlying ty = some d) (hd : d.isRow = true) (hi : (P.info? ty).map (·.size) = some cs.length) :
    (results fn tmps).run P w = .ok (.tuple #[.agg cs.toArray, tmps.getD q undef, tmps.getD r undef]) w := by
  have hp' : tmps[p]?.getD undef = .pointer (some ⟨g, 0, none⟩) := by simpa using hp
  simp [results, h, hp', asAddr, run_loadVar_mid w g 0 ty cs d hg hu hd hi]
def DpPost (w : World) (e : Ending) (w' : World) : Prop := ∃ g o c bs d z dc dk k v, e = .returned (.tuple #[.agg #[.slice (some ⟨g, o, none⟩) bs.length c, .slice (some ⟨d, z, none⟩) dk.length dc], .int .i64 k, .int .i64 v]) ∧ SN w.heap.size w' g o bs d z dk ∧ 1 ≤ k ∧ k ≤ 12 ∧ -10 ≤ v ∧ v ≤ 9 ∧ Below w.heap.size w w'
theorem here : True := trivial
end Go.Proofs.YtbiokmojjneleaaGreat.DrF

/-
  A fill that is drawn: a store, and an address.
-/
namespace Go.Proofs.YtbiokmojjneleaaGreat.DrX
open Go.ChangeShapes Go.WideShapes Go.ChangeAt Go.RowKit Go.Shelf Big Fl ImplF ImplL Kp StA RmA DoA AlA DpA NwA Pick Draw EvA ImplB ImplS ImplU SpecC SpecD SpecW SpecL FindL Pl ImplW PyA FlB ClA DrB StB StG StN Fu DrF Sv
set_option linter.unusedVariables false
set_option linter.unusedSimpArgs false
attribute [local go_sem ↓] Go.wp_at_zero Go.wp_at_succ

def DxPost (w : World) (e : Ending) (w' : World) : Prop := ∃ g o c bs d z dc dk k, e = .returned (.tuple #[.agg #[.slice (some ⟨g, o, none⟩) bs.length c, .slice (some ⟨d, z, none⟩) dk.length dc], .int .i64 k]) ∧ SN w.heap.size w' g o bs d z dk ∧ 1 ≤ k ∧ k ≤ 6 ∧ Below w.heap.size w w'
theorem here : True := trivial
end Go.Proofs.YtbiokmojjneleaaGreat.DrX

/-
  What is put, and flushed, step by step, as the laws ask it; plain facts of these steps.
-/
namespace Go.Proofs.YtbiokmojjneleaaGreat.Pw
open Go.ChangeShapes Go.WideShapes Go.ChangeAt Go.RowKit Go.Shelf OkA Big Fl ImplB ImplF ImplS ImplT ImplU SpecA SpecB SpecC SpecD SpecW SpecF SpecG SpecH FindP ImplL FindN FindL FindD FindO Pl Kp StA StB StC StD StE StF StG SpS SpT Sv RmA WrA FlA PlA PlB SpU TwC
set_option linter.unusedVariables false
set_option linter.unusedSimpArgs false

/-- A list of steps lies there. -/
def StAt (w : World) (a : Option Addr) (l : List Stp) : Prop := l = [] ∨ ∃ g, a = some ⟨g, 0, none⟩ ∧ g < w.heap.size ∧ w.rangeAt g 0 (stsC l)
theorem StAt.below {w w' : World} {a : Option Addr} {l : List Stp} (h : StAt w a l) (b : Below w.heap.size w w') : StAt w' a l := by
  rcases h with h | ⟨g, rfl, h1, h2⟩
  · exact .inl h
  · exact .inr ⟨g, rfl, Nat.lt_of_lt_of_le h1 b.size, rangeAt_below h2 b h1⟩
def SlPost (w : World) (l : List Stp) (e : Ending) (w' : World) : Prop := ∃ a cap, e = .returned (.slice a l.length cap) ∧ StAt w' a l ∧ Below w.heap.size w w'
theorem slForm {w : World} {l : List Stp} {e : Ending} {w' : World} (h : StpPost w l e w') : SlPost w l e w' := by
  obtain ⟨v, rfl, hs, b⟩ := h
  obtain ⟨a, cap, rfl, h2⟩ := stsForm hs
  refine ⟨a, cap, rfl, ?_, b⟩
  rcases h2 with h2 | ⟨g, rfl, _, h3, h4⟩
  · exact .inl h2
  · exact .inr ⟨g, rfl, h3, h4⟩
variable {fa da : Option Addr} {fc dc : Nat} {bs : List Bk} {dk : List Int}
theorem iPut (k v : Int) (w : World) (h : SAt w fa bs da dk) (h4 : bs.length ≤ 4) (h6 : dk.length ≤ 6) :
    Calls Tryz.prog 123 #[.agg #[.slice fa bs.length fc, .slice da dk.length dc], .int .i64 k, .int .i64 v] w fun e w' => SlPost w (putS bs dk k v) e w' := (implPut_any fa fc bs da dc dk k v w h (by omega) (by omega)).mono fun _ _ q => slForm q
theorem iFlush (k : Int) (hk0 : -1000 ≤ k) (hk1 : k ≤ 1000) (w : World) (h : SAt w fa bs da dk) (h4 : bs.length ≤ 4) (h6 : dk.length ≤ 6) :
    Calls Tryz.prog 121 #[.agg #[.slice fa bs.length fc, .slice da dk.length dc], .int .i64 k] w fun e w' => SlPost w (flushS bs dk k) e w' := (implFlush_any fa fc bs da dc dk k (by omega) (by omega) w h (by omega) (by omega)).mono fun _ _ q => slForm q
/-- How many of the first j steps wipe. -/
def wpN (l : List Stp) (j : Nat) : Nat := ((l.take j).filter fun x => x.kind == 2).length
theorem wpN_succ (l : List Stp) (j : Nat) (hj : j < l.length) : wpN l (j + 1) = wpN l j + if l[j].kind = 2 then 1 else 0 := by
  unfold wpN
  rw [List.take_succ_eq_append_getElem hj, List.filter_append, List.length_append]
  by_cases e : l[j].kind = 2
  · rw [if_pos e]; simp [e]
  · rw [if_neg e]; simp [e]
theorem wpN_le (l : List Stp) (j : Nat) : wpN l j ≤ j := by
  unfold wpN
  refine Nat.le_trans (List.length_filter_le _ _) ?_
  rw [List.length_take]; omega
theorem put_form {a v : Int} (hne : putS bs dk a v ≠ []) : stB bs dk = true ∧ roomO bs = true ∧ recB 1 (mostB bs + 1) a v = true ∧ putS bs dk a v = roomL bs ++ [writeS (roomB bs) ⟨1, mostB bs + 1, a, v⟩] := by
  unfold putS at hne ⊢
  cases hs : stB bs dk
  · rw [hs] at hne; exact absurd rfl hne
  rw [hs] at hne
  rw [if_pos rfl] at hne ⊢
  unfold writeP at hne ⊢
  cases hc : roomO bs && recB 1 (mostB bs + 1) a v
  · rw [hc] at hne; exact absurd rfl hne
  · rw [Bool.and_eq_true] at hc
    exact ⟨rfl, hc.1, hc.2, rfl⟩
theorem tell_kind (ps : List Pg) : ∀ x ∈ tellP bs ps, x.kind = 1 := fun x hx => by
  unfold tellP at hx
  rw [List.mem_filterMap] at hx
  obtain ⟨p, _, e⟩ := hx
  split at e
  · simp at e; subst e; rfl
  · cases e
theorem put_wipes {a v : Int} (hne : putS bs dk a v ≠ []) : ((putS bs dk a v).length = 1 ↔ wpN (putS bs dk a v) (putS bs dk a v).length = 0) ∧ wpN (putS bs dk a v) (putS bs dk a v).length ≤ 1 := by
  obtain ⟨_, _, _, e⟩ := put_form hne
  rw [e]
  unfold wpN
  rw [List.take_length]
  unfold roomL
  split
  · simp [writeS]
  · have h0 : ((tellP bs (bs.getD (oldB bs) zBk).ps).filter fun x => x.kind == 2) = [] := List.filter_eq_nil_iff.2 fun x hx => by rw [tell_kind _ x hx]; decide
    rw [List.filter_append, List.filter_append, h0]
    simp [writeS, wipeS]
theorem put_len (a v : Int) : (putS bs dk a v).length ≤ 6 := by
  unfold putS
  cases hs : stB bs dk
  · simp
  · have hok := (st_parts hs).1
    rw [if_pos rfl]
    unfold writeP
    split
    · have := roomL_len bs (ok_fours hok) (ok_len hok)
      rw [List.length_append]; simp; omega
    · simp
theorem flush_len (a : Int) : (flushS bs dk a).length ≤ 7 := by
  unfold flushS
  cases hs : stB bs dk
  · simp
  · exact flushP_len bs dk a (st_parts hs).1
theorem put_can {a v : Int} (hs : stB bs dk = true) (h1 : 1 ≤ a) (h6 : a ≤ 6) (h0 : 0 ≤ v) (h9 : v ≤ 9) : decide (0 < (putS bs dk a v).length) = (decide (nextR bs ≤ 600) && ((fopR bs).2 || decide ((bs.getD (oldN bs 3) zBk).wn < 200))) := by
  have hok := (st_parts hs).1
  obtain ⟨e, n1, _⟩ := next_ok hok
  have hr : recB 1 (mostB bs + 1) a v = decide (nextR bs ≤ 600) := by
    rw [← e]
    rw [Bool.eq_iff_iff, decide_eq_true_iff]
    simp [recB, numB, inB]
    omega
  unfold putS
  rw [if_pos hs]
  unfold writeP
  rw [hr, fop_ok hok]
  have ho : roomO bs = ((openR bs).2 || decide ((bs.getD (oldN bs 3) zBk).wn < 200)) := rfl
  rw [← ho]
  cases roomO bs <;> cases decide (nextR bs ≤ 600) <;> simp
theorem here : True := trivial
end Go.Proofs.YtbiokmojjneleaaGreat.Pw

/-
  A flush that is drawn: a store and an address.
-/
namespace Go.Proofs.YtbiokmojjneleaaGreat.DrG
open Go.ChangeShapes Go.WideShapes Go.ChangeAt Go.RowKit Go.Shelf Big Fl ImplF ImplL Kp StA RmA DoA AlA DpA NwA Pick Draw EvA ImplB ImplS ImplU SpecC SpecD SpecW ImplW PyA FlB ClA DrB StB StD StG SpS SpT StN Fu Sv
set_option linter.unusedVariables false
set_option linter.unusedSimpArgs false
attribute [local go_sem ↓] Go.wp_at_zero Go.wp_at_succ

def DgPost (w : World) (e : Ending) (w' : World) : Prop := ∃ g o c bs d z dc dk k, e = .returned (.tuple #[.agg #[.slice (some ⟨g, o, none⟩) bs.length c, .slice (some ⟨d, z, none⟩) dk.length dc], .int .i64 k]) ∧ SN w.heap.size w' g o bs d z dk ∧ 1 ≤ k ∧ k ≤ 12 ∧ Below w.heap.size w w'
theorem dy_rng (bs : List Bk) (dk : List Int) : ∀ x ∈ dyS bs dk, 1 ≤ x ∧ x ≤ 6 := fun x hx => by
  unfold dyS at hx
  split at hx
  · unfold dyK at hx
    have := (List.mem_filter.1 hx).1
    simp at this
    omega
  · simp at hx
theorem dy_le6 (bs : List Bk) (dk : List Int) : (dyS bs dk).length ≤ 6 := by
  unfold dyS
  split
  · exact dyK_len bs 6
  · simp
theorem here : True := trivial
end Go.Proofs.YtbiokmojjneleaaGreat.DrG

/-
  Plain facts of a flush.
-/
namespace Go.Proofs.YtbiokmojjneleaaGreat.Pv
open Go.ChangeShapes Go.WideShapes Go.ChangeAt Go.RowKit Go.Shelf OkA Big Fl ImplB ImplF ImplS ImplT ImplU SpecA SpecB SpecC SpecD SpecW SpecF SpecG SpecH FindP ImplL FindN FindL FindD FindO Pl Kp StA StB StC StD StE StF StG SpS SpT Sv RmA WrA FlA PlA PlB SpU TwC Pw Py
set_option linter.unusedVariables false
set_option linter.unusedSimpArgs false
variable {bs : List Bk} {dk : List Int}
/-- Whether a value is to be told. -/
def dtB (bs : List Bk) (k : Int) : Bool := inB k 1 6 && dirtyB bs k
/-- Whether one of the first j numbers is this one. -/
def anyN (l : List Int) (k : Int) (j : Nat) : Bool := (l.take j).any fun x => x == k
theorem anyN_succ (l : List Int) (k : Int) (j : Nat) (hj : j < l.length) : anyN l k (j + 1) = (anyN l k j || l.getD j 0 == k) := by
  unfold anyN
  rw [List.take_succ_eq_append_getElem hj, List.any_append, List.getD_eq_getElem?_getD, List.getElem?_eq_getElem hj]
  simp
theorem any_dy (hs : stB bs dk = true) (k : Int) : anyN (dyS bs dk) k (dyS bs dk).length = dtB bs k := by
  unfold anyN
  rw [List.take_length, dy_ok hs, Bool.eq_iff_iff, List.any_eq_true]
  unfold dtB dyK
  constructor
  · rintro ⟨x, hx, e⟩
    obtain ⟨h1, h2⟩ := List.mem_filter.1 hx
    rw [List.mem_map] at h1
    obtain ⟨i, hi, rfl⟩ := h1
    rw [List.mem_range] at hi
    have e' : ((i : Nat) : Int) + 1 = k := by simpa using e
    rw [← e', h2]
    simp [inB]; omega
  · intro h
    rw [Bool.and_eq_true] at h
    have h1 : 1 ≤ k ∧ k ≤ 6 := by simpa [inB] using h.1
    refine ⟨k, List.mem_filter.2 ⟨List.mem_map.2 ⟨(k - 1).toNat, List.mem_range.2 (by omega), by omega⟩, h.2⟩, by simp⟩
theorem dt_read (hs : stB bs dk = true) {k : Int} (hd : dtB bs k = true) : (1 ≤ k ∧ k ≤ 6) ∧ rdS bs dk k = readI bs dk k ∧ 0 ≤ readI bs dk k ∧ readI bs dk k ≤ 9 := by
  unfold dtB at hd
  rw [Bool.and_eq_true] at hd
  have h1 : 1 ≤ k ∧ k ≤ 6 := by simpa [inB] using hd.1
  have hok := (st_parts hs).1
  unfold dirtyB at hd
  rw [Bool.and_eq_true] at hd
  have hr : readI bs dk k = (lastR bs k).v := by unfold readI; rw [hd.2.1, if_pos rfl]
  refine ⟨h1, by unfold rdS; rw [hs, hd.1]; rfl, ?_⟩
  rw [hr]
  rcases lastR_ok bs k hok with e | ⟨e, _⟩
  · have := hd.2.1; unfold lastO at this; rw [e] at this; simp [zRc] at this
  · simp [recB, numB, inB] at e
    omega
theorem fl_def (hs : stB bs dk = true) (k : Int) : flushS bs dk k = if dtB bs k then (if (writeP bs 2 k (readI bs dk k)).isEmpty then [] else diskS k (readI bs dk k) :: writeP bs 2 k (readI bs dk k)) else [] := by
  unfold flushS
  rw [if_pos hs]; rfl
theorem rec_same {k v v' : Int} (h1 : 1 ≤ k) (h6 : k ≤ 6) (h0 : 0 ≤ v) (h9 : v ≤ 9) (h0' : 0 ≤ v') (h9' : v' ≤ 9) (s : Int) : recB 2 s k v = recB 1 s k v' := by
  rw [Bool.eq_iff_iff]
  simp [recB, numB, inB]
  omega
theorem fl_zero (hs : stB bs dk = true) {k : Int} (hd : dtB bs k = true) (h : flushS bs dk k = []) : putS bs dk k 1 = [] := by
  obtain ⟨h1, _, h0, h9⟩ := dt_read hs hd
  rw [fl_def hs, if_pos hd] at h
  unfold putS
  rw [if_pos hs]
  cases hw : (writeP bs 2 k (readI bs dk k)).isEmpty
  · rw [hw] at h; cases h
  · unfold writeP at hw ⊢
    rw [rec_same h1.1 h1.2 h0 h9 (show (0 : Int) ≤ 1 by omega) (show (1 : Int) ≤ 9 by omega)] at hw
    cases hc : roomO bs && recB 1 (mostB bs + 1) k 1
    · rfl
    · rw [hc] at hw; simp at hw
theorem fl_pos (hs : stB bs dk = true) {k : Int} (h : flushS bs dk k ≠ []) : dtB bs k = true ∧ flushS bs dk k = diskS k (rdS bs dk k) :: (roomL bs ++ [writeS (roomB bs) ⟨2, mostB bs + 1, k, rdS bs dk k⟩]) ∧ putS bs dk k (rdS bs dk k) = roomL bs ++ [writeS (roomB bs) ⟨1, mostB bs + 1, k, rdS bs dk k⟩] := by
  rw [fl_def hs] at h
  cases hd : dtB bs k
  · rw [hd] at h; exact absurd rfl h
  rw [hd, if_pos rfl] at h
  obtain ⟨h1, hr, h0, h9⟩ := dt_read hs hd
  cases hw : (writeP bs 2 k (readI bs dk k)).isEmpty
  · have hc : (roomO bs && recB 2 (mostB bs + 1) k (readI bs dk k)) = true := by
      cases hc : roomO bs && recB 2 (mostB bs + 1) k (readI bs dk k)
      · unfold writeP at hw; rw [hc] at hw; simp at hw
      · rfl
    refine ⟨rfl, ?_, ?_⟩
    · rw [fl_def hs, hd, if_pos rfl, hw, hr]
      unfold writeP
      rw [hc]; rfl
    · unfold putS
      rw [if_pos hs]
      unfold writeP
      rw [hr, ← rec_same h1.1 h1.2 h0 h9 h0 h9, hc]; rfl
  · rw [hw] at h; exact absurd rfl h
end Go.Proofs.YtbiokmojjneleaaGreat.Pv

/-
  Plain facts of numbers: how great the numbers of records get, and how worn blocks are, behind what happens; what can be put then.
-/
namespace Go.Proofs.YtbiokmojjneleaaGreat.Nf
open Go.ChangeShapes Go.WideShapes Go.ChangeAt Go.RowKit Go.Shelf OkA Big Fl ImplB ImplF ImplS ImplT ImplU SpecA SpecB SpecC SpecD SpecW SpecX SpecF SpecG SpecH Ok2 FindP FindO ImplL FindN FindL Pl Kp StA StB StC StD StE StF StG SpS SpT Sv NwA PlB PlC PlD SpecO ImplQ FindQ Py Pz RmA WrA FlA DoA ToA PlA SpU TwC QuB QuE Ct AlX PaA DpX Cu
set_option linter.unusedVariables false
set_option linter.unusedSimpArgs false
variable {bs : List Bk} {dk : List Int} {L T : List Stp} {wp : Bool} {kb : Nat} {rk ra rv : Int}

theorem getD_setB (bs : List Bk) (k j : Nat) (b : Bk) (hk : k < bs.length) : (bs.set k b).getD j zBk = if j = k then b else bs.getD j zBk := by
  rw [List.getD_eq_getElem?_getD, List.getD_eq_getElem?_getD, List.getElem?_set]
  by_cases e : k = j
  · subst e; simp [hk]
  · rw [if_neg e, if_neg (fun h => e h.symm)]
/-- Four times how often a block was wiped, and how many of its pages are used. -/
def bN (bs : List Bk) (j : Nat) : Int := 4 * (bs.getD j zBk).wn + (usedN (bs.getD j zBk).ps : Int)
def ph (bs : List Bk) : Int := bN bs 0 + bN bs 1 + bN bs 2 + bN bs 3
theorem ph_new : ph zFs = 0 := by decide
theorem ph_set (hl : bs.length = 4) {k : Nat} (hk : k < 4) (b : Bk) : ph (bs.set k b) = ph bs - bN bs k + (4 * b.wn + (usedN b.ps : Int)) := by
  have e : ∀ j, bN (bs.set k b) j = if j = k then 4 * b.wn + (usedN b.ps : Int) else bN bs j := fun j => by
    unfold bN
    rw [getD_setB bs k j b (by omega)]
    split <;> rfl
  unfold ph
  rw [e 0, e 1, e 2, e 3]
  have : k = 0 ∨ k = 1 ∨ k = 2 ∨ k = 3 := by omega
  rcases this with rfl | rfl | rfl | rfl <;> simp <;> omega
theorem ph_wi (hok : okB bs = true) {k : Nat} (hk : k < 4) (h0 : cN bs k = 0) (torn : Bool) : ph (wiL bs k torn) = ph bs + if torn then 4 else 0 := by
  have hu := (clean_eq hok k hk).2.2
  unfold wiL
  rw [ph_set (ok_len hok) hk]
  have e : (usedN (wiB (bs.getD k zBk) torn).ps : Int) = if torn then 4 else 0 := by cases torn <;> rfl
  have e2 : (wiB (bs.getD k zBk) torn).wn = (bs.getD k zBk).wn + 1 := rfl
  rw [e, e2]
  unfold bN
  generalize (if torn then (4 : Int) else 0) = q
  omega
theorem ph_wr (hok : okB bs = true) {k : Nat} (hk : k < 4) (h0 : 0 < cN bs k) (torn : Bool) (rk rs ra rv : Int) : ph (wrL bs k (pgW torn rk rs ra rv)) = ph bs + 1 := by
  have hu := (clean_eq hok k hk).2.2
  have hl := ok_len hok
  have h4 : (bs.getD k zBk).ps.length = 4 := by rw [getD_in bs k (by omega)]; exact (ok_fours hok).at k (by omega)
  have ht : tailB (bs.getD k zBk).ps = true := by rw [getD_in bs k (by omega)]; exact ok_tail hok k (by omega)
  unfold wrL
  rw [ph_set hl hk, (used_set _ h4 _ (pgW_st torn rk rs ra rv) (by omega) ht).2]
  unfold bN
  simp; omega
theorem most_wr (k : Nat) (p : Pg) {m : Int} (h : mostB bs ≤ m) (hp : p.s ≤ m) : mostB (wrL bs k p) ≤ m := by
  have h0 := mostB_0 bs
  rw [mostB_iff]
  refine ⟨by omega, fun b hb => ?_⟩
  rcases List.mem_or_eq_of_mem_set hb with hb | rfl
  · have := mostB_ge bs b hb; omega
  · rw [mostN_iff]
    refine ⟨by omega, fun q hq => ?_⟩
    rcases List.mem_or_eq_of_mem_set hq with hq | rfl
    · by_cases hk : k < bs.length
      · rw [getD_in bs k hk] at hq
        have := most_page bs _ (List.getElem_mem hk) q hq; omega
      · have e : bs.getD k zBk = zBk := by rw [List.getD_eq_getElem?_getD, List.getElem?_eq_none (by omega)]; rfl
        rw [e] at hq
        simp [zBk, zPg] at hq
        subst hq; show (0 : Int) ≤ m; omega
    · exact hp
theorem pgW_s (torn : Bool) (rk rs ra rv : Int) (h : 0 ≤ rs) : (pgW torn rk rs ra rv).s ≤ rs := by cases torn <;> simp [pgW] <;> omega

/-- How the numbers grow. -/
def Gr (bs bs' : List Bk) (m n : Int) : Prop := mostB bs' ≤ mostB bs + m ∧ ph bs' ≤ ph bs + n
theorem Gr.refl (bs : List Bk) {m n : Int} (hm : 0 ≤ m) (hn : 0 ≤ n) : Gr bs bs m n := ⟨by omega, by omega⟩
theorem Gr.trans {b1 b2 b3 : List Bk} {m n m' n' : Int} (h : Gr b1 b2 m n) (g : Gr b2 b3 m' n') : Gr b1 b3 (m + m') (n + n') := ⟨by have := h.1; have := g.1; omega, by have := h.2; have := g.2; omega⟩
theorem Gr.le {b1 b2 : List Bk} {m n m' n' : Int} (h : Gr b1 b2 m n) (hm : m ≤ m') (hn : n ≤ n') : Gr b1 b2 m' n' := ⟨by have := h.1; omega, by have := h.2; omega⟩
theorem _root_.Go.Proofs.YtbiokmojjneleaaGreat.Ct.Pn.wi_gr (h : Pn bs dk L T true kb rk ra rv) (torn : Bool) : Gr bs (wiL bs kb torn) 0 (if torn then 4 else 0) := by
  obtain ⟨hok, _⟩ := st_ord h.st
  have := mostB_wi bs kb torn
  exact ⟨by omega, by rw [ph_wi hok h.kb4 ((h.no rfl).1 kb h.kb4) torn]; exact Int.le_refl _⟩
theorem _root_.Go.Proofs.YtbiokmojjneleaaGreat.Ct.Pn.wp_gr (h : Pn bs dk L T wp kb rk ra rv) : Gr bs (wpF bs wp kb) 0 0 := by
  unfold wpF
  cases wp
  · exact Gr.refl _ (by omega) (by omega)
  · exact h.wi_gr false
theorem _root_.Go.Proofs.YtbiokmojjneleaaGreat.Ct.Pn.wr_gr (h : Pn bs dk L T wp kb rk ra rv) (torn : Bool) : Gr bs (wrL (wpF bs wp kb) kb (pgW torn rk (mostB bs + 1) ra rv)) 1 1 := by
  have hw := h.wr
  have hg := h.wp_gr
  have hn := h.num
  refine ⟨most_wr kb _ (by have := hg.1; omega) (pgW_s _ _ _ _ _ (by omega)), ?_⟩
  rw [ph_wr hw.ok h.kb4 hw.pos]
  have := hg.2; omega
/-- What stands wherever it falls. -/
theorem _root_.Go.Proofs.YtbiokmojjneleaaGreat.Ct.Pn.cases (h : Pn bs dk L T wp kb rk ra rv) (n : Nat) (hn : n < L.length) : (∃ T', (∀ x ∈ T', x ∈ T) ∧ toD dk (L.take n) = toD dk T') ∧ ((toF bs (L.take n) = bs ∧ doF (toF bs (L.take n)) (L.getD n zSt) true = bs) ∨ (wp = true ∧ toF bs (L.take n) = bs ∧ doF (toF bs (L.take n)) (L.getD n zSt) true = wiL bs kb true) ∨ (toF bs (L.take n) = wpF bs wp kb ∧ doF (toF bs (L.take n)) (L.getD n zSt) true = wrL (wpF bs wp kb) kb (pgW true rk (mostB bs + 1) ra rv))) := by
  have hlen := h.len
  by_cases h1 : n < T.length
  · have e1 : L.take n = T.take n := by rw [h.eq, List.take_append_of_le_length (by omega)]
    have e2 : L.getD n zSt = T[n] := by rw [h.eq, List.getD_eq_getElem?_getD, List.getElem?_append_left h1, List.getElem?_eq_getElem h1]; rfl
    have ht : Tl bs (T.take n) := fun x hx => h.tl x (List.mem_of_mem_take hx)
    obtain ⟨t1, t2, _⟩ := tell_all (T.take n) dk ht h.st
    have hk := h.tl.kind _ (List.getElem_mem h1)
    rw [e1, e2, t1]
    have : doF bs T[n] true = bs := by unfold doF; rw [if_neg (by omega), if_neg (by omega)]
    exact ⟨⟨T.take n, fun x hx => List.mem_of_mem_take hx, rfl⟩, .inl ⟨rfl, this⟩⟩
  by_cases h2 : n = T.length + (if wp then 1 else 0)
  · obtain ⟨p1, p2⟩ := h.pre
    have e1 : L.take n = T ++ (if wp then [wipeS (kb : Int)] else []) := by
      rw [h.eq, ← List.append_assoc]
      exact List.take_left' (by rw [List.length_append, h2]; cases wp <;> rfl)
    have e2 : L.getD n zSt = writeS (kb : Int) ⟨rk, mostB bs + 1, ra, rv⟩ := by
      rw [h.eq, ← List.append_assoc, List.getD_eq_getElem?_getD, List.getElem?_append_right (by rw [List.length_append, h2]; cases wp <;> simp)]
      rw [show n - (T ++ (if wp then [wipeS (kb : Int)] else [])).length = 0 by rw [List.length_append, h2]; cases wp <;> simp]
      rfl
    rw [e1, e2, p1, p2, h.wrF]
    exact ⟨⟨T, fun x hx => hx, rfl⟩, .inr (.inr ⟨rfl, rfl⟩)⟩
  · cases wp
    · simp at h2 hlen; omega
    · have hn : n = T.length := by simp at h2 hlen; omega
      obtain ⟨t1, t2, _⟩ := tell_all T dk h.tl h.st
      have e1 : L.take n = T := by rw [h.eq]; exact List.take_left' hn.symm
      have e2 : L.getD n zSt = wipeS (kb : Int) := by
        rw [h.eq, List.getD_eq_getElem?_getD, List.getElem?_append_right (by omega), show n - T.length = 0 by omega]
        rfl
      rw [e1, e2, t1, h.wiF]
      exact ⟨⟨T, fun x hx => hx, rfl⟩, .inr (.inl ⟨rfl, rfl, rfl⟩)⟩
theorem _root_.Go.Proofs.YtbiokmojjneleaaGreat.Ct.Pn.done_gr (h : Pn bs dk L T wp kb rk ra rv) (cut : Int) (h1 : (L.length : Int) ≤ cut) (torn : Bool) : Gr bs (toB bs L cut torn) 1 1 := by
  rw [(to_done (bs := bs) (dk := dk) h1 torn).1, h.full.1]
  exact h.wr_gr false
theorem _root_.Go.Proofs.YtbiokmojjneleaaGreat.Ct.Pn.gr (h : Pn bs dk L T wp kb rk ra rv) (cut : Int) (h0 : 0 ≤ cut) (torn : Bool) : Gr bs (toB bs L cut torn) 1 4 := by
  by_cases h1 : (L.length : Int) ≤ cut
  · exact (h.done_gr cut h1 torn).le (by omega) (by omega)
  · obtain ⟨_, hc⟩ := h.cases cut.toNat (by omega)
    unfold toB
    rcases hc with ⟨a, b⟩ | ⟨rfl, a, b⟩ | ⟨a, b⟩
    · rw [a] at b
      rw [a, b]
      split <;> exact Gr.refl _ (by omega) (by omega)
    · rw [a] at b
      rw [a, b]
      split
      · exact (h.wi_gr true).le (by omega) (by simp)
      · exact Gr.refl _ (by omega) (by omega)
    · rw [a] at b
      rw [a, b]
      split
      · exact (h.wr_gr true).le (by omega) (by omega)
      · exact h.wp_gr.le (by omega) (by omega)
/-- The slow disk is told but what is dirty. -/
theorem _root_.Go.Proofs.YtbiokmojjneleaaGreat.Ct.Pn.told_of (h : Pn bs dk L T wp kb rk ra rv) (cut : Int) (h0 : 0 ≤ cut) (torn : Bool) : ∃ T', (∀ x ∈ T', x ∈ T) ∧ toK dk L cut torn = toD dk T' := by
  by_cases h1 : (L.length : Int) ≤ cut
  · rw [(to_done (bs := bs) (dk := dk) h1 torn).2, h.full.2]
    exact ⟨T, fun x hx => hx, rfl⟩
  · obtain ⟨hc, _⟩ := h.cases cut.toNat (by omega)
    unfold toK
    rw [doD_torn]
    split <;> exact hc
theorem tell_at (hok : okB bs = true) : ∀ (T : List Stp) (dk : List Int), Tl bs T → dk.length = 6 → ∀ j < 6, (toD dk T).getD j 0 = dk.getD j 0 ∨ (toD dk T).getD j 0 = readI bs dk ((j : Int) + 1)
  | [], _, _, _, _, _ => .inl rfl
  | x :: r, dk, ht, h6, j, hj => by
    obtain ⟨_, hd, hv⟩ := ht x (by simp)
    have k1 := ht.kind x (by simp)
    have e2 : doD dk x false = dk.set (x.addr - 1).toNat x.val := by unfold doD; rw [if_pos k1]; rfl
    have eD : toD dk (x :: r) = toD (dk.set (x.addr - 1).toNat x.val) r := by show toD (doD dk x false) r = _; rw [e2]
    have hrd := dirty_rd (bs := bs) (dk := dk) hd
    rw [eD]
    have hR : ∀ dk', (lastO bs ((j : Int) + 1) = true → readI bs dk' ((j : Int) + 1) = readI bs dk ((j : Int) + 1)) := fun dk' q => by unfold readI; rw [if_pos q, if_pos q]
    have hset : (dk.set (x.addr - 1).toNat x.val).getD j 0 = dk.getD j 0 ∨ (dk.set (x.addr - 1).toNat x.val).getD j 0 = readI bs dk ((j : Int) + 1) := by
      by_cases hq : (x.addr - 1).toNat < dk.length
      · rw [Pu.getD_set dk _ _ _ hq]
        by_cases e : j = (x.addr - 1).toNat
        · rw [if_pos e]
          have hn := last_num hok hrd.2.1
          right; rw [hv, ← show x.addr = (j : Int) + 1 by omega]; exact hrd.1.symm
        · rw [if_neg e]; exact .inl rfl
      · left; rw [List.set_eq_of_length_le (by omega)]
    rcases tell_at hok r (dk.set (x.addr - 1).toNat x.val) (fun y hy => ht y (by simp [hy])) (by simp [h6]) j hj with i | i
    · rw [i]; exact hset
    · rw [i]
      by_cases q : lastO bs ((j : Int) + 1) = true
      · right; exact hR _ q
      · have e : ∀ dk', readI bs dk' ((j : Int) + 1) = dk'.getD j 0 := fun dk' => by
          unfold readI; rw [if_neg q, show ((j : Int) + 1 - 1).toNat = j by omega]
        rw [e]; exact hset

/-! What happens. -/
theorem doP_gr1 (hs : stB bs dk = true) (x : Ev) (h4 : x.k ≠ 4) : Gr bs (doP bs dk x).1 1 4 := by
  unfold doP
  rw [if_neg h4]
  by_cases hc : x.c < 0
  · rw [if_pos hc]; exact Gr.refl _ (by omega) (by omega)
  rw [if_neg hc]
  rcases ev_plan hs x with e | ⟨T, wp, kb, rk, ra, rv, h, _⟩
  · show Gr bs (toB bs (evP bs dk x) x.c x.t) 1 4
    rw [e, (to_nil (bs := bs) (dk := dk) _ x.t).1]; exact Gr.refl _ (by omega) (by omega)
  · exact h.gr x.c (by omega) x.t
theorem flA_gr {p : List Bk × List Int} (hs : stB p.1 p.2 = true) (n : Nat) : Gr p.1 (flA p n).1 1 1 := by
  unfold flA
  rcases ev_plan hs ⟨2, (n : Int), 0, 0, false⟩ with e | ⟨T, wp, kb, rk, ra, rv, h, hx⟩
  · have e' : flushP p.1 p.2 (n : Int) = [] := e
    rw [e']
    show Gr p.1 (toB p.1 [] _ false) 1 1
    rw [(to_nil (bs := p.1) (dk := p.2) _ false).1]; exact Gr.refl _ (by omega) (by omega)
  · have h' : Pn p.1 p.2 (flushP p.1 p.2 (n : Int)) T wp kb rk ra rv := h
    exact h'.done_gr _ (Int.le_refl _) false
theorem allA_gr (hs : stB bs dk = true) : ∀ n : Nat, Gr bs (allA bs dk n).1 n n
  | 0 => Gr.refl _ (by omega) (by omega)
  | n + 1 => ((allA_gr hs n).trans (flA_gr (allA_sm hs n).1 (n + 1))).le (by omega) (by omega)
theorem doP_grN (hs : stB bs dk = true) (x : Ev) : Gr bs (doP bs dk x).1 (if x.k = 4 then 6 else 1) 6 := by
  by_cases h4 : x.k = 4
  · unfold doP
    rw [if_pos h4, if_pos h4]
    exact allA_gr hs 6
  · rw [if_neg h4]
    exact (doP_gr1 hs x h4).le (by omega) (by omega)
theorem doP_gr (hs : stB bs dk = true) (x : Ev) : Gr bs (doP bs dk x).1 6 6 := (doP_grN hs x).le (by split <;> omega) (by omega)
theorem st_len (hs : stB bs dk = true) : dk.length = 6 := (st_iff.1 hs).2.1
theorem allA_dk (hs : stB bs dk = true) : ∀ n : Nat, ∀ j < 6, (allA bs dk n).2.getD j 0 = dk.getD j 0 ∨ (allA bs dk n).2.getD j 0 = readI bs dk ((j : Int) + 1)
  | 0, _, _ => .inl rfl
  | n + 1, j, hj => by
    have hm := allA_sm hs n
    have hr := hm.2 ((j : Int) + 1) (by omega) (by omega)
    have ih := allA_dk hs n j hj
    show (flA (allA bs dk n) (n + 1)).2.getD j 0 = _ ∨ (flA (allA bs dk n) (n + 1)).2.getD j 0 = _
    generalize allA bs dk n = p at *
    unfold flA
    rcases ev_plan hm.1 ⟨2, ((n + 1 : Nat) : Int), 0, 0, false⟩ with e | ⟨T, wp, kb, rk, ra, rv, h, hx⟩
    · have e' : flushP p.1 p.2 ((n + 1 : Nat) : Int) = [] := e
      rw [e']
      show (toK p.2 [] _ false).getD j 0 = _ ∨ (toK p.2 [] _ false).getD j 0 = _
      rw [(to_nil (bs := p.1) (dk := p.2) _ false).2]; exact ih
    · have h' : Pn p.1 p.2 (flushP p.1 p.2 ((n + 1 : Nat) : Int)) T wp kb rk ra rv := h
      obtain ⟨T', hT, eT⟩ := h'.told_of ((flushP p.1 p.2 ((n + 1 : Nat) : Int)).length : Int) (by omega) false
      show (toK p.2 (flushP p.1 p.2 ((n + 1 : Nat) : Int)) ((flushP p.1 p.2 ((n + 1 : Nat) : Int)).length : Int) false).getD j 0 = _ ∨ (toK p.2 (flushP p.1 p.2 ((n + 1 : Nat) : Int)) ((flushP p.1 p.2 ((n + 1 : Nat) : Int)).length : Int) false).getD j 0 = _
      rw [eT]
      rcases tell_at (st_ord hm.1).1 T' p.2 (fun y hy => h'.tl y (hT y hy)) (st_len hm.1) j hj with i | i
      · rw [i]; exact ih
      · rw [i, hr]; exact .inr rfl
theorem doP_dk (hs : stB bs dk = true) (x : Ev) (j : Nat) (hj : j < 6) : (doP bs dk x).2.getD j 0 = dk.getD j 0 ∨ (doP bs dk x).2.getD j 0 = readI bs dk ((j : Int) + 1) := by
  unfold doP
  by_cases h4 : x.k = 4
  · rw [if_pos h4]; exact allA_dk hs 6 j hj
  rw [if_neg h4]
  by_cases hc : x.c < 0
  · rw [if_pos hc]; exact .inl rfl
  rw [if_neg hc]
  rcases ev_plan hs x with e | ⟨T, wp, kb, rk, ra, rv, h, _⟩
  · show (toK dk (evP bs dk x) x.c x.t).getD j 0 = _ ∨ (toK dk (evP bs dk x) x.c x.t).getD j 0 = _
    rw [e, (to_nil (bs := bs) (dk := dk) _ x.t).2]; exact .inl rfl
  · obtain ⟨T', hT, eT⟩ := h.told_of x.c (by omega) x.t
    show (toK dk (evP bs dk x) x.c x.t).getD j 0 = _ ∨ (toK dk (evP bs dk x) x.c x.t).getD j 0 = _
    rw [eT]
    exact tell_at (st_ord hs).1 T' dk (fun y hy => h.tl y (hT y hy)) (st_len hs) j hj

/-! What can be put. -/
theorem wn_in (hok : okB bs = true) {k : Nat} (hk : k < 4) : 0 ≤ (bs.getD k zBk).wn ∧ (bs.getD k zBk).wn ≤ 200 := by
  have := ((bkB_iff _).1 (((okB_iff bs).1 hok).2.1 _ (mem_getD hok hk))).2.1
  unfold inB at this
  exact this
theorem wn_le (hok : okB bs = true) {k : Nat} (hk : k < 4) : 4 * (bs.getD k zBk).wn ≤ ph bs := by
  have h0 := (wn_in hok (show 0 < 4 by omega)).1
  have h1 := (wn_in hok (show 1 < 4 by omega)).1
  have h2 := (wn_in hok (show 2 < 4 by omega)).1
  have h3 := (wn_in hok (show 3 < 4 by omega)).1
  unfold ph bN
  have : k = 0 ∨ k = 1 ∨ k = 2 ∨ k = 3 := by omega
  rcases this with rfl | rfl | rfl | rfl <;> omega
theorem room_can (hok : okB bs = true) (hp : ph bs < 800) : roomO bs = true := by
  have hk : oldB bs < 4 := by have : oldB bs ≤ 3 := oldN_le bs 3; omega
  have := wn_le hok hk
  unfold roomO
  rw [Bool.or_eq_true]
  right
  exact decide_eq_true (by omega)
theorem write_can (hs : stB bs dk = true) (hp : ph bs < 800) (hm : mostB bs < 600) {k a v : Int} (k1 : 1 ≤ k) (k2 : k ≤ 2) (h1 : 1 ≤ a) (h6 : a ≤ 6) (h0 : 0 ≤ v) (h9 : v ≤ 9) : writeP bs k a v ≠ [] := by
  have hok := (st_ord hs).1
  have hm0 := mostB_0 bs
  have hr : recB k (mostB bs + 1) a v = true := by simp [recB, numB, inB]; omega
  unfold writeP
  rw [room_can hok hp, hr]
  simp
theorem rd_in (hs : stB bs dk = true) {a : Int} (h1 : 1 ≤ a) (h6 : a ≤ 6) : 0 ≤ readI bs dk a ∧ readI bs dk a ≤ 9 := by
  obtain ⟨_, hl, hb⟩ := st_iff.1 hs
  have hb' := (bad_iff.1 (hb (a - 1).toNat (by omega))).1
  unfold readI
  split
  · rename_i q
    have := last_num (st_ord hs).1 q
    omega
  · exact hb'
theorem flush_can (hs : stB bs dk = true) (hp : ph bs < 800) (hm : mostB bs < 600) {a : Int} (hd : dirtyB bs a = true) : flushP bs dk a ≠ [] := by
  have hn := last_num (st_ord hs).1 (dirty_rd (dk := dk) hd).2.1
  have hr := rd_in hs hn.2.2.2.1 hn.2.2.2.2.1
  have hw := write_can hs hp hm (k := 2) (a := a) (v := readI bs dk a) (by omega) (by omega) (by omega) (by omega) hr.1 hr.2
  unfold flushP
  rw [hd, show inB a 1 6 = true by simp [inB]; omega]
  simp only [Bool.and_self, if_true]
  rw [if_neg (by simpa using hw)]
  simp
theorem put_rd (hs : stB bs dk = true) (hp : ph bs < 800) (hm : mostB bs < 600) (x : Ev) (hk : x.k = 1) (h1 : 1 ≤ x.a) (h6 : x.a ≤ 6) (h0 : 0 ≤ x.b) (h9 : x.b ≤ 9) (hc : 6 ≤ x.c) (a : Int) (a1 : 1 ≤ a) (a6 : a ≤ 6) : readI (doP bs dk x).1 (doP bs dk x).2 a = if x.a = a then x.b else readI bs dk a := by
  have hw := write_can hs hp hm (k := 1) (a := x.a) (v := x.b) (by omega) (by omega) h1 h6 h0 h9
  have e : evP bs dk x = writeP bs 1 x.a x.b := by unfold evP; rw [if_pos hk]
  have hl := Pw.put_len (bs := bs) (dk := dk) x.a x.b
  unfold putS at hl
  rw [if_pos hs] at hl
  rw [(doP_rd hs x).2 a a1 a6, e]
  by_cases q : x.a = a
  · rw [if_pos ⟨hk, q, hw, by omega⟩, if_pos q]
  · rw [if_neg (fun t => q t.2.1), if_neg q]

/-! All is told. -/
theorem _root_.Go.Proofs.YtbiokmojjneleaaGreat.Ct.Pn.other (h : Pn bs dk L T wp kb rk ra rv) (cut : Int) (h1 : (L.length : Int) ≤ cut) (torn : Bool) (b : Int) (hb : ra ≠ b) : lastR (toB bs L cut torn) b = lastR bs b ∨ lastR (toB bs L cut torn) b = zRc := by
  rw [(to_done (bs := bs) (dk := dk) h1 torn).1, h.full.1, h.wr.last, if_neg (fun q => hb q.2)]
  unfold wpF
  cases wp
  · exact .inl rfl
  · obtain ⟨_, hkb, _⟩ := h.no rfl
    obtain ⟨hok, ho⟩ := st_ord h.st
    rw [if_pos rfl, hkb]
    rcases wi_last hok ho false b with e | ⟨e, _⟩
    · exact .inl e
    · exact .inr e
theorem dirty_z {b : Int} (h : lastR bs b = zRc) : dirtyB bs b = false := by unfold dirtyB lastO; rw [h]; rfl
theorem flA_clean {p : List Bk × List Int} (hs : stB p.1 p.2 = true) (hp : ph p.1 < 800) (hm : mostB p.1 < 600) (n : Nat) : dirtyB (flA p n).1 (n : Int) = false ∧ ∀ b, dirtyB p.1 b = false → dirtyB (flA p n).1 b = false := by
  unfold flA
  rcases ev_plan hs ⟨2, (n : Int), 0, 0, false⟩ with e | ⟨T, wp, kb, rk, ra, rv, h, hx⟩
  · have e' : flushP p.1 p.2 (n : Int) = [] := e
    rw [e']
    show dirtyB (toB p.1 [] _ false) (n : Int) = false ∧ ∀ b, dirtyB p.1 b = false → dirtyB (toB p.1 [] _ false) b = false
    rw [(to_nil (bs := p.1) (dk := p.2) _ false).1]
    refine ⟨?_, fun b hb => hb⟩
    cases hd : dirtyB p.1 (n : Int)
    · rfl
    · exact absurd e' (flush_can hs hp hm hd)
  · have h' : Pn p.1 p.2 (flushP p.1 p.2 (n : Int)) T wp kb rk ra rv := h
    have hd := h'.done _ (Int.le_refl _) false
    rcases hx with ⟨q, _⟩ | ⟨_, e0, e1, _⟩
    · exact absurd q (by show ¬ ((2 : Int) = 1); omega)
    · have e1' : ra = (n : Int) := e1
      subst e1'
      have hc : dirtyB (toB p.1 (flushP p.1 p.2 (n : Int)) ((flushP p.1 p.2 (n : Int)).length : Int) false) (n : Int) = false := by unfold dirtyB; rw [hd.last, e0]; simp
      refine ⟨hc, fun b hb => ?_⟩
      show dirtyB (toB p.1 (flushP p.1 p.2 (n : Int)) ((flushP p.1 p.2 (n : Int)).length : Int) false) b = false
      by_cases q : (n : Int) = b
      · rw [← q]; exact hc
      · rcases h'.other _ (Int.le_refl _) false b q with i | i
        · unfold dirtyB lastO at hb ⊢; rw [i]; exact hb
        · exact dirty_z i
theorem all_clean (hs : stB bs dk = true) (hp : ph bs < 780) (hm : mostB bs < 580) : ∀ n : Nat, n ≤ 6 → ∀ b : Int, 1 ≤ b → b ≤ n → dirtyB (allA bs dk n).1 b = false
  | 0, _, b, h1, h0 => by omega
  | n + 1, hn, b, h1, h0 => by
    have hg := allA_gr hs n
    have hc := flA_clean (allA_sm hs n).1 (by have := hg.2; omega) (by have := hg.1; omega) (n + 1)
    show dirtyB (flA (allA bs dk n) (n + 1)).1 b = false
    by_cases e : b = ((n + 1 : Nat) : Int)
    · rw [e]; exact hc.1
    · exact hc.2 b (all_clean hs hp hm n (by omega) b h1 (by omega))
def Clean (bs : List Bk) : Prop := ∀ b : Int, 1 ≤ b → b ≤ 6 → dirtyB bs b = false
theorem clean_dy (h : Clean bs) : dyS bs dk = [] := by
  unfold dyS
  split
  · unfold dyK
    rw [List.filter_eq_nil_iff]
    intro x hx
    rw [List.mem_map] at hx
    obtain ⟨i, hi, rfl⟩ := hx
    rw [List.mem_range] at hi
    rw [h ((i : Int) + 1) (by omega) (by omega)]; simp
  · rfl
theorem clean_al (hs : stB bs dk = true) (h : Clean bs) : alS bs dk = dk := by
  have h6 := st_len hs
  unfold alS
  rw [if_pos hs]
  have e : alK bs dk 6 = (List.range 6).map fun i => dk.getD i 0 := List.map_congr_left fun i hi => by
    rw [List.mem_range] at hi
    rw [clean_dk hs (by omega) (by omega) (h ((i : Int) + 1) (by omega) (by omega)), show ((i : Int) + 1 - 1).toNat = i by omega]
  rw [e]
  match dk, h6 with
  | [_, _, _, _, _, _], _ => rfl
theorem flush_none {a : Int} (h : dirtyB bs a = false) : flushP bs dk a = [] := by unfold flushP; rw [h]; simp
theorem flA_none {p : List Bk × List Int} (n : Nat) (h : dirtyB p.1 (n : Int) = false) : flA p n = p := by
  unfold flA
  rw [flush_none h]
  show (toB p.1 [] _ false, toK p.2 [] _ false) = p
  rw [(to_nil (bs := p.1) (dk := p.2) _ false).1, (to_nil (bs := p.1) (dk := p.2) _ false).2]
theorem allA_none (h : Clean bs) : ∀ n : Nat, n ≤ 6 → allA bs dk n = (bs, dk)
  | 0, _ => rfl
  | n + 1, hn => by
    show flA (allA bs dk n) (n + 1) = _
    rw [allA_none h n (by omega)]
    exact flA_none (n + 1) (h _ (by omega) (by omega))
theorem doP_all (x : Ev) (h : x.k = 4) : doP bs dk x = allA bs dk 6 := by unfold doP; rw [if_pos h]
end Go.Proofs.YtbiokmojjneleaaGreat.Nf
