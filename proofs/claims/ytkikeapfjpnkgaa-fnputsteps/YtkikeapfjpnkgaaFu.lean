/-
  Stores that are drawn, often one of which no page is clean.
-/
import Derived.Test.YtkikeapfjpnkgaaSvM
import Derived.Test.YtkikeapfjpnkgaaSpM
import Derived.Test.YtkikeapfjpnkgaaBaL
namespace Go.Proofs.Ytkikeapfjpnkgaa.Fu
open Go.ChangeShapes Go.WideShapes Go.ChangeAt Go.RowKit Go.Shelf Big Fl ImplF ImplL Kp StA RmA DoA AlA DpA NwA Pick Draw EvA ImplB ImplS ImplU SpecC SpecD SpecW ImplW PyA FlB ClA StB StG SpS SpT StN
set_option linter.unusedVariables false
set_option linter.unusedSimpArgs false
attribute [local go_sem ↓] Go.wp_at_zero Go.wp_at_succ

def FuPost (u w0 w : World) (rb : Nat) (a : Option Addr) (len cap : Nat) (p : Int) (e : Ending) (w' : World) : Prop :=
  ∃ g o c bs d z dc dk p', e = .returned (.agg #[.slice (some ⟨g, o, none⟩) bs.length c, .slice (some ⟨d, z, none⟩) dk.length dc]) ∧ SN w.heap.size w' g o bs d z dk ∧ p ≤ p' ∧ p' ≤ p + 1080 ∧ Rd u w0 rb a len cap p' w' ∧ Kept [rb] w w'
theorem okS (fa : Option Addr) (fc : Nat) (bs : List Bk) (da : Option Addr) (dc : Nat) (dk : List Int) (N M : Nat) (hN : bs.length = N) (hM : dk.length = M) (h4 : bs.length ≤ 4) (h6 : dk.length ≤ 6) (hp : ∀ b ∈ bs, b.ps.length ≤ 4) (w : World) (h : SAt w fa bs da dk) :
    Calls Try.prog 72 #[.agg #[.slice fa N fc, .slice da M dc]] w fun e w' => e = .returned (.bool (stB bs dk)) ∧ Below w.heap.size w w' := by
  subst hN hM
  exact specOk_st fa fc bs da dc dk w h (by omega) (fun b hb => by have := hp b hb; omega) (by omega)
theorem openS (g cap : Nat) (bs : List Bk) (w : World) (hF : Fours bs) (h4 : bs.length = 4) (hf : FsAt w (some ⟨g, 0, none⟩) bs) :
    Calls Try.prog 92 #[.slice (some ⟨g, 0, none⟩) 4 cap] w fun e w' => ∃ k b, e = .returned (.tuple #[.int .i64 k, .bool b]) ∧ Below w.heap.size w w' := by
  rcases hf with h | ⟨b, o, e, h⟩
  · rw [h] at h4; cases h4
  · simp at e
    obtain ⟨rfl, rfl⟩ := e
    refine (SpecH.open_any g 0 cap bs w hF h4 h).mono ?_
    rintro e w' ⟨rfl, b⟩
    exact ⟨_, _, rfl, b⟩

set_option maxRecDepth 100000 in
set_option maxHeartbeats 4000000 in
theorem full_any (u w0 w : World) (rb : Nat) (a : Option Addr) (len cap : Nat) (p : Int) (hr : Row w0 a len) (hl : len ≤ 10000) (h : Rd u w0 rb a len cap p w) (hp0 : 0 ≤ p) (hp : p ≤ 450) :
    Calls Try.prog 69 #[.pointer (some ⟨rb, 0, none⟩)] w fun e w' => FuPost u w0 w rb a len cap p e w' := by
  have hlt := h.lt
  have hold := h.old
  have hu := h.kp.size
  have cR0 := CsAt.new w [.slice none 0 0, .slice none 0 0] 54
  have dA := h.alloc (.cells #[.slice none 0 0, .slice none 0 0] 54)
  have kA : Kept [rb] w (w.alloc (.cells #[.slice none 0 0, .slice none 0 0] 54)) := Kept.of ((Below.refl _ _).alloc (Nat.le_refl _) _)
  have sA : (w.alloc (.cells #[.slice none 0 0, .slice none 0 0] 54)).heap.size = w.heap.size + 1 := by simp
  have HST := hide (store_any u w0 _ rb a len cap p hr hl dA hp0 hp)
  have HSS := hide (show (Try.prog.info? 54).map (·.size) = some 2 by kernel_rfl)
  have HBE := hide (fun (x y : Int) => (show Try.prog.built 125 [(0, .int .i64 1), (1, .int .i64 x), (2, .int .i64 y), (3, .int .i64 9)] = some #[.int .i64 1, .int .i64 x, .int .i64 y, .int .i64 9, .bool false] by kernel_rfl))
  clear h
  go_enter Try.func69, Try.ntmps69
  go_wp2_with fail
  refine (unhide HST).mono ?_
  rintro e w1 ⟨g, o, c, bs0, d, z, dc, dk0, p1, rfl, S1, hc4, hp1, hp2, d1, k1⟩
  generalize hR : w.heap.size = R at *
  generalize w.alloc (.cells #[.slice none 0 0, .slice none 0 0] 54) = wa at *
  rw [sA] at S1
  have cR1 := csAt_kept cR0 k1 (by omega) (by simp; omega)
  have k1' := kA.trans k1
  have sz1 := k1.size
  clear HST dA kA cR0 k1 hc4
  have h40 := S1.fs.four
  have h60 := S1.six
  have hp40 := hide S1.fs.pgs
  obtain ⟨N, hN0⟩ : ∃ n, bs0.length = n := ⟨_, rfl⟩
  obtain ⟨M, hM0⟩ : ∃ n, dk0.length = n := ⟨_, rfl⟩
  have HDN : ∀ (bs : List Bk) (dk : List Int) (p' : Int) (w' : World), bs.length = N → dk.length = M → SN (R + 1) w' g o bs d z dk → p ≤ p' → p' ≤ p + 1080 → Rd u w0 rb a len cap p' w' → Kept [rb] w w' → FuPost u w0 w rb a len cap p (.returned (.agg #[.slice (some ⟨g, o, none⟩) N c, .slice (some ⟨d, z, none⟩) M dc])) w' := fun bs dk p' w' e1 e2 h1 h2 h3 h4 h5 => ⟨g, o, c, bs, d, z, dc, dk, p', by rw [e1, e2], h1.mono (by omega), h2, h3, h4, h5⟩
  have O1 : Hid (okB bs0 = true → dk0.length = 6 → o = 0 ∧ z = 0 ∧ ∃ G, St w1 (R + 1) g d G bs0 dk0 ∧ ∀ x ∈ d :: g :: G, x < w1.heap.size) := fun q1 q2 => by
    obtain ⟨e1, e2, G, S⟩ := S1.own q1 q2
    exact ⟨e1, e2, G, S, fun x hx => (S.all x hx).2⟩
  have bB : Below w1.heap.size w1 (w1.alloc (.cells #[.slice (some ⟨g, o, none⟩) N c, .slice (some ⟨d, z, none⟩) M dc] 54)) := (Below.refl _ _).alloc (Nat.le_refl _) _
  have cB2 := CsAt.new w1 [.slice (some ⟨g, o, none⟩) N c, .slice (some ⟨d, z, none⟩) M dc] 54
  have d2 := d1.alloc (.cells #[.slice (some ⟨g, o, none⟩) N c, .slice (some ⟨d, z, none⟩) M dc] 54)
  have S2 := S1.below bB
  have O2 : Hid (okB bs0 = true → dk0.length = 6 → o = 0 ∧ z = 0 ∧ ∃ G, St (w1.alloc (.cells #[.slice (some ⟨g, o, none⟩) N c, .slice (some ⟨d, z, none⟩) M dc] 54)) (R + 1) g d G bs0 dk0 ∧ ∀ x ∈ d :: g :: G, x < w1.heap.size) := fun q1 q2 => by
    obtain ⟨e1, e2, G, S, hx⟩ := unhide O1 q1 q2
    exact ⟨e1, e2, G, S.below bB, hx⟩
  have k2 : Kept [rb] w (w1.alloc (.cells #[.slice (some ⟨g, o, none⟩) N c, .slice (some ⟨d, z, none⟩) M dc] 54)) := k1'.trans (Kept.of bB)
  have cR2 := csAt_kept cR1 (L := []) (Kept.of bB) (by omega) (by simp)
  have sz2 : (w1.alloc (.cells #[.slice (some ⟨g, o, none⟩) N c, .slice (some ⟨d, z, none⟩) M dc] 54)).heap.size = w1.heap.size + 1 := by simp
  have hgs : g < w1.heap.size ∧ d < w1.heap.size ∧ R + 1 ≤ g ∧ R + 1 ≤ d := ⟨S1.fs.ghi, S1.dhi, S1.fs.glo, S1.dlo⟩
  clear S1 bB d1 k1' cR1 O1
  rw [hN0, hM0]
  go_upto_region 3 with fail
  generalize hSB : w1.heap.size = sb at *
  generalize w1.alloc (.cells #[.slice (some ⟨g, o, none⟩) N c, .slice (some ⟨d, z, none⟩) M dc] 54) = w2 at *
  go_loopw [4] (fun i w' => ∃ (k : Nat) (bs : List Bk) (dk : List Int) (p' : Int), k ≤ 12 ∧ i = .int .i64 k ∧ bs.length = N ∧ dk.length = M ∧ SN (R + 1) w' g o bs d z dk ∧ Hid (okB bs = true → dk.length = 6 → o = 0 ∧ z = 0 ∧ ∃ G, St w' (R + 1) g d G bs dk ∧ ∀ x ∈ d :: g :: G, x < sb) ∧ CsAt w' sb [.slice (some ⟨g, o, none⟩) N c, .slice (some ⟨d, z, none⟩) M dc] ∧ CsAt w' R [.slice none 0 0, .slice none 0 0] ∧ p1 ≤ p' ∧ p' ≤ p1 + 3 * k ∧ Rd u w0 rb a len cap p' w' ∧ Kept [rb] w w' ∧ sb + 1 ≤ w'.heap.size) (fun i _ => 12 - (intOf i).toNat)
  case atStart => exact ⟨0, bs0, dk0, p1, by omega, rfl, hN0, hM0, S2, O2, cB2, cR2, by omega, by omega, d2, k2, by omega⟩
  case round =>
    clear S2 O2 cB2 cR2 d2 k2 hN0 hM0 hp40
    obtain ⟨k, bs, dk, p', hk, rfl, hN, hM, S3, O3, cB, cR, q1, q2, d3, k3, s3⟩ := hrel
    have h4 := S3.fs.four
    have h6 := S3.six
    have y0 := cB.cell 0 _ rfl
    have y1 := cB.cell 1 _ rfl
    by_cases h0 : k = 12
    · subst h0
      go_upto_region 9 with fail
      have e0 := cB.cell 0 _ rfl
      have e1 := cB.cell 1 _ rfl
      have d0 := cR.cell 0 _ rfl
      have d1 := cR.cell 1 _ rfl
      have f0 := cR.frozen 0 (by simp)
      have f1 := cR.frozen 1 (by simp)
      have pt1 := cR.put [.slice (some ⟨g, o, none⟩) N c, .slice (some ⟨d, z, none⟩) M dc] rfl
      have kz := kept_cells wr R 0 [.slice (some ⟨g, o, none⟩) N c, .slice (some ⟨d, z, none⟩) M dc]
      have DONE := HDN bs dk p' _ hN hM (S3.kept kz (fun x hx => by simp at hx; omega)) (by omega) (by omega) (rd_set d3 kz (by omega) (by omega) (by omega)) (k3.then kz (fun y hy => by simp at hy; subst hy; right; omega))
      go_wp2
      refine bodyPost_ret (res_cell_mid Try.results69 _ _ R [.slice (some ⟨g, o, none⟩) N c, .slice (some ⟨d, z, none⟩) M dc] _ rfl pt1.cells Try.underlying54 rfl (by kernel_rfl)) rfl ?_
      exact DONE
    have hlt2 : (k : Int) < 12 := by omega
    have HP4 := hide S3.fs.pgs
    have HOK := hide (okS _ c bs _ dc dk N M hN hM h4 h6 (unhide HP4) wr S3.at)
    go_wp2_with fail
    refine (unhide HOK).mono ?_
    rintro e w4 ⟨rfl, b⟩
    have S4 := S3.below b
    have O4 : Hid (okB bs = true → dk.length = 6 → o = 0 ∧ z = 0 ∧ ∃ G, St w4 (R + 1) g d G bs dk ∧ ∀ x ∈ d :: g :: G, x < sb) := fun q1 q2 => by
      obtain ⟨e1, e2, G, S, hx⟩ := unhide O3 q1 q2
      exact ⟨e1, e2, G, S.below b, hx⟩
    have cB4 := csAt_kept cB (L := []) (Kept.of b) (by omega) (by simp)
    have cR4 := csAt_kept cR (L := []) (Kept.of b) (by omega) (by simp)
    have d4 := rd_kept d3 (L := []) (Kept.of b) (by simp)
    have k4 := k3.trans (Kept.of b)
    have s4 := Nat.le_trans s3 b.size
    clear HOK S3 O3 cB cR d3 k3 y0 y1 b
    have cB := cB4
    have cR := cR4
    have y0 := cB.cell 0 _ rfl
    have y1 := cB.cell 1 _ rfl
    clear cB4 cR4
    cases hst : stB bs dk
    · simp only [hst]
      go_upto_region 9 with fail
      have e0 := cB.cell 0 _ rfl
      have e1 := cB.cell 1 _ rfl
      have d0 := cR.cell 0 _ rfl
      have d1 := cR.cell 1 _ rfl
      have f0 := cR.frozen 0 (by simp)
      have f1 := cR.frozen 1 (by simp)
      have pt1 := cR.put [.slice (some ⟨g, o, none⟩) N c, .slice (some ⟨d, z, none⟩) M dc] rfl
      have kz := kept_cells w4 R 0 [.slice (some ⟨g, o, none⟩) N c, .slice (some ⟨d, z, none⟩) M dc]
      have DONE := HDN bs dk p' _ hN hM (S4.kept kz (fun x hx => by simp at hx; omega)) (by omega) (by omega) (rd_set d4 kz (by omega) (by omega) (by omega)) (k4.then kz (fun y hy => by simp at hy; subst hy; right; omega))
      go_wp2
      refine bodyPost_ret (res_cell_mid Try.results69 _ _ R [.slice (some ⟨g, o, none⟩) N c, .slice (some ⟨d, z, none⟩) M dc] _ rfl pt1.cells Try.underlying54 rfl (by kernel_rfl)) rfl ?_
      exact DONE
    obtain ⟨hok, hd6⟩ := st_parts hst
    obtain ⟨e1, e2, G, SS, hxs⟩ := unhide O4 hok hd6
    subst e1 e2
    have hb4 := ok_len hok
    obtain rfl : N = 4 := by omega
    obtain rfl : M = 6 := by omega
    have hrbG : rb ∉ d :: g :: G := fun hm => by have := (SS.all _ hm).1; omega
    simp only [hst]
    go_wp2_with fail
    refine (pick_k u w0 w4 rb a len cap p' 8 hr hl d4 (by omega) (by omega) (by omega) (by omega)).mono ?_
    rintro e w5 ⟨r, rfl, r0, r1, d5, m5⟩
    have S5 := S4.kept m5 (fun x hx => by simp at hx; omega)
    have SS5 := SS.kept m5 (fun x hx hm => by simp at hm; subst hm; exact hrbG hx)
    have cB5 := csAt_kept cB m5 (by omega) (by simp; omega)
    have cR5 := csAt_kept cR m5 (by omega) (by simp; omega)
    have k5 := k4.trans m5
    have s5 := Nat.le_trans s4 m5.size
    clear S4 SS O4 cB cR d4 k4 y0 y1 m5
    have cB := cB5
    have cR := cR5
    have y0 := cB.cell 0 _ rfl
    have y1 := cB.cell 1 _ rfl
    clear cB5 cR5
    by_cases hr0 : r = 0
    · subst hr0
      go_upto_region 9 with fail
      have e0 := cB.cell 0 _ rfl
      have e1 := cB.cell 1 _ rfl
      have d0 := cR.cell 0 _ rfl
      have d1 := cR.cell 1 _ rfl
      have f0 := cR.frozen 0 (by simp)
      have f1 := cR.frozen 1 (by simp)
      have pt1 := cR.put [.slice (some ⟨g, 0, none⟩) 4 c, .slice (some ⟨d, 0, none⟩) 6 dc] rfl
      have kz := kept_cells w5 R 0 [.slice (some ⟨g, 0, none⟩) 4 c, .slice (some ⟨d, 0, none⟩) 6 dc]
      have DONE := HDN bs dk (p' + 1) _ hN hM (S5.kept kz (fun x hx => by simp at hx; omega)) (by omega) (by omega) (rd_set d5 kz (by omega) (by omega) (by omega)) (k5.then kz (fun y hy => by simp at hy; subst hy; right; omega))
      go_wp2
      refine bodyPost_ret (res_cell_mid Try.results69 _ _ R [.slice (some ⟨g, 0, none⟩) 4 c, .slice (some ⟨d, 0, none⟩) 6 dc] _ rfl pt1.cells Try.underlying54 rfl (by kernel_rfl)) rfl ?_
      exact DONE
    have hrp : 0 < r := by omega
    have HOP := hide (openS g c bs w5 (ok_fours hok) hb4 SS5.own.fs)
    go_wp2_with fail
    refine (unhide HOP).mono ?_
    rintro e w6 ⟨ko, bo, rfl, b⟩
    have S6 := S5.below b
    have SS6 := SS5.below b
    have cB6 := csAt_kept cB (L := []) (Kept.of b) (by omega) (by simp)
    have cR6 := csAt_kept cR (L := []) (Kept.of b) (by omega) (by simp)
    have d6 := rd_kept d5 (L := []) (Kept.of b) (by simp)
    have k6 := k5.trans (Kept.of b)
    have s6 := Nat.le_trans s5 b.size
    clear HOP S5 SS5 cB cR d5 k5 y0 y1 b
    have cB := cB6
    have cR := cR6
    have y0 := cB.cell 0 _ rfl
    have y1 := cB.cell 1 _ rfl
    clear cB6 cR6
    cases bo
    · go_upto_region 7 with fail
      have e0 := cB.cell 0 _ rfl
      have e1 := cB.cell 1 _ rfl
      have d0 := cR.cell 0 _ rfl
      have d1 := cR.cell 1 _ rfl
      have f0 := cR.frozen 0 (by simp)
      have f1 := cR.frozen 1 (by simp)
      have pt1 := cR.put [.slice (some ⟨g, 0, none⟩) 4 c, .slice (some ⟨d, 0, none⟩) 6 dc] rfl
      have kz := kept_cells w6 R 0 [.slice (some ⟨g, 0, none⟩) 4 c, .slice (some ⟨d, 0, none⟩) 6 dc]
      have DONE := HDN bs dk (p' + 1) _ hN hM (S6.kept kz (fun x hx => by simp at hx; omega)) (by omega) (by omega) (rd_set d6 kz (by omega) (by omega) (by omega)) (k6.then kz (fun y hy => by simp at hy; subst hy; right; omega))
      go_wp2
      refine bodyPost_ret (res_cell_mid Try.results69 _ _ R [.slice (some ⟨g, 0, none⟩) 4 c, .slice (some ⟨d, 0, none⟩) 6 dc] _ rfl pt1.cells Try.underlying54 rfl (by kernel_rfl)) rfl ?_
      exact DONE
    have HHA := hide (fun (x y : Int) (w' : World) (h : St w' (R + 1) g d G bs dk) => happen_any (R + 1) g d c dc G bs dk 1 x y 9 false w' h hok)
    have hL0 : ∀ x ∈ d :: g :: G, R + 1 ≤ x ∧ x < sb := fun x hx => ⟨(SS6.all x hx).1, hxs x hx⟩
    go_upto_region 8 with fail
    refine wp_region_noPanic ?_
    refine wp_region_held_drew (S := fun w' => Kept (rb :: sb :: d :: g :: G) w6 w' ∧ CsAt w' sb [.slice (some ⟨g, 0, none⟩) 4 c, .slice (some ⟨d, 0, none⟩) 6 dc]) (by kernel_rfl) (⟨(Kept.refl _ _).drew, csAt_kept cB (L := []) (Kept.refl [] w6).drew (by omega) (by simp)⟩) (fun hHeld => ?_)
    refine takeL 0 (.agg #[.slice (some ⟨g, 0, none⟩) 4 c, .slice (some ⟨d, 0, none⟩) 6 dc]) rfl (by kernel_rfl) (by kernel_rfl) (by kernel_rfl) (fun _ _ _ h => h) (yieldsIf_load_mid rfl 54 _ rfl sb 0 rfl [.slice (some ⟨g, 0, none⟩) 4 c, .slice (some ⟨d, 0, none⟩) 6 dc] _ (fun _ h => h.2.cells) Try.underlying54 rfl (unhide HSS)) hHeld ?_
    try simp only [Act.put, List.setIfInBounds_toArray, List.set_cons_zero, List.set_cons_succ]
    refine takeL 1 (.pointer (some ⟨rb, 0, none⟩)) rfl (by kernel_rfl) (by kernel_rfl) (by kernel_rfl) (fun _ _ _ h => h) (Or.inl ⟨rfl, fun _ _ => rfl⟩) hHeld ?_
    try simp only [Act.put, List.setIfInBounds_toArray, List.set_cons_zero, List.set_cons_succ]
    refine takeL 4 (.pointer (some ⟨rb, 0, none⟩)) rfl (by kernel_rfl) (by kernel_rfl) (by kernel_rfl) (fun _ _ _ h => h) (Or.inl ⟨rfl, fun _ _ => rfl⟩) hHeld ?_
    try simp only [Act.put, List.setIfInBounds_toArray, List.set_cons_zero, List.set_cons_succ]
    have SS7 := SS6.kept (L := []) (Kept.refl [] w6).drew (fun _ _ => by simp)
    have cR7 := csAt_kept cR (L := []) (Kept.refl [] w6).drew (by omega) (by simp)
    have d7 := d6.drew
    have k7 := k6.drew
    have s7 : sb + 1 ≤ w6.drew.heap.size := s6
    generalize w6.drew = y0' at *
    refine oneL 2 rfl (by kernel_rfl) rfl (fun K hK => ?_)
    go_simp
    refine (pick_k u w0 _ rb a len cap (p' + 1) 6 hr hl d7 (by omega) (by omega) (by omega) (by omega)).mono ?_
    rintro e w8 ⟨ra, rfl, ra0, ra1, d8, m⟩
    go_wp2_with fail
    refine hK.out _ _ ⟨hHeld.1.trans (m.sub (fun x hx => by simp at hx; simp [hx])), csAt_kept hHeld.2 m (by omega) (by simp; omega)⟩ (fun hHeld => ?_)
    clear hK K
    try simp only [Act.put, List.setIfInBounds_toArray, List.set_cons_zero, List.set_cons_succ]
    have SS8 := SS7.kept m (fun x hx hm => by simp at hm; subst hm; exact hrbG hx)
    have cR8 := csAt_kept cR7 m (by omega) (by simp; omega)
    have k8 := k7.trans m
    have s8 := Nat.le_trans s7 m.size
    clear m
    refine takeL 3 (.int .i64 (1 + ra)) rfl (by kernel_rfl) (by kernel_rfl) (by kernel_rfl) (fun _ _ _ h => h) (Or.inl ⟨rfl, fun w9 hSw => by have hwk : IntKind.i64.wrap (1 + ra) = 1 + ra := (by rw [IntKind.wrap_i64] <;> omega); go_simp⟩) hHeld ?_
    try simp only [Act.put, List.setIfInBounds_toArray, List.set_cons_zero, List.set_cons_succ]
    refine oneL 5 rfl (by kernel_rfl) rfl (fun K hK => ?_)
    go_simp
    refine (pick_k u w0 _ rb a len cap (p' + 1 + 1) 10 hr hl d8 (by omega) (by omega) (by omega) (by omega)).mono ?_
    rintro e w9 ⟨rv, rfl, rv0, rv1, d9, m⟩
    go_wp2_with fail
    refine hK.out _ _ ⟨hHeld.1.trans (m.sub (fun x hx => by simp at hx; simp [hx])), csAt_kept hHeld.2 m (by omega) (by simp; omega)⟩ (fun hHeld => ?_)
    clear hK K
    try simp only [Act.put, List.setIfInBounds_toArray, List.set_cons_zero, List.set_cons_succ]
    have SS9 := SS8.kept m (fun x hx hm => by simp at hm; subst hm; exact hrbG hx)
    have cR9 := csAt_kept cR8 m (by omega) (by simp; omega)
    have k9 := k8.trans m
    have s9 := Nat.le_trans s8 m.size
    clear m
    refine takeL 6 (.agg #[.int .i64 1, .int .i64 (1 + ra), .int .i64 rv, .int .i64 9, .bool false]) rfl (by kernel_rfl) (by kernel_rfl) (by kernel_rfl) (fun _ _ _ h => h) (Or.inl ⟨rfl, fun w9 hSw => by have hbe := unhide HBE (1 + ra) rv; go_simp⟩) hHeld ?_
    try simp only [Act.put, List.setIfInBounds_toArray, List.set_cons_zero, List.set_cons_succ]
    refine oneL 7 rfl (by kernel_rfl) rfl (fun K hK => ?_)
    go_simp
    refine (unhide HHA (1 + ra) rv _ SS9).mono ?_
    rintro e wA ⟨rfl, B', D', ok', SA, kA⟩
    go_wp2_with fail
    refine hK.out _ _ ⟨hHeld.1.trans (kA.sub (fun x hx => List.mem_cons_of_mem _ (List.mem_cons_of_mem _ hx))), csAt_kept hHeld.2 kA (by omega) (fun hm => by have := hL0 _ hm; omega)⟩ (fun hHeld => ?_)
    clear hK K
    try simp only [Act.put, List.setIfInBounds_toArray, List.set_cons_zero, List.set_cons_succ]
    have cRA := csAt_kept cR9 kA (by omega) (fun hm => by have := hL0 _ hm; omega)
    have dA := rd_kept d9 kA (fun y hy => by have := hL0 y hy; omega)
    have kAA := k9.then kA (fun y hy => by have := hL0 y hy; right; omega)
    have sA' := Nat.le_trans s9 kA.size
    have kz := kept_cells wA sb 0 [.slice (some ⟨g, 0, none⟩) 4 c, .slice (some ⟨d, 0, none⟩) 6 dc]
    have cBZ := hHeld.2.put [.slice (some ⟨g, 0, none⟩) 4 c, .slice (some ⟨d, 0, none⟩) 6 dc] rfl
    refine oneL 8 rfl (by kernel_rfl) rfl (fun K hK => ?_)
    refine wp_store_mid 54 _ _ rfl sb 0 [.slice (some ⟨g, 0, none⟩) 4 c, .slice (some ⟨d, 0, none⟩) 6 dc].toArray rfl rfl hHeld.2.free (unhide HSS) (by kernel_rfl) ?_
    refine hK.out _ _ ⟨hHeld.1.trans (kz.sub (fun x hx => by simp at hx; simp [hx])), cBZ⟩ (fun hHeld => ?_)
    clear hK K
    try simp only [Act.put, List.setIfInBounds_toArray, List.set_cons_zero, List.set_cons_succ]
    refine wpAnyH_done (by kernel_rfl) ?_ _
    refine NoPanic.normal ?_
    have SZ := SA.kept kz (fun y hy hm => by simp at hm; subst hm; have := hL0 _ hy; omega)
    have cRZ := csAt_kept cRA kz (by omega) (by simp; omega)
    have dZ := rd_set dA kz (by omega) (by omega) (by omega)
    have kZ := kAA.then kz (fun y hy => by simp at hy; subst hy; right; omega)
    have sZ := Nat.le_trans sA' kz.size
    have hB'4 := ok_len ok'
    have hF' := ok_fours ok'
    have SNZ := SN.of SZ (by omega) (fun b hb => by have := hF' b hb; omega)
    have OZ : Hid (okB B' = true → D'.length = 6 → (0 : Nat) = 0 ∧ (0 : Nat) = 0 ∧ ∃ G, St (wA.setCells sb 0 [.slice (some ⟨g, 0, none⟩) 4 c, .slice (some ⟨d, 0, none⟩) 6 dc]) (R + 1) g d G B' D' ∧ ∀ x ∈ d :: g :: G, x < sb) := fun _ _ => ⟨rfl, rfl, G, SZ, hxs⟩
    have hD'6 := SZ.six
    clear hHeld SS6 SS7 SS8 SS9 SA cRA cR7 cR8 cR9 d6 d7 d8 d9 dA k6 k7 k8 k9 kAA kA kz cR cB y0 y1 S6
    generalize wA.setCells sb 0 [.slice (some ⟨g, 0, none⟩) 4 c, .slice (some ⟨d, 0, none⟩) 6 dc] = wZ at *
    go_wp2
    go_roundw
    case rel => exact ⟨k + 1, B', D', p' + 1 + 1 + 1, by omega, by first | rfl | go_num, hB'4, hD'6, SNZ, (by first | exact OZ | exact fun q1 q2 => by have := unhide OZ q1 q2; simpa using this), cBZ, cRZ, by omega, by omega, dZ, kZ, sZ⟩
    case measure => simp [intOf]; omega
end Go.Proofs.Ytkikeapfjpnkgaa.Fu
