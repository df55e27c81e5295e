/-
  Texts that belong together, one behind the other: AlX, DpX, Ct, Cu.
-/
import Derived.Test.YtbiokmojjneleaaGreatHbL
import Derived.Test.YtbiokmojjneleaaGreatHbK
import Derived.Test.YtbiokmojjneleaaGreatRbS
import Derived.Test.YtbiokmojjneleaaGreatRbB
import Derived.Test.YtbiokmojjneleaaGreatHbD
import Derived.Test.YtbiokmojjneleaaGreatHbH

/-
  The specification's telling the slow disk of all, in place, and what stands there then.
-/
namespace Go.Proofs.YtbiokmojjneleaaGreat.AlX
open Go.ChangeShapes Go.WideShapes Go.ChangeAt Go.RowKit Go.Shelf OkA Big Fl ImplB ImplF ImplS _root_.Go.Proofs.YtbiokmojjneleaaGreat.Own ImplT ImplU SpecA SpecB SpecC SpecD SpecW SpecF SpecG SpecH Ok2 Pl FindP SpecX ImplL FindN FindL FindV Kp StA RmA WrA FlA DoA ToA PlA
set_option linter.unusedVariables false
set_option linter.unusedSimpArgs false
attribute [local go_sem ↓] Go.wp_at_zero Go.wp_at_succ

/-- What stands behind one address' flush, and behind all of the first n addresses. -/
def flA (p : List Bk × List Int) (n : Nat) : List Bk × List Int := (toB p.1 (flushP p.1 p.2 (n : Int)) ((flushP p.1 p.2 (n : Int)).length : Int) false, toK p.2 (flushP p.1 p.2 (n : Int)) ((flushP p.1 p.2 (n : Int)).length : Int) false)
def allA (bs : List Bk) (dk : List Int) : Nat → List Bk × List Int
  | 0 => (bs, dk)
  | n + 1 => flA (allA bs dk n) (n + 1)
/-- What stands behind a thing that happened: the same rows, this store in them. -/
def EndX (w : World) (lo g d cap dcap : Nat) (G : List Nat) (P : List Bk × List Int) (e : Ending) (w' : World) : Prop :=
  e = .returned (.agg #[.slice (some ⟨g, 0, none⟩) 4 cap, .slice (some ⟨d, 0, none⟩) 6 dcap]) ∧ okB P.1 = true ∧ St w' lo g d G P.1 P.2 ∧ Kept (d :: g :: G) w w'
theorem toB_all (bs : List Bk) (L : List Stp) (hok : okB bs = true) (hL : ∀ x ∈ L, stpB x = true) (cut : Int) (torn : Bool) : okB (toB bs L cut torn) = true := okB_toB bs L cut torn hok hL

set_option maxRecDepth 100000 in
set_option maxHeartbeats 2000000 in
theorem all_x (lo g d cap dcap : Nat) (G : List Nat) (bs : List Bk) (dk : List Int) (w : World) (hS : St w lo g d G bs dk) (hok : okB bs = true) :
    Calls Tryz.prog 89 #[.agg #[.slice (some ⟨g, 0, none⟩) 4 cap, .slice (some ⟨d, 0, none⟩) 6 dcap]] w fun e w' => EndX w lo g d cap dcap G (allA bs dk 6) e w' := by
  have b1 : Below w.heap.size w ((w.alloc (.cells #[.slice (some ⟨g, 0, none⟩) 4 cap, .slice (some ⟨d, 0, none⟩) 6 dcap] 26)).alloc (.cells #[.slice none 0 0, .slice none 0 0] 26)) := ((Below.refl _ _).alloc (Nat.le_refl _) _).alloc (by simp) _
  have cS := (store_box w (.slice (some ⟨g, 0, none⟩) 4 cap) (.slice (some ⟨d, 0, none⟩) 6 dcap)).alloc (by simp) (.cells #[.slice none 0 0, .slice none 0 0] 26)
  have cR := CsAt.new (w.alloc (.cells #[.slice (some ⟨g, 0, none⟩) 4 cap, .slice (some ⟨d, 0, none⟩) 6 dcap] 26)) [.slice none 0 0, .slice none 0 0] 26
  rw [World.size_alloc] at cR
  have s1 : ((w.alloc (.cells #[.slice (some ⟨g, 0, none⟩) 4 cap, .slice (some ⟨d, 0, none⟩) 6 dcap] 26)).alloc (.cells #[.slice none 0 0, .slice none 0 0] 26)).heap.size = w.heap.size + 2 := by simp
  have S1 := hS.below b1
  have k1 : Kept (d :: g :: G) w ((w.alloc (.cells #[.slice (some ⟨g, 0, none⟩) 4 cap, .slice (some ⟨d, 0, none⟩) 6 dcap] 26)).alloc (.cells #[.slice none 0 0, .slice none 0 0] 26)) := Kept.of b1
  have hall := hS.all
  have HOK := hide hok
  clear hS hok b1
  go_enter Tryz.func89, Tryz.ntmps89
  go_upto_region 1 with fail
  generalize (w.alloc (.cells #[.slice (some ⟨g, 0, none⟩) 4 cap, .slice (some ⟨d, 0, none⟩) 6 dcap] 26)).alloc (.cells #[.slice none 0 0, .slice none 0 0] 26) = w1 at *
  go_wp2
  go_loopw [3] (fun i w' => ∃ (n : Nat) (B : List Bk) (D : List Int), 1 ≤ n ∧ n ≤ 7 ∧ i = .int .i64 n ∧ Hid (okB B = true ∧ (B, D) = allA bs dk (n - 1)) ∧ St w' lo g d G B D ∧ CsAt w' w.heap.size [.slice (some ⟨g, 0, none⟩) 4 cap, .slice (some ⟨d, 0, none⟩) 6 dcap] ∧ CsAt w' (w.heap.size + 1) [.slice none 0 0, .slice none 0 0] ∧ w.heap.size + 2 ≤ w'.heap.size ∧ Kept (d :: g :: G) w w') (fun i _ => 7 - (intOf i).toNat)
  case atStart => exact ⟨1, bs, dk, by omega, by omega, rfl, ⟨HOK, rfl⟩, S1, cS, cR, by omega, k1⟩
  case round =>
    clear S1 cS cR s1 k1 HOK
    obtain ⟨n, B, D, hn1, hn7, rfl, HO, hS, hC, hR, hsz, hK⟩ := hrel
    have hgL : w.heap.size ∉ d :: g :: G := fun hm => by have := (hall _ hm).2; omega
    have hrL : w.heap.size + 1 ∉ d :: g :: G := fun hm => by have := (hall _ hm).2; omega
    by_cases h6 : n ≤ 6
    · have hni : (n : Int) ≤ 6 := by omega
      have y0 := hC.cell 0 _ rfl
      have y1 := hC.cell 1 _ rfl
      go_wp2_with fail
      refine (flush_steps g 0 cap d 0 dcap D hS.six (n : Int) B wr (unhide HO).1 (st_bk hS) (st_rng hS)).mono ?_
      rintro e w2 ⟨v, rfl, r2, d2⟩
      obtain ⟨sa, sc, rfl, hsa⟩ := stsForm r2
      have hL := flushP_stp B D (n : Int) (unhide HO).1
      have hl7 := flushP_len B D (n : Int) (unhide HO).1
      have S2 := hS.below d2
      have hC2 := csAt_kept hC (L := []) (Kept.of d2) (by omega) (by simp)
      have hR2 := csAt_kept hR (L := []) (Kept.of d2) (by omega) (by simp)
      have hK2 := hK.trans (Kept.of d2)
      have hs2 : w.heap.size + 2 ≤ w2.heap.size := Nat.le_trans hsz d2.size
      have hsa2 : flushP B D (n : Int) = [] ∨ ∃ gs so, sa = some ⟨gs, so, none⟩ ∧ gs ∉ d :: g :: G ∧ gs < w2.heap.size ∧ w2.rangeAt gs so (stsC (flushP B D (n : Int))) := by
        rcases hsa with h | ⟨gs, rfl, h1, h2, h3⟩
        · exact .inl h
        · exact .inr ⟨gs, 0, rfl, fun hm => by have := (hall _ hm).2; omega, h2, h3⟩
      have HO2 : Hid (okB (toB B (flushP B D (n : Int)) ((flushP B D (n : Int)).length : Int) false) = true ∧ (toB B (flushP B D (n : Int)) ((flushP B D (n : Int)).length : Int) false, toK D (flushP B D (n : Int)) ((flushP B D (n : Int)).length : Int) false) = allA bs dk (n + 1 - 1)) := ⟨okB_toB B _ _ _ (unhide HO).1 hL, by
        have e := (unhide HO).2
        obtain ⟨m, rfl⟩ : ∃ m, n = m + 1 := ⟨n - 1, by omega⟩
        simp only [Nat.add_sub_cancel] at e ⊢
        show _ = flA (allA bs dk m) (m + 1)
        rw [← e]
        rfl⟩
      have HTO := hide (to_any lo g d cap dcap G B D sa sc (flushP B D (n : Int)) ((flushP B D (n : Int)).length : Int) false w2 S2 (unhide HO).1 hL (by omega) hsa2)
      generalize flushP B D (n : Int) = L at *
      clear hsa hsa2 hL r2 d2 hS hC hR hK hsz y0 y1
      generalize toB B L (L.length : Int) false = B3 at *
      generalize toK D L (L.length : Int) false = D3 at *
      have y0 := hC2.cell 0 _ rfl
      have y1 := hC2.cell 1 _ rfl
      go_wp2_with fail
      refine (unhide HTO).mono ?_
      rintro e w3 ⟨rfl, S3, k3⟩
      have hC3 := csAt_kept hC2 k3 (by omega) hgL
      have hR3 := csAt_kept hR2 k3 (by omega) hrL
      have hK3 := hK2.trans k3
      have hs3 : w.heap.size + 2 ≤ w3.heap.size := Nat.le_trans hs2 k3.size
      clear HTO y0 y1 hC2 hR2 hK2 k3 S2
      have d0 := hC3.cell 0 _ rfl
      have d1 := hC3.cell 1 _ rfl
      have f0 := hC3.frozen 0 (by simp)
      have f1 := hC3.frozen 1 (by simp)
      have kz := kept_cells w3 w.heap.size 0 [.slice (some ⟨g, 0, none⟩) 4 cap, .slice (some ⟨d, 0, none⟩) 6 dcap]
      have SF := S3.kept kz (fun y hy => by have := (hall y hy).2; simp; omega)
      have cF := hC3.put [.slice (some ⟨g, 0, none⟩) 4 cap, .slice (some ⟨d, 0, none⟩) 6 dcap] rfl
      have rF := csAt_kept hR3 kz (by omega) (by simp)
      have sF : w.heap.size + 2 ≤ (w3.setCells w.heap.size 0 [.slice (some ⟨g, 0, none⟩) 4 cap, .slice (some ⟨d, 0, none⟩) 6 dcap]).heap.size := Nat.le_trans hs3 kz.size
      have kF := hK3.then kz (fun y hy => by simp at hy; subst hy; right; exact Nat.le_refl _)
      go_wp2
      go_roundw
      case rel => exact ⟨n + 1, B3, D3, by omega, by omega, by first | rfl | go_num, HO2, SF, cF, rF, sF, kF⟩
      case measure => simp [intOf]; omega
    · have hni : ¬ (n : Int) ≤ 6 := by omega
      have d0 := hR.cell 0 _ rfl
      have d1 := hR.cell 1 _ rfl
      have f0 := hR.frozen 0 (by simp)
      have f1 := hR.frozen 1 (by simp)
      have y0 := hC.cell 0 _ rfl
      have y1 := hC.cell 1 _ rfl
      have p1 := hR.put [.slice (some ⟨g, 0, none⟩) 4 cap, .slice (some ⟨d, 0, none⟩) 6 dcap] rfl
      have kz := kept_cells wr (w.heap.size + 1) 0 [.slice (some ⟨g, 0, none⟩) 4 cap, .slice (some ⟨d, 0, none⟩) 6 dcap]
      have SZ := hS.kept kz (fun y hy => by have := (hall y hy).2; simp; omega)
      have KZ : Kept (d :: g :: G) w (wr.setCells (w.heap.size + 1) 0 [.slice (some ⟨g, 0, none⟩) 4 cap, .slice (some ⟨d, 0, none⟩) 6 dcap]) := hK.then kz (fun y hy => by simp at hy; subst hy; right; omega)
      go_wp2
      refine bodyPost_ret (res_cell_mid Tryz.results89 _ _ (w.heap.size + 1) [.slice (some ⟨g, 0, none⟩) 4 cap, .slice (some ⟨d, 0, none⟩) 6 dcap] _ rfl p1.cells Tryz.underlying26 rfl (by kernel_rfl)) rfl ?_
      have e7 := (unhide HO).2
      rw [show n - 1 = 6 by omega] at e7
      exact ⟨rfl, by rw [← e7]; exact (unhide HO).1, by rw [← e7]; exact SZ, KZ⟩
end Go.Proofs.YtbiokmojjneleaaGreat.AlX

/-
  The specification's letting something happen, in place, and what stands there then.
-/
namespace Go.Proofs.YtbiokmojjneleaaGreat.DpX
open Go.ChangeShapes Go.WideShapes Go.ChangeAt Go.RowKit Go.Shelf OkA Big Fl ImplB ImplF ImplS _root_.Go.Proofs.YtbiokmojjneleaaGreat.Own ImplT ImplU SpecA SpecB SpecC SpecD SpecW SpecF SpecG SpecH Ok2 Pl FindP SpecX ImplL FindN FindL FindV Kp StA RmA WrA FlA DoA ToA PlA AlX PaA
set_option linter.unusedVariables false
set_option linter.unusedSimpArgs false
attribute [local go_sem ↓] Go.wp_at_zero Go.wp_at_succ

/-- What stands behind an event, where the store is ok. -/
def doP (bs : List Bk) (dk : List Int) (x : Ev) : List Bk × List Int := if x.k = 4 then allA bs dk 6 else if x.c < 0 then (bs, dk) else (toB bs (evP bs dk x) x.c x.t, toK dk (evP bs dk x) x.c x.t)
set_option maxRecDepth 100000 in
set_option maxHeartbeats 4000000 in
theorem happen_x (lo g d cap dcap : Nat) (G : List Nat) (bs : List Bk) (dk : List Int) (kind a b c : Int) (torn : Bool) (w : World) (hS : St w lo g d G bs dk) (hok : okB bs = true) :
    Calls Tryz.prog 58 #[.agg #[.slice (some ⟨g, 0, none⟩) 4 cap, .slice (some ⟨d, 0, none⟩) 6 dcap], .agg #[.int .i64 kind, .int .i64 a, .int .i64 b, .int .i64 c, .bool torn]] w fun e w' => EndX w lo g d cap dcap G (doP bs dk ⟨kind, a, b, c, torn⟩) e w' := by
  have b1 : Below w.heap.size w (((w.alloc (.cells #[.slice (some ⟨g, 0, none⟩) 4 cap, .slice (some ⟨d, 0, none⟩) 6 dcap] 26)).alloc (.cells #[.int .i64 kind, .int .i64 a, .int .i64 b, .int .i64 c, .bool torn] 42)).alloc (.cells #[.slice none 0 0, .slice none 0 0] 26)) := (((Below.refl _ _).alloc (Nat.le_refl _) _).alloc (by simp) _).alloc (by simp; omega) _
  have cS := ((store_box w (.slice (some ⟨g, 0, none⟩) 4 cap) (.slice (some ⟨d, 0, none⟩) 6 dcap)).alloc (by simp) (.cells #[.int .i64 kind, .int .i64 a, .int .i64 b, .int .i64 c, .bool torn] 42)).alloc (by simp; omega) (.cells #[.slice none 0 0, .slice none 0 0] 26)
  have cE := (CsAt.new (w.alloc (.cells #[.slice (some ⟨g, 0, none⟩) 4 cap, .slice (some ⟨d, 0, none⟩) 6 dcap] 26)) [.int .i64 kind, .int .i64 a, .int .i64 b, .int .i64 c, .bool torn] 42).alloc (by simp) (.cells #[.slice none 0 0, .slice none 0 0] 26)
  rw [World.size_alloc] at cE
  have cR := CsAt.new ((w.alloc (.cells #[.slice (some ⟨g, 0, none⟩) 4 cap, .slice (some ⟨d, 0, none⟩) 6 dcap] 26)).alloc (.cells #[.int .i64 kind, .int .i64 a, .int .i64 b, .int .i64 c, .bool torn] 42)) [.slice none 0 0, .slice none 0 0] 26
  rw [World.size_alloc, World.size_alloc] at cR
  have s1 : (((w.alloc (.cells #[.slice (some ⟨g, 0, none⟩) 4 cap, .slice (some ⟨d, 0, none⟩) 6 dcap] 26)).alloc (.cells #[.int .i64 kind, .int .i64 a, .int .i64 b, .int .i64 c, .bool torn] 42)).alloc (.cells #[.slice none 0 0, .slice none 0 0] 26)).heap.size = w.heap.size + 3 := by simp
  have S1 := hS.below b1
  have k1 : Kept (d :: g :: G) w (((w.alloc (.cells #[.slice (some ⟨g, 0, none⟩) 4 cap, .slice (some ⟨d, 0, none⟩) 6 dcap] 26)).alloc (.cells #[.int .i64 kind, .int .i64 a, .int .i64 b, .int .i64 c, .bool torn] 42)).alloc (.cells #[.slice none 0 0, .slice none 0 0] 26)) := Kept.of b1
  have hall := hS.all
  have HOK := hide hok
  clear hS hok b1
  go_enter Tryz.func58, Tryz.ntmps58
  go_upto_region 1 with fail
  generalize ((w.alloc (.cells #[.slice (some ⟨g, 0, none⟩) 4 cap, .slice (some ⟨d, 0, none⟩) 6 dcap] 26)).alloc (.cells #[.int .i64 kind, .int .i64 a, .int .i64 b, .int .i64 c, .bool torn] 42)).alloc (.cells #[.slice none 0 0, .slice none 0 0] 26) = w1 at *
  have hgL : w.heap.size ∉ d :: g :: G := fun hm => by have := (hall _ hm).2; omega
  have heL : w.heap.size + 1 ∉ d :: g :: G := fun hm => by have := (hall _ hm).2; omega
  have hrL : w.heap.size + 1 + 1 ∉ d :: g :: G := fun hm => by have := (hall _ hm).2; omega
  have z0 := cE.cell 0 _ rfl
  have z3 := cE.cell 3 _ rfl
  have y0 := cS.cell 0 _ rfl
  have y1 := cS.cell 1 _ rfl
  by_cases t4 : kind = 4
  · have q4 : (kind == 4) = true := by simpa using t4
    have HE : Hid (doP bs dk ⟨kind, a, b, c, torn⟩ = allA bs dk 6) := if_pos t4
    clear t4 z3
    go_wp2_with fail
    refine (all_x lo g d cap dcap G bs dk w1 S1 (unhide HOK)).mono ?_
    generalize allA bs dk 6 = PA at *
    rintro e w3 ⟨rfl, ok3, S3, k3⟩
    have HO3 := hide ok3
    have cR3 := csAt_kept cR k3 (by omega) hrL
    have K3 := k1.trans k3
    clear cR k1 k3 z0 y0 y1 S1 cS cE s1 ok3
    have d0 := cR3.cell 0 _ rfl
    have d1 := cR3.cell 1 _ rfl
    have f0 := cR3.frozen 0 (by simp)
    have f1 := cR3.frozen 1 (by simp)
    have p1 := cR3.put [.slice (some ⟨g, 0, none⟩) 4 cap, .slice (some ⟨d, 0, none⟩) 6 dcap] rfl
    have kz := kept_cells w3 (w.heap.size + 1 + 1) 0 [.slice (some ⟨g, 0, none⟩) 4 cap, .slice (some ⟨d, 0, none⟩) 6 dcap]
    have SZ := S3.kept kz (fun y hy => by have := (hall y hy).2; simp; omega)
    have KZ : Kept (d :: g :: G) w (w3.setCells (w.heap.size + 1 + 1) 0 [.slice (some ⟨g, 0, none⟩) 4 cap, .slice (some ⟨d, 0, none⟩) 6 dcap]) := K3.then kz (fun y hy => by simp at hy; subst hy; right; omega)
    go_wp2
    refine bodyPost_ret (res_cell_mid Tryz.results58 _ _ (w.heap.size + 1 + 1) [.slice (some ⟨g, 0, none⟩) 4 cap, .slice (some ⟨d, 0, none⟩) 6 dcap] _ rfl p1.cells Tryz.underlying26 rfl (by kernel_rfl)) rfl ?_
    rw [unhide HE]
    exact ⟨rfl, unhide HO3, SZ, KZ⟩
  · have q4 : (kind == 4) = false := by simpa using t4
    clear t4
    by_cases t0 : c < 0
    · have HE : Hid (doP bs dk ⟨kind, a, b, c, torn⟩ = (bs, dk)) := by show _ = _; unfold doP; rw [if_neg (by simpa using q4), if_pos t0]
      have HO3 := HOK
      have d0 := cR.cell 0 _ rfl
      have d1 := cR.cell 1 _ rfl
      have f0 := cR.frozen 0 (by simp)
      have f1 := cR.frozen 1 (by simp)
      have p1 := cR.put [.slice (some ⟨g, 0, none⟩) 4 cap, .slice (some ⟨d, 0, none⟩) 6 dcap] rfl
      have kz := kept_cells w1 (w.heap.size + 1 + 1) 0 [.slice (some ⟨g, 0, none⟩) 4 cap, .slice (some ⟨d, 0, none⟩) 6 dcap]
      have SZ := S1.kept kz (fun y hy => by have := (hall y hy).2; simp; omega)
      have KZ : Kept (d :: g :: G) w (w1.setCells (w.heap.size + 1 + 1) 0 [.slice (some ⟨g, 0, none⟩) 4 cap, .slice (some ⟨d, 0, none⟩) 6 dcap]) := k1.then kz (fun y hy => by simp at hy; subst hy; right; omega)
      go_wp2
      refine bodyPost_ret (res_cell_mid Tryz.results58 _ _ (w.heap.size + 1 + 1) [.slice (some ⟨g, 0, none⟩) 4 cap, .slice (some ⟨d, 0, none⟩) 6 dcap] _ rfl p1.cells Tryz.underlying26 rfl (by kernel_rfl)) rfl ?_
      rw [unhide HE]
      exact ⟨rfl, unhide HO3, SZ, KZ⟩
    · have HE : Hid (doP bs dk ⟨kind, a, b, c, torn⟩ = (toB bs (stepsP bs dk kind a b) c torn, toK dk (stepsP bs dk kind a b) c torn)) := by show _ = _; unfold doP; rw [if_neg (by simpa using q4), if_neg t0]; rfl
      have z0' := z0
      have HSS := hide (show (Tryz.prog.info? 26).map (·.size) = some 2 by kernel_rfl)
      have HS5 := hide (show (Tryz.prog.info? 42).map (·.size) = some 5 by kernel_rfl)
      have HL := hide (stepsP_stp bs dk kind a b (unhide HOK))
      have HN := hide (stepsP_len bs dk kind a b (unhide HOK))
      have HST := hide (fun (w' : World) (h : St w' lo g d G bs dk) => steps_any lo g d cap dcap G bs dk kind a b c torn w' h (unhide HOK))
      go_upto_region 5 with fail
      refine wp_region_noPanic ?_
      refine wp_region_held_drew (S := fun w' => (CsAt w' w.heap.size [.slice (some ⟨g, 0, none⟩) 4 cap, .slice (some ⟨d, 0, none⟩) 6 dcap] ∧ CsAt w' (w.heap.size + 1) [.int .i64 kind, .int .i64 a, .int .i64 b, .int .i64 c, .bool torn]) ∧ w.heap.size + 3 ≤ w'.heap.size) (by kernel_rfl) (⟨⟨⟨fun j v hv => cS.cells j v hv, fun j hj => cS.free j hj⟩, ⟨fun j v hv => cE.cells j v hv, fun j hj => cE.free j hj⟩⟩, by show w.heap.size + 3 ≤ w1.heap.size; omega⟩) (fun hHeld => ?_)
      refine takeL 0 (.agg #[.slice (some ⟨g, 0, none⟩) 4 cap, .slice (some ⟨d, 0, none⟩) 6 dcap]) rfl (by kernel_rfl) (by kernel_rfl) (by kernel_rfl) (fun _ _ _ h => h) (yieldsIf_load_mid rfl 26 _ rfl w.heap.size 0 rfl [.slice (some ⟨g, 0, none⟩) 4 cap, .slice (some ⟨d, 0, none⟩) 6 dcap] _ (fun _ h => h.1.1.cells) Tryz.underlying26 rfl (unhide HSS)) hHeld ?_
      try simp only [Act.put, List.setIfInBounds_toArray, List.set_cons_zero, List.set_cons_succ]
      refine takeL 1 (.agg #[.slice (some ⟨g, 0, none⟩) 4 cap, .slice (some ⟨d, 0, none⟩) 6 dcap]) rfl (by kernel_rfl) (by kernel_rfl) (by kernel_rfl) (fun _ _ _ h => h) (yieldsIf_load_mid rfl 26 _ rfl w.heap.size 0 rfl [.slice (some ⟨g, 0, none⟩) 4 cap, .slice (some ⟨d, 0, none⟩) 6 dcap] _ (fun _ h => h.1.1.cells) Tryz.underlying26 rfl (unhide HSS)) hHeld ?_
      try simp only [Act.put, List.setIfInBounds_toArray, List.set_cons_zero, List.set_cons_succ]
      refine takeL 2 (.agg #[.int .i64 kind, .int .i64 a, .int .i64 b, .int .i64 c, .bool torn]) rfl (by kernel_rfl) (by kernel_rfl) (by kernel_rfl) (fun _ _ _ h => h) (yieldsIf_load_mid rfl 42 _ rfl (w.heap.size + 1) 0 rfl [.int .i64 kind, .int .i64 a, .int .i64 b, .int .i64 c, .bool torn] _ (fun _ h => h.1.2.cells) Tryz.underlying42 rfl (unhide HS5)) hHeld ?_
      try simp only [Act.put, List.setIfInBounds_toArray, List.set_cons_zero, List.set_cons_succ]
      refine takeL 4 (.pointer (some ⟨w.heap.size + 1, 3, none⟩)) rfl (by kernel_rfl) (by kernel_rfl) (by kernel_rfl) (fun _ _ _ h => h) (Or.inl ⟨rfl, fun w9 hSw => by go_simp⟩) hHeld ?_
      try simp only [Act.put, List.setIfInBounds_toArray, List.set_cons_zero, List.set_cons_succ]
      refine takeL 5 (.int .i64 c) rfl (by kernel_rfl) (by kernel_rfl) (by kernel_rfl) (fun _ _ _ h => h) (Or.inl ⟨rfl, fun w9 hSw => by have hc := hSw.1.2.cell 3 _ rfl; go_simp⟩) hHeld ?_
      try simp only [Act.put, List.setIfInBounds_toArray, List.set_cons_zero, List.set_cons_succ]
      refine takeL 6 (.pointer (some ⟨w.heap.size + 1, 4, none⟩)) rfl (by kernel_rfl) (by kernel_rfl) (by kernel_rfl) (fun _ _ _ h => h) (Or.inl ⟨rfl, fun w9 hSw => by go_simp⟩) hHeld ?_
      try simp only [Act.put, List.setIfInBounds_toArray, List.set_cons_zero, List.set_cons_succ]
      refine takeL 7 (.bool torn) rfl (by kernel_rfl) (by kernel_rfl) (by kernel_rfl) (fun _ _ _ h => h) (Or.inl ⟨rfl, fun w9 hSw => by have hc := hSw.1.2.cell 4 _ rfl; go_simp⟩) hHeld ?_
      try simp only [Act.put, List.setIfInBounds_toArray, List.set_cons_zero, List.set_cons_succ]
      have S1d := S1.kept (L := []) (Kept.refl [] w1).drew (fun _ _ => by simp)
      have R1d := csAt_kept cR (L := []) (Kept.refl [] w1).drew (by omega) (by simp)
      have K1d := k1.drew
      refine oneL 3 rfl (by kernel_rfl) rfl (fun K hK => ?_)
      go_simp
      refine (unhide HST _ S1d).mono ?_
      rintro e w4 ⟨v, rfl, r4, d4⟩
      obtain ⟨sa, sc, rfl, hsa⟩ := stsForm r4
      have S4 := S1d.below d4
      have R4 := csAt_kept R1d (L := []) (Kept.of d4) (by show w.heap.size + 1 + 1 < w1.heap.size; omega) (by simp)
      have K4 := K1d.trans (Kept.of d4)
      have s4 : w.heap.size + 3 ≤ w4.heap.size := by have := d4.size; simp at this; omega
      have C4 := csAt_kept hHeld.1.1 (L := []) (Kept.of d4) (by show w.heap.size < w1.heap.size; omega) (by simp)
      have E4 := csAt_kept hHeld.1.2 (L := []) (Kept.of d4) (by show w.heap.size + 1 < w1.heap.size; omega) (by simp)
      have hsa4 : stepsP bs dk kind a b = [] ∨ ∃ gs so, sa = some ⟨gs, so, none⟩ ∧ gs ∉ d :: g :: G ∧ gs < w4.heap.size ∧ w4.rangeAt gs so (stsC (stepsP bs dk kind a b)) := by
        rcases hsa with h | ⟨gs, rfl, h1, h2, h3⟩
        · exact .inl h
        · exact .inr ⟨gs, 0, rfl, fun hm => by have := (hall _ hm).2; simp at h1; omega, h2, h3⟩
      have HTO := hide (to_any lo g d cap dcap G bs dk sa sc (stepsP bs dk kind a b) c torn w4 S4 (unhide HOK) (unhide HL) (by have := unhide HN; omega) hsa4)
      have HO5 := okB_toB bs (stepsP bs dk kind a b) c torn (unhide HOK) (unhide HL)
      clear hsa hsa4 r4
      generalize stepsP bs dk kind a b = L at *
      go_wp2_with fail
      refine hK.out _ _ ⟨⟨C4, E4⟩, s4⟩ (fun hHeld => ?_)
      clear hK K
      try simp only [Act.put, List.setIfInBounds_toArray, List.set_cons_zero, List.set_cons_succ]
      refine oneL 8 rfl (by kernel_rfl) rfl (fun K hK => ?_)
      go_simp
      refine (unhide HTO).mono ?_
      rintro e w5 ⟨rfl, S5, k5⟩
      go_wp2_with fail
      have C5 := csAt_kept C4 k5 (by omega) hgL
      have E5 := csAt_kept E4 k5 (by omega) heL
      have R5 := csAt_kept R4 k5 (by omega) hrL
      have K5 := K4.trans k5
      have s5 : w.heap.size + 3 ≤ w5.heap.size := Nat.le_trans s4 k5.size
      refine hK.out _ _ ⟨⟨C5, E5⟩, s5⟩ (fun hHeld => ?_)
      clear hK K
      try simp only [Act.put, List.setIfInBounds_toArray, List.set_cons_zero, List.set_cons_succ]
      have p1 := R5.put [.slice (some ⟨g, 0, none⟩) 4 cap, .slice (some ⟨d, 0, none⟩) 6 dcap] rfl
      have kz := kept_cells w5 (w.heap.size + 1 + 1) 0 [.slice (some ⟨g, 0, none⟩) 4 cap, .slice (some ⟨d, 0, none⟩) 6 dcap]
      have SZ := S5.kept kz (fun y hy => by have := (hall y hy).2; simp; omega)
      have KZ : Kept (d :: g :: G) w (w5.setCells (w.heap.size + 1 + 1) 0 [.slice (some ⟨g, 0, none⟩) 4 cap, .slice (some ⟨d, 0, none⟩) 6 dcap]) := K5.then kz (fun y hy => by simp at hy; subst hy; right; omega)
      have C6 := csAt_kept C5 kz (by omega) (by simp; omega)
      have E6 := csAt_kept E5 kz (by omega) (by simp)
      have s6 : w.heap.size + 3 ≤ (w5.setCells (w.heap.size + 1 + 1) 0 [.slice (some ⟨g, 0, none⟩) 4 cap, .slice (some ⟨d, 0, none⟩) 6 dcap]).heap.size := Nat.le_trans s5 kz.size
      refine oneL 9 rfl (by kernel_rfl) rfl (fun K hK => ?_)
      refine wp_store_mid 26 _ _ rfl (w.heap.size + 1 + 1) 0 [.slice (some ⟨g, 0, none⟩) 4 cap, .slice (some ⟨d, 0, none⟩) 6 dcap].toArray rfl rfl R5.free (unhide HSS) (by kernel_rfl) ?_
      refine hK.out _ _ ⟨⟨C6, E6⟩, s6⟩ (fun hHeld => ?_)
      clear hK K
      try simp only [Act.put, List.setIfInBounds_toArray, List.set_cons_zero, List.set_cons_succ]
      refine wpAnyH_done (by kernel_rfl) ?_ _
      refine NoPanic.normal ?_
      go_wp2_with fail
      refine bodyPost_ret (res_cell_mid Tryz.results58 _ _ (w.heap.size + 1 + 1) [.slice (some ⟨g, 0, none⟩) 4 cap, .slice (some ⟨d, 0, none⟩) 6 dcap] _ rfl p1.cells Tryz.underlying26 rfl (by kernel_rfl)) rfl ?_
      rw [unhide HE]
      exact ⟨rfl, HO5, SZ, KZ⟩
end Go.Proofs.YtbiokmojjneleaaGreat.DpX

/-
  Plain facts of the steps by which a value is put, flushed or filled: behind each of them, torn or not, a store is ok and all values are as they were; behind the last one the value that is put is read.
-/
namespace Go.Proofs.YtbiokmojjneleaaGreat.Ct
open Go.ChangeShapes Go.WideShapes Go.ChangeAt Go.RowKit Go.Shelf OkA Big Fl ImplB ImplF ImplS ImplT ImplU SpecA SpecB SpecC SpecD SpecW SpecX SpecF SpecG SpecH Ok2 FindP FindO ImplL FindN FindL Pl Kp StA StB StC StD StE StF StG SpS SpT Sv NwA PlB PlC PlD SpecO ImplQ FindQ Py Pz RmA WrA FlA DoA ToA SpU TwC
set_option linter.unusedVariables false
set_option linter.unusedSimpArgs false
variable {bs : List Bk} {dk : List Int}

/-! Pages of two blocks. -/
theorem seq_apart (hok : okB bs = true) {i j : Nat} (hi : i < 4) (hj : j < 4) (hne : i ≠ j) {p q : Pg} (hp : p ∈ (bs.getD i zBk).ps) (hq : q ∈ (bs.getD j zBk).ps) (p1 : p.st = 1) (q1 : q.st = 1) : p.s ≠ q.s := by
  have hn := ((okB_iff bs).1 hok).2.2
  have hl := ok_len hok
  rw [getD_in bs i (by omega)] at hp
  rw [getD_in bs j (by omega)] at hq
  have hpw := (List.pairwise_flatMap.1 (show (bs.flatMap fun b => seqsP b.ps).Pairwise (· ≠ ·) from hn)).2
  rw [List.pairwise_iff_getElem] at hpw
  have mp : p.s ∈ seqsP bs[i].ps := List.mem_filterMap.2 ⟨p, hp, by unfold seqP; rw [if_pos p1]⟩
  have mq : q.s ∈ seqsP bs[j].ps := List.mem_filterMap.2 ⟨q, hq, by unfold seqP; rw [if_pos q1]⟩
  by_cases h : i < j
  · exact hpw i j (by omega) (by omega) h _ mp _ mq
  · exact fun e => hpw j i (by omega) (by omega) (by omega) _ mq _ mp e.symm
theorem pg_ok (hok : okB bs = true) {b : Bk} (hb : b ∈ bs) {p : Pg} (hp : p ∈ b.ps) : (p.st = 1 ∧ recB p.k p.s p.a p.v = true ∧ 1 ≤ p.s) ∨ (p.st ≠ 1 ∧ p.s = 0) := by
  have h := ((bkB_iff b).1 (((okB_iff bs).1 hok).2.1 b hb)).2.2.1 p hp
  unfold pgB at h
  by_cases h1 : p.st = 1
  · rw [if_pos h1] at h
    refine .inl ⟨h1, h, ?_⟩
    simp [recB, numB, inB] at h
    omega
  · rw [if_neg h1] at h
    refine .inr ⟨h1, ?_⟩
    have : noB p = true := by
      by_cases h0 : p.st = 0
      · rwa [if_pos h0] at h
      · rw [if_neg h0] at h
        by_cases h2 : p.st = 2
        · rwa [if_pos h2] at h
        · rw [if_neg h2] at h; cases h
    simp [noB] at this
    exact this.1.1.2
theorem mem_getD (hok : okB bs = true) {i : Nat} (hi : i < 4) : bs.getD i zBk ∈ bs := by
  have hl := ok_len hok
  rw [getD_in bs i (by omega)]
  exact List.getElem_mem _
theorem pg_0 (hok : okB bs = true) {i : Nat} (hi : i < 4) : ∀ p ∈ (bs.getD i zBk).ps, 0 ≤ p.s := fun p hp => by
  rcases pg_ok hok (mem_getD hok hi) hp with h | h <;> omega
/-- What is on the eldest block is elder than all else. -/
theorem elder (hok : okB bs = true) (ho : ordB bs = true) {j : Nat} (hj : j < 4) (hne : j ≠ oldB bs) {p q : Pg} (hp : p ∈ (bs.getD (oldB bs) zBk).ps) (hq : q ∈ (bs.getD j zBk).ps) (p1 : p.st = 1) (q1 : q.st = 1) : p.s < q.s := by
  have hk : oldB bs < 4 := by have : oldB bs ≤ 3 := oldN_le bs 3; omega
  have hle : mostN (bs.getD (oldB bs) zBk).ps ≤ mostN (bs.getD j zBk).ps := (old_spec bs 3 j (by omega)).1
  have mp := mostN_ge _ p hp
  have mq := mostN_ge _ q hq
  have hap := seq_apart hok hk hj (fun e => hne e.symm) hp hq p1 q1
  have sp : 1 ≤ p.s := by rcases pg_ok hok (mem_getD hok hk) hp with h | h <;> omega
  have sq : 1 ≤ q.s := by rcases pg_ok hok (mem_getD hok hj) hq with h | h <;> omega
  have hov := (ov_iff _ _).1 (ord_parts ho hk hj (fun e => hne e.symm)).1
  have lk := least_spec _ (pg_0 hok hk)
  have lj := least_spec _ (pg_0 hok hj)
  rcases lk with ⟨_, h0⟩ | ⟨_, ⟨p', hp', ep'⟩, lk⟩
  · have := h0 p hp; omega
  rcases lj with ⟨_, h0⟩ | ⟨_, _, lj⟩
  · have := h0 q hq; omega
  have lkp := lk p hp (by omega)
  have ljq := lj q hq (by omega)
  by_cases h : p.s < q.s
  · exact h
  exfalso
  apply hov
  refine ⟨by omega, by omega, ?_, by omega⟩
  have : leastN (bs.getD (oldB bs) zBk).ps ≠ mostN (bs.getD j zBk).ps := fun e => by
    rcases mostN_at (bs.getD j zBk).ps with e0 | ⟨q', hq', eq'⟩
    · omega
    have p1' : p'.st = 1 := by rcases pg_ok hok (mem_getD hok hk) hp' with h | h <;> first | exact h.1 | omega
    have q1' : q'.st = 1 := by rcases pg_ok hok (mem_getD hok hj) hq' with h | h <;> first | exact h.1 | omega
    exact seq_apart hok hk hj (fun e => hne e.symm) hp' hq' p1' q1' (by omega)
  omega

/-! The last record, when a block is wiped. -/
theorem fold_no (a : Int) : ∀ (C : List Pg) (o : Rc), (∀ q ∈ C, q.st = 1 → q.a = a → q.s ≤ o.s) → C.foldl (lastS a) o = o
  | [], o, _ => rfl
  | q :: r, o, h => by
    rw [List.foldl_cons]
    rcases lastS_cases a o q with ⟨e, _⟩ | ⟨_, h1, h2, h3⟩
    · rw [e]; exact fold_no a r o (fun x hx => h x (by simp [hx]))
    · have := h q (by simp) h1 h2; omega
theorem fold_any (a : Int) : ∀ (C : List Pg) (o o' : Rc), (∀ q ∈ C, q.st = 1 → q.a = a → o.s < q.s ∧ o'.s < q.s) → (∃ q ∈ C, q.st = 1 ∧ q.a = a) → C.foldl (lastS a) o = C.foldl (lastS a) o'
  | [], o, o', _, h => by obtain ⟨q, hq, _⟩ := h; simp at hq
  | q :: r, o, o', h, hx => by
    rw [List.foldl_cons, List.foldl_cons]
    by_cases hq : q.st = 1 ∧ q.a = a
    · have hlt := h q (by simp) hq.1 hq.2
      have e1 : lastS a o q = pgRc q := by
        rcases lastS_cases a o q with ⟨_, h9⟩ | ⟨e, _⟩
        · have := h9 hq.1 hq.2; omega
        · exact e
      have e2 : lastS a o' q = pgRc q := by
        rcases lastS_cases a o' q with ⟨_, h9⟩ | ⟨e, _⟩
        · have := h9 hq.1 hq.2; omega
        · exact e
      rw [e1, e2]
    · have e1 : lastS a o q = o := by
        rcases lastS_cases a o q with ⟨e, _⟩ | ⟨_, h1, h2, _⟩
        · exact e
        · exact absurd ⟨h1, h2⟩ hq
      have e2 : lastS a o' q = o' := by
        rcases lastS_cases a o' q with ⟨e, _⟩ | ⟨_, h1, h2, _⟩
        · exact e
        · exact absurd ⟨h1, h2⟩ hq
      rw [e1, e2]
      refine fold_any a r o o' (fun x hx => h x (by simp [hx])) ?_
      obtain ⟨x, hx, h1⟩ := hx
      rcases List.mem_cons.1 hx with rfl | hx
      · exact absurd h1 hq
      · exact ⟨x, hx, h1⟩
theorem wi_flat (hl : bs.length = 4) {k : Nat} (hk : k < 4) (torn : Bool) : pgs bs = pgs (bs.take k) ++ ((bs.getD k zBk).ps ++ pgs (bs.drop (k + 1))) ∧ pgs (wiL bs k torn) = pgs (bs.take k) ++ (List.replicate 4 (pgS torn) ++ pgs (bs.drop (k + 1))) := by
  have hkl : k < bs.length := by omega
  have e1 : bs = bs.take k ++ bs[k] :: bs.drop (k + 1) := by rw [← List.drop_eq_getElem_cons hkl, List.take_append_drop]
  constructor
  · conv => lhs; rw [e1]
    rw [getD_in bs k hkl]
    simp only [pgs, List.flatMap_append, List.flatMap_cons]
  · have e2 : wiL bs k torn = bs.take k ++ wiB (bs.getD k zBk) torn :: bs.drop (k + 1) := List.set_eq_take_append_cons_drop.trans (by rw [if_pos hkl])
    rw [e2]
    simp only [pgs, List.flatMap_append, List.flatMap_cons]
    rfl
theorem mem_part (hl : bs.length = 4) {k : Nat} (hk : k < 4) {p : Pg} (h : p ∈ pgs (bs.take k) ∨ p ∈ pgs (bs.drop (k + 1))) : ∃ j, j < 4 ∧ j ≠ k ∧ p ∈ (bs.getD j zBk).ps := by
  rcases h with h | h
  · obtain ⟨b, hb, hp⟩ := mem_pgs.1 h
    obtain ⟨j, hj, rfl⟩ := List.getElem_of_mem hb
    rw [List.length_take] at hj
    refine ⟨j, by omega, by omega, ?_⟩
    rw [List.getElem_take] at hp
    rw [getD_in bs j (by omega)]; exact hp
  · obtain ⟨b, hb, hp⟩ := mem_pgs.1 h
    obtain ⟨j, hj, rfl⟩ := List.getElem_of_mem hb
    rw [List.length_drop] at hj
    refine ⟨k + 1 + j, by omega, by omega, ?_⟩
    rw [List.getElem_drop] at hp
    rw [getD_in bs (k + 1 + j) (by omega)]; exact hp
/-- The eldest block is wiped: an address has the record that it had, or its last one was there, and it has none now. -/
theorem wi_last (hok : okB bs = true) (ho : ordB bs = true) (torn : Bool) (a : Int) : lastR (wiL bs (oldB bs) torn) a = lastR bs a ∨ (lastR (wiL bs (oldB bs) torn) a = zRc ∧ ∃ p ∈ (bs.getD (oldB bs) zBk).ps, p.st = 1 ∧ p.a = a ∧ lastR bs a = pgRc p) := by
  have hk : oldB bs < 4 := by have : oldB bs ≤ 3 := oldN_le bs 3; omega
  have hl := ok_len hok
  have hel : ∀ q, (q ∈ pgs (bs.take (oldB bs)) ∨ q ∈ pgs (bs.drop (oldB bs + 1))) → q.st = 1 → (1 ≤ q.s ∧ ∀ p ∈ (bs.getD (oldB bs) zBk).ps, p.st = 1 → p.s < q.s) := fun q hq q1 => by
    obtain ⟨j, hj, hne, hq⟩ := mem_part hl hk hq
    refine ⟨?_, fun p hp p1 => elder hok ho hj hne hp hq p1 q1⟩
    rcases pg_ok hok (mem_getD hok hj) hq with h | h <;> omega
  obtain ⟨e1, e2⟩ := wi_flat hl hk torn
  rw [lastR_flat, lastR_flat, e1, e2]
  simp only [List.foldl_append]
  generalize pgs (bs.take (oldB bs)) = A at *
  generalize pgs (bs.drop (oldB bs + 1)) = C at *
  generalize (bs.getD (oldB bs) zBk).ps = P at *
  have hR : ∀ o, (List.replicate 4 (pgS torn)).foldl (lastS a) o = o := fun o => fold_no a _ o (fun q hq h1 => by
    rw [List.mem_replicate] at hq
    rw [hq.2] at h1
    cases torn <;> simp [pgS] at h1)
  rw [hR]
  rcases (fold_spec a A zRc).2.2 with eA | ⟨p0, hp0, p01, p0a, eA⟩
  · rw [eA]
    rcases (fold_spec a P zRc).2.2 with eP | ⟨p, hp, p1, pa, eP⟩
    · rw [eP]; exact .inl rfl
    · rw [eP]
      rcases (fold_spec a C zRc).2.2 with eC | ⟨q, hq, q1, qa, eC⟩
      · right
        refine ⟨eC, p, hp, p1, pa, ?_⟩
        refine fold_no a C _ fun x hx x1 xa => ?_
        have h1 := (fold_spec a C zRc).2.1 x hx x1 xa
        rw [eC] at h1
        have h2 := (hel x (.inr hx) x1).1
        have h3 : zRc.s = 0 := rfl
        omega
      · left
        refine fold_any a C _ _ (fun x hx x1 xa => ?_) ⟨q, hq, q1, qa⟩
        have h2 := hel x (.inr hx) x1
        have h3 : zRc.s = 0 := rfl
        exact ⟨by omega, h2.2 p hp p1⟩
  · rw [eA]
    left
    rw [fold_no a P _ fun x hx x1 xa => ?_]
    have := (hel p0 (.inl hp0) p01).2 x hx x1
    have h3 : (pgRc p0).s = p0.s := rfl
    omega

/-! States with the same values. -/
def Sm (bs : List Bk) (dk : List Int) (bs' : List Bk) (dk' : List Int) : Prop := stB bs' dk' = true ∧ ∀ a, 1 ≤ a → a ≤ 6 → readI bs' dk' a = readI bs dk a
theorem Sm.refl (h : stB bs dk = true) : Sm bs dk bs dk := ⟨h, fun _ _ _ => rfl⟩
theorem Sm.trans {b1 b2 b3 : List Bk} {d1 d2 d3 : List Int} (h : Sm b1 d1 b2 d2) (g : Sm b2 d2 b3 d3) : Sm b1 d1 b3 d3 := ⟨g.1, fun a h1 h6 => (g.2 a h1 h6).trans (h.2 a h1 h6)⟩
theorem Sm.al {b1 b2 : List Bk} {d1 d2 : List Int} (h : Sm b1 d1 b2 d2) (h1 : stB b1 d1 = true) : alS b2 d2 = alS b1 d1 := by
  unfold alS
  rw [if_pos h.1, if_pos h1]
  unfold alK
  refine List.map_congr_left fun i hi => ?_
  simp at hi
  exact h.2 _ (by omega) (by omega)
theorem st_ord (h : stB bs dk = true) : okB bs = true ∧ ordB bs = true := by
  have := (st_iff.1 h).1
  unfold ordR at this
  rwa [Bool.and_eq_true] at this
/-- A record that is clean is the slow disk's. -/
theorem clean_dk (h : stB bs dk = true) {a : Int} (h1 : 1 ≤ a) (h6 : a ≤ 6) (hd : dirtyB bs a = false) : readI bs dk a = dk.getD (a - 1).toNat 0 := by
  obtain ⟨j, hj, rfl⟩ : ∃ j : Nat, j < 6 ∧ a = (j : Int) + 1 := ⟨(a - 1).toNat, by omega, by omega⟩
  have := clean_rd h j hj hd
  rw [rdS, h, show inB ((j : Int) + 1) 1 6 = true by simp [inB]; omega] at this
  rw [show ((j : Int) + 1 - 1).toNat = j by omega]
  simpa using this
theorem dirty_rd {a : Int} (hd : dirtyB bs a = true) : readI bs dk a = (lastR bs a).v ∧ lastO bs a = true ∧ (lastR bs a).k = 1 := by
  unfold dirtyB at hd
  rw [Bool.and_eq_true, beq_iff_eq] at hd
  unfold readI
  rw [if_pos hd.1]
  exact ⟨rfl, hd.1, hd.2⟩
theorem lastO_pg {a : Int} {p : Pg} (el : lastR bs a = pgRc p) (hs : 1 ≤ p.s) : lastO bs a = true := by
  unfold lastO
  rw [el]
  exact decide_eq_true (by show 0 < p.s; omega)
theorem last_num (hok : okB bs = true) {a : Int} (h : lastO bs a = true) : 0 ≤ (lastR bs a).v ∧ (lastR bs a).v ≤ 9 ∧ (lastR bs a).a = a ∧ 1 ≤ a ∧ a ≤ 6 ∧ (1 ≤ (lastR bs a).k ∧ (lastR bs a).k ≤ 2) := by
  rcases lastR_ok bs a hok with e | ⟨e, ea⟩
  · unfold lastO at h; rw [e] at h; simp [zRc] at h
  · simp [recB, numB, inB] at e
    omega
/-- The slow disk is told what is dirty: no value changes. -/
theorem tell1 (h : stB bs dk = true) {a v : Int} (hd : dirtyB bs a = true) (h0 : 0 ≤ v) (h9 : v ≤ 9) : Sm bs dk bs (dk.set (a - 1).toNat v) ∧ 1 ≤ a ∧ a ≤ 6 := by
  have hok := (st_ord h).1
  obtain ⟨_, ho, hk⟩ := dirty_rd (dk := dk) hd
  have hn := last_num hok ho
  obtain ⟨j, hj, rfl⟩ : ∃ j : Nat, j < 6 ∧ a = (j : Int) + 1 := ⟨(a - 1).toNat, by omega, by omega⟩
  have h6 := (st_iff.1 h).2.1
  rw [show ((j : Int) + 1 - 1).toNat = j by omega]
  refine ⟨⟨Pu.sd_ok h hj h0 h9 (fun t => ?_), fun b h1 h6' => ?_⟩, by omega, by omega⟩
  · rw [(Pu.fl_last h hj).2] at t; omega
  · unfold readI
    cases e : lastO bs b
    · rw [if_neg (by simp), if_neg (by simp), Pu.getD_set dk j _ v (by omega), if_neg]
      intro q
      rw [show b = (j : Int) + 1 by omega, ho] at e
      cases e
    · rw [if_pos rfl, if_pos rfl]
/-- Steps that tell the slow disk what is dirty. -/
def Tl (bs : List Bk) (L : List Stp) : Prop := ∀ x ∈ L, x = diskS x.addr x.val ∧ dirtyB bs x.addr = true ∧ x.val = (lastR bs x.addr).v
theorem Tl.kind {L : List Stp} (h : Tl bs L) : ∀ x ∈ L, x.kind = 1 := fun x hx => by rw [(h x hx).1]; rfl
theorem tell_all : ∀ (L : List Stp) (dk : List Int), Tl bs L → stB bs dk = true → toF bs L = bs ∧ Sm bs dk bs (toD dk L) ∧ (∀ b, 1 ≤ b → b ≤ 6 → (dk.getD (b - 1).toNat 0 = (lastR bs b).v ∨ ∃ x ∈ L, x.addr = b) → (toD dk L).getD (b - 1).toNat 0 = (lastR bs b).v) ∧ (∀ b, 1 ≤ b → b ≤ 6 → dirtyB bs b = false → (toD dk L).getD (b - 1).toNat 0 = dk.getD (b - 1).toNat 0)
  | [], dk, _, h => ⟨rfl, Sm.refl h, fun b _ _ q => by
      rcases q with q | ⟨x, hx, _⟩
      · exact q
      · simp at hx, fun _ _ _ _ => rfl⟩
  | x :: r, dk, ht, h => by
    obtain ⟨_, hd, hv⟩ := ht x (by simp)
    have k1 := ht.kind x (by simp)
    have hok := (st_ord h).1
    have ho := dirty_rd (dk := dk) hd
    have hn := last_num hok ho.2.1
    have h6 := (st_iff.1 h).2.1
    have e1 : doF bs x false = bs := by unfold doF; rw [if_neg (by omega), if_neg (by omega)]
    have e2 : doD dk x false = dk.set (x.addr - 1).toNat x.val := by unfold doD; rw [if_pos k1]; rfl
    obtain ⟨t1, t2, t3⟩ := tell1 h hd (v := x.val) (by omega) (by omega)
    obtain ⟨i1, i2, i3, i4⟩ := tell_all r _ (fun y hy => ht y (by simp [hy])) t1.1
    have eF : toF bs (x :: r) = toF bs r := by show toF (doF bs x false) r = _; rw [e1]
    have eD : toD dk (x :: r) = toD (dk.set (x.addr - 1).toNat x.val) r := by show toD (doD dk x false) r = _; rw [e2]
    rw [eF, eD]
    refine ⟨i1, t1.trans i2, fun b b1 b6 q => ?_, fun b b1 b6 q => ?_⟩
    · by_cases hb : b = x.addr
      · subst hb
        refine i3 _ b1 b6 (.inl ?_)
        rw [Pu.getD_set dk _ _ _ (by omega), if_pos rfl]; exact hv
      · refine i3 b b1 b6 ?_
        rcases q with q | ⟨y, hy, e⟩
        · left
          rw [Pu.getD_set dk _ _ _ (by omega), if_neg (by omega)]; exact q
        · rcases List.mem_cons.1 hy with rfl | hy
          · exact absurd e.symm hb
          · exact .inr ⟨y, hy, e⟩
    · rw [i4 b b1 b6 q, Pu.getD_set dk _ _ _ (by omega), if_neg]
      intro e
      rw [show b = x.addr by omega, hd] at q
      cases q
/-- The eldest block is wiped, all that lives there being told, or clean: no value changes. -/
theorem wi_same (h : stB bs dk = true) (h0 : ∀ j < 4, cN bs j = 0) (hn : wiN bs (oldB bs) = false) (torn : Bool) (ht : ∀ p ∈ (bs.getD (oldB bs) zBk).ps, p.st = 1 → lastR bs p.a = pgRc p → dk.getD (p.a - 1).toNat 0 = p.v) : Sm bs dk (wiL bs (oldB bs) torn) dk := by
  obtain ⟨hok, ho⟩ := st_ord h
  have hk : oldB bs < 4 := by have : oldB bs ≤ 3 := oldN_le bs 3; omega
  obtain ⟨_, h6, hb⟩ := st_iff.1 h
  have hO : ∀ a, lastR (wiL bs (oldB bs) torn) a = lastR bs a → lastO (wiL bs (oldB bs) torn) a = lastO bs a := fun a e => by unfold lastO; rw [e]
  have hZ : ∀ a, lastR (wiL bs (oldB bs) torn) a = zRc → lastO (wiL bs (oldB bs) torn) a = false := fun a e => by unfold lastO; rw [e]; rfl
  refine ⟨st_iff.2 ⟨?_, h6, fun i hi => bad_iff.2 ⟨(bad_iff.1 (hb i hi)).1, ?_⟩⟩, fun a h1 h6a => ?_⟩
  · unfold ordR
    rw [okB_wi bs (oldB bs) hk hok torn hn, ord_wi hok ho h0 (oldB bs) hk torn]; rfl
  · rintro ⟨q1, q2, q3⟩
    rcases wi_last hok ho torn ((i : Int) + 1) with e | ⟨e, _⟩
    · rw [hO _ e] at q1
      rw [e] at q2 q3
      exact (bad_iff.1 (hb i hi)).2 ⟨q1, q2, q3⟩
    · rw [hZ _ e] at q1; cases q1
  · unfold readI
    rcases wi_last hok ho torn a with e | ⟨e, p, hp, p1, pa, el⟩
    · rw [hO _ e, e]
    · rw [hZ _ e, if_neg (by simp)]
      have hs : 1 ≤ p.s := by rcases pg_ok hok (mem_getD hok hk) hp with q | q <;> omega
      have : lastO bs a = true := lastO_pg el (by omega)
      rw [if_pos this, el]
      subst pa
      exact ht p hp p1 el

/-! The steps of a put, a flush, a fill. -/
/-- Steps by which a record is written: what is told ahead, the wipe (if no page is clean), and the record. -/
structure Pn (bs : List Bk) (dk : List Int) (L T : List Stp) (wp : Bool) (kb : Nat) (rk ra rv : Int) : Prop where
  st : stB bs dk = true
  eq : L = T ++ ((if wp then [wipeS (kb : Int)] else []) ++ [writeS (kb : Int) ⟨rk, mostB bs + 1, ra, rv⟩])
  tl : Tl bs T
  kb4 : kb < 4
  op : wp = false → fopR bs = ((kb : Int), true) ∧ 0 < cN bs kb
  no : wp = true → (∀ j < 4, cN bs j = 0) ∧ kb = oldB bs ∧ wiN bs kb = false ∧ ∀ p ∈ (bs.getD kb zBk).ps, liveB bs p = true → p.k = 1 → ∃ x ∈ T, x.addr = p.a
  rc : recB rk (mostB bs + 1) ra rv = true
  cl : rk = 2 → rv = readI bs dk ra ∧ (dirtyB bs ra = true → ∃ x ∈ T, x.addr = ra)
variable {L T : List Stp} {wp : Bool} {kb : Nat} {rk ra rv : Int}
theorem Pn.num (h : Pn bs dk L T wp kb rk ra rv) : (1 ≤ rk ∧ rk ≤ 2) ∧ (1 ≤ mostB bs + 1 ∧ mostB bs + 1 ≤ 600) ∧ (1 ≤ ra ∧ ra ≤ 6) ∧ 0 ≤ rv ∧ rv ≤ 9 := by
  have := h.rc
  simp [recB, numB, inB] at this
  omega
theorem Pn.told (h : Pn bs dk L T true kb rk ra rv) : ∀ p ∈ (bs.getD (oldB bs) zBk).ps, p.st = 1 → lastR bs p.a = pgRc p → (toD dk T).getD (p.a - 1).toNat 0 = p.v := fun p hp p1 el => by
  obtain ⟨hok, _⟩ := st_ord h.st
  have hk : oldB bs < 4 := by have : oldB bs ≤ 3 := oldN_le bs 3; omega
  obtain ⟨_, hkb, _, ht⟩ := h.no rfl
  obtain ⟨_, _, t3, t4⟩ := tell_all T dk h.tl h.st
  have hr : recB p.k p.s p.a p.v = true ∧ 1 ≤ p.s := by rcases pg_ok hok (mem_getD hok hk) hp with q | q <;> first | exact q.2 | omega
  have hn : (1 ≤ p.k ∧ p.k ≤ 2) ∧ 1 ≤ p.a ∧ p.a ≤ 6 := by have := hr.1; simp [recB, numB, inB] at this; omega
  have hv : (lastR bs p.a).v = p.v := by rw [el]; rfl
  have hO : lastO bs p.a = true := lastO_pg el (by omega)
  by_cases k1 : p.k = 1
  · have := ht p (by rw [hkb]; exact hp) (by unfold liveB; rw [Bool.and_eq_true, beq_iff_eq, eqRc_iff]; exact ⟨p1, el⟩) k1
    rw [t3 p.a hn.2.1 hn.2.2 (.inr this)]; exact hv
  · have hd : dirtyB bs p.a = false := by
      unfold dirtyB
      rw [el]
      have : (pgRc p).k ≠ 1 := k1
      simp [this]
    rw [t4 p.a hn.2.1 hn.2.2 hd, ← clean_dk h.st hn.2.1 hn.2.2 hd]
    unfold readI
    rw [if_pos hO]; exact hv
/-- The blocks ahead of the record. -/
def wpF (bs : List Bk) (wp : Bool) (kb : Nat) : List Bk := if wp then wiL bs kb false else bs
theorem Pn.wiped (h : Pn bs dk L T true kb rk ra rv) (torn : Bool) : Sm bs dk (wiL bs kb torn) (toD dk T) := by
  obtain ⟨n0, hkb, hn, _⟩ := h.no rfl
  obtain ⟨_, t2, _, _⟩ := tell_all T dk h.tl h.st
  have ht := h.told
  subst hkb
  exact t2.trans (wi_same t2.1 n0 hn torn ht)
theorem Pn.ahead (h : Pn bs dk L T wp kb rk ra rv) : Sm bs dk (wpF bs wp kb) (toD dk T) := by
  unfold wpF
  cases wp
  · exact (tell_all T dk h.tl h.st).2.1
  · exact h.wiped false
theorem Pn.wr (h : Pn bs dk L T wp kb rk ra rv) : Wr (wpF bs wp kb) kb rk (mostB bs + 1) ra rv := by
  have ha := h.ahead
  obtain ⟨hok, _⟩ := st_ord h.st
  have hl := ok_len hok
  cases wp
  · obtain ⟨q1, q2⟩ := h.op rfl
    exact ⟨(st_iff.1 ha.1).1, q1, h.kb4, q2, fun b hb p hp => page_lt b hb p hp, h.rc⟩
  · obtain ⟨n0, hkb, hn, _⟩ := h.no rfl
    have hw : wiO bs (kb : Int) = true := by
      unfold wiO
      have := h.kb4
      rw [hok, show inB (kb : Int) 0 3 = true by simp [inB]; omega, Int.toNat_natCast, hn]; rfl
    have e := (wiR_yes (torn := false) hw).1
    rw [Int.toNat_natCast] at e
    refine ⟨(st_iff.1 ha.1).1, ?_, h.kb4, ?_, fun b hb p hp => ?_, h.rc⟩
    · have := fop_wi kb hw n0
      rw [e] at this; exact this
    · show 0 < cN (wiL bs kb false) kb
      rw [cN_wi hl kb h.kb4, if_pos rfl, if_neg (by simp)]; omega
    · have h1 := page_lt b hb p hp
      have h2 : mostB (wpF bs true kb) ≤ mostB bs := mostB_wi bs kb false
      omega
/-- What stands behind all steps. -/
structure En (bs : List Bk) (dk : List Int) (rk ra rv : Int) (bs' : List Bk) (dk' : List Int) : Prop where
  st : stB bs' dk' = true
  rd : ∀ a, 1 ≤ a → a ≤ 6 → readI bs' dk' a = if ra = a then rv else readI bs dk a
  last : lastR bs' ra = ⟨rk, mostB bs + 1, ra, rv⟩
theorem Pn.dkv (h : Pn bs dk L T wp kb rk ra rv) (h2 : rk = 2) : (toD dk T).getD (ra - 1).toNat 0 = rv := by
  obtain ⟨_, _, t3, t4⟩ := tell_all T dk h.tl h.st
  have hn := h.num
  obtain ⟨e, ht⟩ := h.cl h2
  rw [e]
  cases hd : dirtyB bs ra
  · rw [t4 ra (by omega) (by omega) hd, clean_dk h.st (by omega) (by omega) hd]
  · rw [t3 ra (by omega) (by omega) (.inr (ht hd)), (dirty_rd hd).1]
theorem Pn.written (h : Pn bs dk L T wp kb rk ra rv) : En bs dk rk ra rv (wrL (wpF bs wp kb) kb (pgW false rk (mostB bs + 1) ra rv)) (toD dk T) := by
  have ha := h.ahead
  have hw := h.wr
  refine ⟨hw.st ha.1 false fun q _ => (h.dkv q).symm, fun a h1 h6 => ?_, ?_⟩
  · rw [hw.readI]
    by_cases e : ra = a
    · rw [if_pos ⟨rfl, e⟩, if_pos e]
    · rw [if_neg (fun q => e q.2), if_neg e, ha.2 a h1 h6]
  · rw [hw.last, if_pos ⟨rfl, rfl⟩]
theorem Pn.torn (h : Pn bs dk L T wp kb rk ra rv) : Sm bs dk (wrL (wpF bs wp kb) kb (pgW true rk (mostB bs + 1) ra rv)) (toD dk T) := by
  have ha := h.ahead
  have hw := h.wr
  refine ha.trans ⟨hw.st ha.1 true (fun _ q => by cases q), fun a h1 h6 => ?_⟩
  rw [hw.readI, if_neg (fun q => by cases q.1)]
theorem Pn.wrF (h : Pn bs dk L T wp kb rk ra rv) (torn : Bool) : doF (wpF bs wp kb) (writeS (kb : Int) ⟨rk, mostB bs + 1, ra, rv⟩) torn = wrL (wpF bs wp kb) kb (pgW torn rk (mostB bs + 1) ra rv) := by
  unfold doF Pl.wrF
  rw [if_neg (by show ¬ ((3 : Int) = 2); omega), if_pos (show (writeS (kb : Int) ⟨rk, mostB bs + 1, ra, rv⟩).kind = 3 from rfl)]
  show (if wrN (wpF bs wp kb) ((kb : Int).toNat) (mostB bs + 1) = true then _ else _) = _
  rw [Int.toNat_natCast, h.wr.yes.2]
  rfl
theorem Pn.wiF (h : Pn bs dk L T true kb rk ra rv) (torn : Bool) : doF bs (wipeS (kb : Int)) torn = wiL bs kb torn := by
  unfold doF Pl.wiF
  rw [if_pos (show (wipeS (kb : Int)).kind = 2 from rfl)]
  show (if wiN bs ((kb : Int).toNat) = true then _ else _) = _
  rw [Int.toNat_natCast, (h.no rfl).2.2.1]
  rfl
theorem doD_no {x : Stp} (hx : x.kind ≠ 1) (dk : List Int) (torn : Bool) : doD dk x torn = dk := by unfold doD; rw [if_neg hx]
theorem doD_torn (x : Stp) (dk : List Int) : doD dk x true = dk := by unfold doD; split <;> simp
theorem Pn.pre (h : Pn bs dk L T wp kb rk ra rv) : toF bs (T ++ (if wp then [wipeS (kb : Int)] else [])) = wpF bs wp kb ∧ toD dk (T ++ (if wp then [wipeS (kb : Int)] else [])) = toD dk T := by
  obtain ⟨t1, _⟩ := tell_all T dk h.tl h.st
  rw [toF_app, toD_app, t1]
  cases wp
  · exact ⟨rfl, rfl⟩
  · refine ⟨?_, ?_⟩
    · show doF bs (wipeS (kb : Int)) false = _
      rw [h.wiF]; rfl
    · show doD (toD dk T) (wipeS (kb : Int)) false = _
      exact doD_no (by show ¬ ((2 : Int) = 1); omega) _ _
theorem Pn.full (h : Pn bs dk L T wp kb rk ra rv) : toF bs L = wrL (wpF bs wp kb) kb (pgW false rk (mostB bs + 1) ra rv) ∧ toD dk L = toD dk T := by
  obtain ⟨e1, e2⟩ := h.pre
  rw [h.eq, ← List.append_assoc, toF_app, toD_app, e1, e2]
  refine ⟨?_, ?_⟩
  · show doF (wpF bs wp kb) (writeS (kb : Int) ⟨rk, mostB bs + 1, ra, rv⟩) false = _
    exact h.wrF false
  · show doD (toD dk T) (writeS (kb : Int) ⟨rk, mostB bs + 1, ra, rv⟩) false = _
    exact doD_no (by show ¬ ((3 : Int) = 1); omega) _ _
theorem Pn.end (h : Pn bs dk L T wp kb rk ra rv) : En bs dk rk ra rv (toF bs L) (toD dk L) := by
  rw [h.full.1, h.full.2]; exact h.written
theorem Pn.len (h : Pn bs dk L T wp kb rk ra rv) : L.length = T.length + (if wp then 2 else 1) := by
  rw [h.eq, List.length_append, List.length_append]
  cases wp <;> simp
/-- Wherever it falls no value changes. -/
theorem Pn.part (h : Pn bs dk L T wp kb rk ra rv) (n : Nat) (hn : n < L.length) : Sm bs dk (toF bs (L.take n)) (toD dk (L.take n)) ∧ Sm bs dk (doF (toF bs (L.take n)) (L.getD n zSt) true) (doD (toD dk (L.take n)) (L.getD n zSt) true) := by
  rw [doD_torn]
  have hlen := h.len
  by_cases h1 : n < T.length
  · have e1 : L.take n = T.take n := by rw [h.eq, List.take_append_of_le_length (by omega)]
    have e2 : L.getD n zSt = T[n] := by rw [h.eq, List.getD_eq_getElem?_getD, List.getElem?_append_left h1, List.getElem?_eq_getElem h1]; rfl
    have ht : Tl bs (T.take n) := fun x hx => h.tl x (List.mem_of_mem_take hx)
    obtain ⟨t1, t2, _⟩ := tell_all (T.take n) dk ht h.st
    have hk := h.tl.kind _ (List.getElem_mem h1)
    rw [e1, e2, t1]
    have : doF bs T[n] true = bs := by unfold doF; rw [if_neg (by omega), if_neg (by omega)]
    rw [this]
    exact ⟨t2, t2⟩
  by_cases h2 : n = T.length + (if wp then 1 else 0)
  · obtain ⟨p1, p2⟩ := h.pre
    have e1 : L.take n = T ++ (if wp then [wipeS (kb : Int)] else []) := by
      rw [h.eq, ← List.append_assoc]
      exact List.take_left' (by rw [List.length_append, h2]; cases wp <;> rfl)
    have e2 : L.getD n zSt = writeS (kb : Int) ⟨rk, mostB bs + 1, ra, rv⟩ := by
      rw [h.eq, ← List.append_assoc, List.getD_eq_getElem?_getD, List.getElem?_append_right (by rw [List.length_append, h2]; cases wp <;> simp)]
      rw [show n - (T ++ (if wp then [wipeS (kb : Int)] else [])).length = 0 by rw [List.length_append, h2]; cases wp <;> simp]
      rfl
    rw [e1, e2, p1, p2, h.wrF]
    exact ⟨h.ahead, h.torn⟩
  · cases wp
    · simp at h2 hlen; omega
    · have hn : n = T.length := by simp at h2 hlen; omega
      obtain ⟨t1, t2, _⟩ := tell_all T dk h.tl h.st
      have e1 : L.take n = T := by rw [h.eq]; exact List.take_left' hn.symm
      have e2 : L.getD n zSt = wipeS (kb : Int) := by
        rw [h.eq, List.getD_eq_getElem?_getD, List.getElem?_append_right (by omega), show n - T.length = 0 by omega]
        rfl
      rw [e1, e2, t1, h.wiF]
      exact ⟨t2, h.wiped true⟩
theorem Pn.cut (h : Pn bs dk L T wp kb rk ra rv) (cut : Int) (h0 : 0 ≤ cut) (h1 : cut < L.length) (torn : Bool) : Sm bs dk (toB bs L cut torn) (toK dk L cut torn) := by
  have hp := h.part cut.toNat (by omega)
  unfold toB toK
  split
  · exact hp.2
  · exact hp.1
theorem to_done {cut : Int} (h : (L.length : Int) ≤ cut) (torn : Bool) : toB bs L cut torn = toF bs L ∧ toK dk L cut torn = toD dk L := by
  have hf : fell L cut torn = false := by unfold fell; cases torn <;> simp [inB]; omega
  unfold toB toK
  rw [hf, List.take_of_length_le (by omega)]
  exact ⟨rfl, rfl⟩
theorem Pn.done (h : Pn bs dk L T wp kb rk ra rv) (cut : Int) (h1 : (L.length : Int) ≤ cut) (torn : Bool) : En bs dk rk ra rv (toB bs L cut torn) (toK dk L cut torn) := by
  rw [(to_done (bs := bs) (dk := dk) h1 torn).1, (to_done (bs := bs) (dk := dk) h1 torn).2]; exact h.end

/-! Which steps are such. -/
theorem tellP_tl (ps : List Pg) (hr : ∀ p ∈ ps, p.st = 1 → 1 ≤ p.s) : Tl bs (tellP bs ps) := fun x hx => by
  unfold tellP at hx
  rw [List.mem_filterMap] at hx
  obtain ⟨p, hp, e⟩ := hx
  split at e
  · rename_i hc
    simp at e; subst e
    rw [Bool.and_eq_true, beq_iff_eq] at hc
    have hl := hc.1
    unfold liveB at hl
    rw [Bool.and_eq_true, beq_iff_eq, eqRc_iff] at hl
    have hs := hr p hp hl.1
    refine ⟨rfl, ?_, ?_⟩
    · show dirtyB bs p.a = true
      unfold dirtyB lastO
      rw [hl.2]
      have : (pgRc p).k = 1 := hc.2
      have h2 : (pgRc p).s = p.s := rfl
      rw [this, h2]
      simp; omega
    · show p.v = (lastR bs p.a).v
      rw [hl.2]; rfl
  · cases e
theorem tell_has {ps : List Pg} {p : Pg} (hp : p ∈ ps) (hl : liveB bs p = true) (hk : p.k = 1) : ∃ x ∈ tellP bs ps, x.addr = p.a :=
  ⟨diskS p.a p.v, List.mem_filterMap.2 ⟨p, hp, by rw [if_pos]; simp [hl, hk]⟩, rfl⟩
/-- Steps that tell, and then those that write a record. -/
theorem plan_of (hs : stB bs dk = true) {D : List Stp} (hD : Tl bs D) (hne : writeP bs rk ra rv ≠ []) (hcl : rk = 2 → rv = readI bs dk ra ∧ (dirtyB bs ra = true → ∃ x ∈ D, x.addr = ra)) : ∃ T wp kb, Pn bs dk (D ++ writeP bs rk ra rv) T wp kb rk ra rv := by
  obtain ⟨hok, ho⟩ := st_ord hs
  have hk : oldB bs < 4 := by have : oldB bs ≤ 3 := oldN_le bs 3; omega
  unfold writeP at hne ⊢
  cases hc : roomO bs && recB rk (mostB bs + 1) ra rv
  · rw [hc] at hne; exact absurd rfl hne
  rw [if_pos rfl]
  rw [Bool.and_eq_true] at hc
  rcases fop_cases hok with ⟨e, h0⟩ | ⟨k, hk4, e, hpos⟩
  · rw [fop_ok hok] at e
    have eo : (openR bs).2 = false := by rw [e]
    refine ⟨D ++ tellP bs (bs.getD (oldB bs) zBk).ps, true, oldB bs, hs, ?_, ?_, hk, (fun q => by cases q), fun _ => ⟨h0, rfl, ?_, fun p hp hl h1 => ?_⟩, hc.2, fun q => ⟨(hcl q).1, fun d => ?_⟩⟩
    · unfold roomL roomB
      rw [eo]
      simp
    · intro x hx
      rcases List.mem_append.1 hx with hx | hx
      · exact hD x hx
      · exact tellP_tl _ (fun p hp h1 => by rcases pg_ok hok (mem_getD hok hk) hp with q | q <;> omega) x hx
    · have := hc.1
      unfold roomO at this
      rw [eo] at this
      unfold wiN
      simp at this ⊢
      exact this
    · obtain ⟨x, hx, e⟩ := tell_has hp hl h1
      exact ⟨x, List.mem_append.2 (.inr hx), e⟩
    · obtain ⟨x, hx, e⟩ := (hcl q).2 d
      exact ⟨x, List.mem_append.2 (.inl hx), e⟩
  · have e' := e
    rw [fop_ok hok] at e'
    have eo : (openR bs).2 = true := by rw [e']
    refine ⟨D, false, k, hs, ?_, hD, hk4, fun _ => ⟨e, hpos⟩, (fun q => by cases q), hc.2, hcl⟩
    unfold roomL roomB
    rw [eo]
    simp [e']
theorem put_plan {a v : Int} (hne : putS bs dk a v ≠ []) : ∃ T wp kb, Pn bs dk (putS bs dk a v) T wp kb 1 a v := by
  unfold putS at hne ⊢
  cases hs : stB bs dk
  · rw [hs] at hne; exact absurd rfl hne
  rw [hs, if_pos rfl] at hne
  rw [if_pos rfl]
  exact plan_of hs (D := []) (fun x hx => by simp at hx) hne (fun q => by omega)
theorem flush_plan {a : Int} (hne : flushS bs dk a ≠ []) : dirtyB bs a = true ∧ (1 ≤ a ∧ a ≤ 6) ∧ ∃ T wp kb, Pn bs dk (flushS bs dk a) T wp kb 2 a (readI bs dk a) := by
  unfold flushS at hne ⊢
  cases hs : stB bs dk
  · rw [hs] at hne; exact absurd rfl hne
  rw [hs, if_pos rfl] at hne
  rw [if_pos rfl]
  unfold flushP at hne ⊢
  cases hc : inB a 1 6 && dirtyB bs a
  · rw [hc] at hne; exact absurd rfl hne
  rw [hc, if_pos rfl] at hne
  rw [if_pos rfl]
  rw [Bool.and_eq_true] at hc
  cases he : (writeP bs 2 a (readI bs dk a)).isEmpty
  · rw [if_neg (by simp)]
    have hw : writeP bs 2 a (readI bs dk a) ≠ [] := fun e => by rw [e] at he; cases he
    have hin := hc.1
    simp [inB] at hin
    refine ⟨hc.2, hin, plan_of hs (D := [diskS a (readI bs dk a)]) (fun x hx => ?_) hw (fun _ => ⟨rfl, fun _ => ⟨diskS a (readI bs dk a), List.mem_singleton.2 rfl, rfl⟩⟩)⟩
    simp at hx; subst hx
    exact ⟨rfl, hc.2, (dirty_rd hc.2).1⟩
  · rw [he, if_pos rfl] at hne; exact absurd rfl hne
theorem fill_plan {a : Int} (hne : fillS bs dk a ≠ []) : lastO bs a = false ∧ (1 ≤ a ∧ a ≤ 6) ∧ ∃ T wp kb, Pn bs dk (fillS bs dk a) T wp kb 2 a (readI bs dk a) := by
  unfold fillS at hne ⊢
  cases hs : stB bs dk
  · rw [hs] at hne; exact absurd rfl hne
  rw [hs, if_pos rfl] at hne
  rw [if_pos rfl]
  unfold fillP at hne ⊢
  cases hc : inB a 1 6 && !lastO bs a
  · rw [hc] at hne; exact absurd rfl hne
  rw [hc, if_pos rfl] at hne
  rw [if_pos rfl]
  rw [Bool.and_eq_true, Bool.not_eq_true'] at hc
  have hin := hc.1
  simp [inB] at hin
  have er : readI bs dk a = dk.getD (a - 1).toNat 0 := by unfold readI; rw [if_neg (by rw [hc.2]; simp)]
  rw [er]
  rw [← er] at hne
  refine ⟨hc.2, hin, ?_⟩
  rw [← er]
  exact plan_of hs (D := []) (fun x hx => by simp at hx) hne (fun _ => ⟨rfl, fun d => by
    have := (dirty_rd (dk := dk) d).2.1
    rw [hc.2] at this; cases this⟩)
end Go.Proofs.YtbiokmojjneleaaGreat.Ct

/-
  Plain facts of what happens to a store: behind an event a store that is ok is ok; each of its steps is one.
-/
namespace Go.Proofs.YtbiokmojjneleaaGreat.Cu
open Go.ChangeShapes Go.WideShapes Go.ChangeAt Go.RowKit Go.Shelf OkA Big Fl ImplB ImplF ImplS ImplT ImplU SpecA SpecB SpecC SpecD SpecW SpecX SpecF SpecG SpecH Ok2 FindP FindO ImplL FindN FindL Pl Kp StA StB StC StD StE StF StG SpS SpT Sv NwA PlB PlC PlD SpecO ImplQ FindQ Py Pz RmA WrA FlA DoA ToA PlA SpU TwC QuB QuE Ct AlX PaA DpX
set_option linter.unusedVariables false
set_option linter.unusedSimpArgs false
variable {bs : List Bk} {dk : List Int} {L T : List Stp} {wp : Bool} {kb : Nat} {rk ra rv : Int}

theorem _root_.Go.Proofs.YtbiokmojjneleaaGreat.Ct.Pn.stk (h : Pn bs dk L T wp kb rk ra rv) : L.all stkB = true := by
  obtain ⟨hok, _⟩ := st_ord h.st
  have h4 := h.kb4
  rw [List.all_eq_true, h.eq]
  intro x hx
  rcases List.mem_append.1 hx with hx | hx
  · obtain ⟨e, hd, hv⟩ := h.tl x hx
    have hn := last_num hok (dirty_rd (dk := dk) hd).2.1
    rw [e]
    unfold stkB
    rw [if_pos (show (diskS x.addr x.val).kind = 1 from rfl)]
    show (((0 : Int) == 0 && noRc zRc) && inB x.addr 1 6 && inB x.val 0 9) = true
    rw [show inB x.addr 1 6 = true by simp [inB]; omega, show inB x.val 0 9 = true by simp [inB]; omega]
    rfl
  rcases List.mem_append.1 hx with hx | hx
  · cases wp
    · simp at hx
    · simp at hx; subst hx
      unfold stkB
      simp [wipeS, zRc, noRc, inB]
      omega
  · simp at hx; subst hx
    unfold stkB
    have := h.rc
    simp [writeS, inB, this]
    omega
theorem _root_.Go.Proofs.YtbiokmojjneleaaGreat.Ct.Pn.tk (h : Pn bs dk L T wp kb rk ra rv) (cut : Int) (h0 : 0 ≤ cut) : toOk bs dk L cut = true := by
  unfold toOk
  rw [h.st, h.stk, decide_eq_true h0]; rfl
theorem nil_tk (hs : stB bs dk = true) (cut : Int) (h0 : 0 ≤ cut) : toOk bs dk [] cut = true := by
  unfold toOk
  rw [hs, decide_eq_true h0]; rfl
theorem to_nil (cut : Int) (torn : Bool) : toB bs [] cut torn = bs ∧ toK dk [] cut torn = dk := by
  have hf : fell [] cut torn = false := by unfold fell; cases torn <;> simp [inB]; omega
  unfold toB toK
  rw [hf]; simp [toF, toD]
/-! An event's steps. -/
theorem ev_put (hs : stB bs dk = true) (a b : Int) : writeP bs 1 a b = putS bs dk a b := by unfold putS; rw [if_pos hs]
theorem ev_flush (hs : stB bs dk = true) (a : Int) : flushP bs dk a = flushS bs dk a := by unfold flushS; rw [if_pos hs]
theorem ev_fill (hs : stB bs dk = true) (a : Int) : fillP bs dk a = fillS bs dk a := by unfold fillS; rw [if_pos hs]
theorem ev_plan (hs : stB bs dk = true) (x : Ev) : evP bs dk x = [] ∨ ∃ T wp kb rk ra rv, Pn bs dk (evP bs dk x) T wp kb rk ra rv ∧ ((x.k = 1 ∧ rk = 1 ∧ ra = x.a ∧ rv = x.b) ∨ (x.k ≠ 1 ∧ rk = 2 ∧ ra = x.a ∧ rv = readI bs dk x.a)) := by
  by_cases he : evP bs dk x = []
  · exact .inl he
  right
  unfold evP at he ⊢
  by_cases h1 : x.k = 1
  · rw [if_pos h1] at he ⊢
    rw [ev_put hs] at he ⊢
    obtain ⟨T, wp, kb, h⟩ := put_plan he
    exact ⟨T, wp, kb, _, _, _, h, .inl ⟨h1, rfl, rfl, rfl⟩⟩
  rw [if_neg h1] at he ⊢
  by_cases h2 : x.k = 2
  · rw [if_pos h2] at he ⊢
    rw [ev_flush hs] at he ⊢
    obtain ⟨_, _, T, wp, kb, h⟩ := flush_plan he
    exact ⟨T, wp, kb, _, _, _, h, .inr ⟨h1, rfl, rfl, rfl⟩⟩
  rw [if_neg h2] at he ⊢
  by_cases h3 : x.k = 3
  · rw [if_pos h3] at he ⊢
    rw [ev_fill hs] at he ⊢
    obtain ⟨_, _, T, wp, kb, h⟩ := fill_plan he
    exact ⟨T, wp, kb, _, _, _, h, .inr ⟨h1, rfl, rfl, rfl⟩⟩
  rw [if_neg h3] at he
  exact absurd rfl he
theorem ev_tk (hs : stB bs dk = true) (x : Ev) (cut : Int) (h0 : 0 ≤ cut) : toOk bs dk (evP bs dk x) cut = true := by
  rcases ev_plan hs x with e | ⟨T, wp, kb, rk, ra, rv, h, _⟩
  · rw [e]; exact nil_tk hs cut h0
  · exact h.tk cut h0
theorem fl_tk (hs : stB bs dk = true) (a : Int) (cut : Int) (h0 : 0 ≤ cut) : toOk bs dk (flushP bs dk a) cut = true := ev_tk hs ⟨2, a, 0, 0, false⟩ cut h0
theorem En.sm {bs' : List Bk} {dk' : List Int} (h : En bs dk rk ra rv bs' dk') (e : rv = readI bs dk ra) : Sm bs dk bs' dk' := ⟨h.st, fun a h1 h6 => by
  rw [h.rd a h1 h6]
  by_cases q : ra = a
  · rw [if_pos q, e, q]
  · rw [if_neg q]⟩
/-- One address is flushed: no value changes. -/
theorem flA_sm {p : List Bk × List Int} (hs : stB p.1 p.2 = true) (n : Nat) : Sm p.1 p.2 (flA p n).1 (flA p n).2 := by
  unfold flA
  rcases ev_plan hs ⟨2, (n : Int), 0, 0, false⟩ with e | ⟨T, wp, kb, rk, ra, rv, h, hx⟩
  · have e' : flushP p.1 p.2 (n : Int) = [] := e
    rw [e']
    show Sm p.1 p.2 (toB p.1 [] _ false) (toK p.2 [] _ false)
    rw [(to_nil (bs := p.1) (dk := p.2) _ false).1, (to_nil (bs := p.1) (dk := p.2) _ false).2]
    exact Sm.refl hs
  · have h' : Pn p.1 p.2 (flushP p.1 p.2 (n : Int)) T wp kb rk ra rv := h
    have hd := h'.done _ (Int.le_refl _) false
    rcases hx with ⟨q, _⟩ | ⟨_, _, e1, e2⟩
    · exact absurd q (by show ¬ ((2 : Int) = 1); omega)
    · exact En.sm hd (by rw [e1, e2])
theorem allA_sm (hs : stB bs dk = true) : ∀ n, Sm bs dk (allA bs dk n).1 (allA bs dk n).2
  | 0 => Sm.refl hs
  | n + 1 => (allA_sm hs n).trans (flA_sm (allA_sm hs n).1 (n + 1))
/-- What an event leaves: a store that is ok; each value as it was, or, of a put that was done, the new one. -/
theorem doP_rd (hs : stB bs dk = true) (x : Ev) : stB (doP bs dk x).1 (doP bs dk x).2 = true ∧ ∀ a, 1 ≤ a → a ≤ 6 → readI (doP bs dk x).1 (doP bs dk x).2 a = if x.k = 1 ∧ x.a = a ∧ evP bs dk x ≠ [] ∧ ((evP bs dk x).length : Int) ≤ x.c then x.b else readI bs dk a := by
  unfold doP
  by_cases h4 : x.k = 4
  · rw [if_pos h4]
    have := allA_sm hs 6
    refine ⟨this.1, fun a h1 h6 => ?_⟩
    rw [this.2 a h1 h6, if_neg (by omega)]
  rw [if_neg h4]
  by_cases hc : x.c < 0
  · rw [if_pos hc]
    refine ⟨hs, fun a h1 h6 => ?_⟩
    rw [if_neg (by omega)]
  rw [if_neg hc]
  rcases ev_plan hs x with e | ⟨T, wp, kb, rk, ra, rv, h, hx⟩
  · rw [e]
    show stB (toB bs [] x.c x.t) (toK dk [] x.c x.t) = true ∧ ∀ a, 1 ≤ a → a ≤ 6 → readI (toB bs [] x.c x.t) (toK dk [] x.c x.t) a = _
    rw [(to_nil (bs := bs) (dk := dk) _ x.t).1, (to_nil (bs := bs) (dk := dk) _ x.t).2]
    refine ⟨hs, fun a h1 h6 => ?_⟩
    rw [if_neg (fun q => q.2.2.1 rfl)]
  · have hne : evP bs dk x ≠ [] := fun e => by have := h.len; rw [e] at this; simp at this; cases wp <;> simp at this
    by_cases hl : ((evP bs dk x).length : Int) ≤ x.c
    · have hd := h.done x.c hl x.t
      rcases hx with ⟨k1, e0, e1, e2⟩ | ⟨k1, e0, e1, e2⟩
      · refine ⟨hd.st, fun a h1 h6 => ?_⟩
        show readI (toB bs (evP bs dk x) x.c x.t) (toK dk (evP bs dk x) x.c x.t) a = _
        rw [hd.rd a h1 h6, e1, e2]
        by_cases q : x.a = a
        · rw [if_pos q, if_pos ⟨k1, q, hne, hl⟩]
        · rw [if_neg q, if_neg (fun t => q t.2.1)]
      · have := En.sm hd (by rw [e1, e2])
        refine ⟨this.1, fun a h1 h6 => ?_⟩
        show readI (toB bs (evP bs dk x) x.c x.t) (toK dk (evP bs dk x) x.c x.t) a = _
        rw [this.2 a h1 h6, if_neg (fun t => k1 t.1)]
    · have := h.cut x.c (by omega) (by omega) x.t
      refine ⟨this.1, fun a h1 h6 => ?_⟩
      show readI (toB bs (evP bs dk x) x.c x.t) (toK dk (evP bs dk x) x.c x.t) a = _
      rw [this.2 a h1 h6, if_neg (fun t => hl t.2.2.2)]
theorem doP_st (hs : stB bs dk = true) (x : Ev) : stB (doP bs dk x).1 (doP bs dk x).2 = true := (doP_rd hs x).1
end Go.Proofs.YtbiokmojjneleaaGreat.Cu
