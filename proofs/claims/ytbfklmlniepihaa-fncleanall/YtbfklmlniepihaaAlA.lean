/-
  The specification's telling the slow disk of all, in place.
-/
import Derived.Test.YtbfklmlniepihaaPlA
namespace Go.Proofs.Ytbfklmlniepihaa.AlA
open Go.ChangeShapes Go.WideShapes Go.ChangeAt Go.RowKit Go.Shelf OkA Big Fl ImplB ImplF ImplS _root_.Go.Proofs.Ytbfklmlniepihaa.Own ImplT ImplU SpecA SpecB SpecC SpecD SpecW SpecF SpecG SpecH Ok2 Pl FindP SpecX ImplL FindN FindL FindV Kp StA RmA WrA FlA DoA ToA PlA
set_option linter.unusedVariables false
set_option linter.unusedSimpArgs false
attribute [local go_sem ↓] Go.wp_at_zero Go.wp_at_succ

/-- What stands behind a thing that happened: the same rows, some store in them that is as it should be. -/
def EndPost (w : World) (lo g d cap dcap : Nat) (G : List Nat) (e : Ending) (w' : World) : Prop :=
  e = .returned (.agg #[.slice (some ⟨g, 0, none⟩) 4 cap, .slice (some ⟨d, 0, none⟩) 6 dcap]) ∧ ∃ B D, okB B = true ∧ St w' lo g d G B D ∧ Kept (d :: g :: G) w w'
theorem toB_all (bs : List Bk) (L : List Stp) (hok : okB bs = true) (hL : ∀ x ∈ L, stpB x = true) (cut : Int) (torn : Bool) : okB (toB bs L cut torn) = true := okB_toB bs L cut torn hok hL

set_option maxRecDepth 100000 in
set_option maxHeartbeats 2000000 in
theorem all_any (lo g d cap dcap : Nat) (G : List Nat) (bs : List Bk) (dk : List Int) (w : World) (hS : St w lo g d G bs dk) (hok : okB bs = true) :
    Calls Try.prog 27 #[.agg #[.slice (some ⟨g, 0, none⟩) 4 cap, .slice (some ⟨d, 0, none⟩) 6 dcap]] w fun e w' => EndPost w lo g d cap dcap G e w' := by
  have b1 : Below w.heap.size w ((w.alloc (.cells #[.slice (some ⟨g, 0, none⟩) 4 cap, .slice (some ⟨d, 0, none⟩) 6 dcap] 59)).alloc (.cells #[.slice none 0 0, .slice none 0 0] 59)) := ((Below.refl _ _).alloc (Nat.le_refl _) _).alloc (by simp) _
  have cS := (store_box w (.slice (some ⟨g, 0, none⟩) 4 cap) (.slice (some ⟨d, 0, none⟩) 6 dcap)).alloc (by simp) (.cells #[.slice none 0 0, .slice none 0 0] 59)
  have cR := CsAt.new (w.alloc (.cells #[.slice (some ⟨g, 0, none⟩) 4 cap, .slice (some ⟨d, 0, none⟩) 6 dcap] 59)) [.slice none 0 0, .slice none 0 0] 59
  rw [World.size_alloc] at cR
  have s1 : ((w.alloc (.cells #[.slice (some ⟨g, 0, none⟩) 4 cap, .slice (some ⟨d, 0, none⟩) 6 dcap] 59)).alloc (.cells #[.slice none 0 0, .slice none 0 0] 59)).heap.size = w.heap.size + 2 := by simp
  have S1 := hS.below b1
  have k1 : Kept (d :: g :: G) w ((w.alloc (.cells #[.slice (some ⟨g, 0, none⟩) 4 cap, .slice (some ⟨d, 0, none⟩) 6 dcap] 59)).alloc (.cells #[.slice none 0 0, .slice none 0 0] 59)) := Kept.of b1
  have hall := hS.all
  have HOK := hide hok
  clear hS hok b1
  go_enter Try.func27, Try.ntmps27
  go_upto_region 1 with fail
  generalize (w.alloc (.cells #[.slice (some ⟨g, 0, none⟩) 4 cap, .slice (some ⟨d, 0, none⟩) 6 dcap] 59)).alloc (.cells #[.slice none 0 0, .slice none 0 0] 59) = w1 at *
  go_wp2
  go_loopw [3] (fun i w' => ∃ (n : Nat) (B : List Bk) (D : List Int), 1 ≤ n ∧ n ≤ 7 ∧ i = .int .i64 n ∧ Hid (okB B = true) ∧ St w' lo g d G B D ∧ CsAt w' w.heap.size [.slice (some ⟨g, 0, none⟩) 4 cap, .slice (some ⟨d, 0, none⟩) 6 dcap] ∧ CsAt w' (w.heap.size + 1) [.slice none 0 0, .slice none 0 0] ∧ w.heap.size + 2 ≤ w'.heap.size ∧ Kept (d :: g :: G) w w') (fun i _ => 7 - (intOf i).toNat)
  case atStart => exact ⟨1, bs, dk, by omega, by omega, rfl, HOK, S1, cS, cR, by omega, k1⟩
  case round =>
    clear S1 cS cR s1 k1 HOK
    obtain ⟨n, B, D, hn1, hn7, rfl, HO, hS, hC, hR, hsz, hK⟩ := hrel
    have hgL : w.heap.size ∉ d :: g :: G := fun hm => by have := (hall _ hm).2; omega
    have hrL : w.heap.size + 1 ∉ d :: g :: G := fun hm => by have := (hall _ hm).2; omega
    by_cases h6 : n ≤ 6
    · have hni : (n : Int) ≤ 6 := by omega
      have y0 := hC.cell 0 _ rfl
      have y1 := hC.cell 1 _ rfl
      go_wp2_with fail
      refine (flush_steps g 0 cap d 0 dcap D hS.six (n : Int) B wr (unhide HO) (st_bk hS) (st_rng hS)).mono ?_
      rintro e w2 ⟨v, rfl, r2, d2⟩
      obtain ⟨sa, sc, rfl, hsa⟩ := stsForm r2
      have hL := flushP_stp B D (n : Int) (unhide HO)
      have hl7 := flushP_len B D (n : Int) (unhide HO)
      have S2 := hS.below d2
      have hC2 := csAt_kept hC (L := []) (Kept.of d2) (by omega) (by simp)
      have hR2 := csAt_kept hR (L := []) (Kept.of d2) (by omega) (by simp)
      have hK2 := hK.trans (Kept.of d2)
      have hs2 : w.heap.size + 2 ≤ w2.heap.size := Nat.le_trans hsz d2.size
      have hsa2 : flushP B D (n : Int) = [] ∨ ∃ gs so, sa = some ⟨gs, so, none⟩ ∧ gs ∉ d :: g :: G ∧ gs < w2.heap.size ∧ w2.rangeAt gs so (stsC (flushP B D (n : Int))) := by
        rcases hsa with h | ⟨gs, rfl, h1, h2, h3⟩
        · exact .inl h
        · exact .inr ⟨gs, 0, rfl, fun hm => by have := (hall _ hm).2; omega, h2, h3⟩
      have HO2 : Hid (okB (toB B (flushP B D (n : Int)) ((flushP B D (n : Int)).length : Int) false) = true) := okB_toB B _ _ _ (unhide HO) hL
      have HTO := hide (to_any lo g d cap dcap G B D sa sc (flushP B D (n : Int)) ((flushP B D (n : Int)).length : Int) false w2 S2 (unhide HO) hL (by omega) hsa2)
      generalize flushP B D (n : Int) = L at *
      clear hsa hsa2 hL r2 d2 hS hC hR hK hsz y0 y1
      generalize toB B L (L.length : Int) false = B3 at *
      generalize toK D L (L.length : Int) false = D3 at *
      have y0 := hC2.cell 0 _ rfl
      have y1 := hC2.cell 1 _ rfl
      go_wp2_with fail
      refine (unhide HTO).mono ?_
      rintro e w3 ⟨rfl, S3, k3⟩
      have hC3 := csAt_kept hC2 k3 (by omega) hgL
      have hR3 := csAt_kept hR2 k3 (by omega) hrL
      have hK3 := hK2.trans k3
      have hs3 : w.heap.size + 2 ≤ w3.heap.size := Nat.le_trans hs2 k3.size
      clear HTO y0 y1 hC2 hR2 hK2 k3 S2
      have d0 := hC3.cell 0 _ rfl
      have d1 := hC3.cell 1 _ rfl
      have f0 := hC3.frozen 0 (by simp)
      have f1 := hC3.frozen 1 (by simp)
      have kz := kept_cells w3 w.heap.size 0 [.slice (some ⟨g, 0, none⟩) 4 cap, .slice (some ⟨d, 0, none⟩) 6 dcap]
      have SF := S3.kept kz (fun y hy => by have := (hall y hy).2; simp; omega)
      have cF := hC3.put [.slice (some ⟨g, 0, none⟩) 4 cap, .slice (some ⟨d, 0, none⟩) 6 dcap] rfl
      have rF := csAt_kept hR3 kz (by omega) (by simp)
      have sF : w.heap.size + 2 ≤ (w3.setCells w.heap.size 0 [.slice (some ⟨g, 0, none⟩) 4 cap, .slice (some ⟨d, 0, none⟩) 6 dcap]).heap.size := Nat.le_trans hs3 kz.size
      have kF := hK3.then kz (fun y hy => by simp at hy; subst hy; right; exact Nat.le_refl _)
      go_wp2
      go_roundw
      case rel => exact ⟨n + 1, B3, D3, by omega, by omega, by first | rfl | go_num, HO2, SF, cF, rF, sF, kF⟩
      case measure => simp [intOf]; omega
    · have hni : ¬ (n : Int) ≤ 6 := by omega
      have d0 := hR.cell 0 _ rfl
      have d1 := hR.cell 1 _ rfl
      have f0 := hR.frozen 0 (by simp)
      have f1 := hR.frozen 1 (by simp)
      have y0 := hC.cell 0 _ rfl
      have y1 := hC.cell 1 _ rfl
      have p1 := hR.put [.slice (some ⟨g, 0, none⟩) 4 cap, .slice (some ⟨d, 0, none⟩) 6 dcap] rfl
      have kz := kept_cells wr (w.heap.size + 1) 0 [.slice (some ⟨g, 0, none⟩) 4 cap, .slice (some ⟨d, 0, none⟩) 6 dcap]
      have SZ := hS.kept kz (fun y hy => by have := (hall y hy).2; simp; omega)
      have KZ : Kept (d :: g :: G) w (wr.setCells (w.heap.size + 1) 0 [.slice (some ⟨g, 0, none⟩) 4 cap, .slice (some ⟨d, 0, none⟩) 6 dcap]) := hK.then kz (fun y hy => by simp at hy; subst hy; right; omega)
      go_wp2
      refine bodyPost_ret (res_cell_mid Try.results27 _ _ (w.heap.size + 1) [.slice (some ⟨g, 0, none⟩) 4 cap, .slice (some ⟨d, 0, none⟩) 6 dcap] _ rfl p1.cells Try.underlying59 rfl (by kernel_rfl)) rfl ?_
      exact ⟨rfl, B, D, unhide HO, SZ, KZ⟩
end Go.Proofs.Ytbfklmlniepihaa.AlA
