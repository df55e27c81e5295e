/-
  Texts that belong together, one behind the other: PlA, AlA, DpA, NwA.
-/
import Derived.Test.YtkikeapfjpnkgaaDrwB
import Derived.Test.YtkikeapfjpnkgaaBaH
import Derived.Test.YtkikeapfjpnkgaaImplW

/-
  By which steps something happens, and that each of them can be done.
-/
namespace Go.Proofs.Ytkikeapfjpnkgaa.PlA
open Go.ChangeShapes Go.WideShapes Go.ChangeAt Go.RowKit Go.Shelf OkA Big Fl ImplB ImplF ImplS _root_.Go.Proofs.Ytkikeapfjpnkgaa.Own ImplT ImplU SpecA SpecB SpecC SpecD SpecW SpecF SpecG SpecH Ok2 Pl FindP SpecX ImplL FindN FindL FindV Kp StA RmA WrA FlA DoA ToA
set_option linter.unusedVariables false
set_option linter.unusedSimpArgs false
attribute [local go_sem ↓] Go.wp_at_zero Go.wp_at_succ

theorem openF_in (bs l : List Bk) : ∀ (n : Nat) (o : Int), -1 ≤ o → o < n → (openF bs l n o).2 = true → 0 ≤ (openF bs l n o).1 ∧ (openF bs l n o).1 < n + l.length := by
  induction l with
  | nil => intro n o h0 h1 h2; simp [openF] at h2 ⊢; omega
  | cons b r ih =>
    intro n o h0 h1 h2
    unfold openF at h2 ⊢
    split
    · rw [List.length_cons]; constructor <;> simp <;> omega
    · rename_i hc
      rw [if_neg hc] at h2
      have := ih (n + 1) _ (by split <;> omega) (by split <;> omega) h2
      rw [List.length_cons]; omega
theorem tellP_stp (bs : List Bk) (ps : List Pg) (h : ∀ p ∈ ps, pgB p = true) : ∀ x ∈ tellP bs ps, stpB x = true := fun x hx => by
  unfold tellP at hx
  rw [List.mem_filterMap] at hx
  obtain ⟨p, hp, hx⟩ := hx
  split at hx
  · rename_i hl
    obtain rfl : diskS p.a p.v = x := by simpa using hx
    have hq := h p hp
    rw [Bool.and_eq_true] at hl
    have h1 : p.st = 1 := by have := hl.1; unfold liveB at this; simp at this; exact this.1
    unfold pgB at hq
    rw [if_pos h1] at hq
    have : inB p.a 1 6 = true := by unfold recB numB at hq; simp at hq; exact hq.2.1.2
    unfold stpB diskS
    simpa using this
  · cases hx
theorem roomL_stp (bs : List Bk) (hok : okB bs = true) : ∀ x ∈ roomL bs, stpB x = true := fun x hx => by
  unfold roomL at hx
  split at hx
  · simp at hx
  · have hob : oldB bs ≤ 3 := oldN_le bs 3
    have hlt : oldB bs < bs.length := by rw [ok_len hok]; omega
    rcases List.mem_append.1 hx with hx | hx
    · rw [getD_at bs _ hlt] at hx
      exact tellP_stp bs _ (ok_pages hok _ (List.getElem_mem hlt)) x hx
    · obtain rfl : x = wipeS (oldB bs) := by simpa using hx
      unfold stpB wipeS
      simp [inB]
      omega
theorem writeP_stp (bs : List Bk) (k a v : Int) (hok : okB bs = true) : ∀ x ∈ writeP bs k a v, stpB x = true := fun x hx => by
  unfold writeP at hx
  split at hx
  · rename_i hr
    rw [Bool.and_eq_true] at hr
    rcases List.mem_append.1 hx with hx | hx
    · exact roomL_stp bs hok x hx
    · obtain rfl := by simpa using hx
      have hb : 0 ≤ roomB bs ∧ roomB bs ≤ 3 := by
        unfold roomB
        split
        · rename_i h2
          have := openF_in bs bs 0 (-1) (by omega) (by omega) h2
          rw [ok_len hok] at this
          unfold openR
          omega
        · have : oldB bs ≤ 3 := oldN_le bs 3
          omega
      unfold stpB writeS
      simp [inB, hb, hr.2]
  · simp at hx
theorem flushP_stp (bs : List Bk) (dk : List Int) (a : Int) (hok : okB bs = true) : ∀ x ∈ flushP bs dk a, stpB x = true := fun x hx => by
  unfold flushP at hx
  split at hx
  · rename_i h
    split at hx
    · simp at hx
    · rcases List.mem_cons.1 hx with rfl | hx
      · rw [Bool.and_eq_true] at h
        unfold stpB diskS
        simpa using h.1
      · exact writeP_stp bs _ _ _ hok x hx
  · simp at hx
theorem fillP_stp (bs : List Bk) (dk : List Int) (a : Int) (hok : okB bs = true) : ∀ x ∈ fillP bs dk a, stpB x = true := fun x hx => by
  unfold fillP at hx
  split at hx
  · exact writeP_stp bs _ _ _ hok x hx
  · simp at hx
/-- By which steps. -/
def stepsP (bs : List Bk) (dk : List Int) (kind a b : Int) : List Stp := if kind = 1 then writeP bs 1 a b else if kind = 2 then flushP bs dk a else if kind = 3 then fillP bs dk a else []
theorem stepsP_stp (bs : List Bk) (dk : List Int) (kind a b : Int) (hok : okB bs = true) : ∀ x ∈ stepsP bs dk kind a b, stpB x = true := by
  unfold stepsP
  split
  · exact writeP_stp bs _ _ _ hok
  · split
    · exact flushP_stp bs _ _ hok
    · split
      · exact fillP_stp bs _ _ hok
      · intro x hx; simp at hx
theorem flushP_len (bs : List Bk) (dk : List Int) (a : Int) (hok : okB bs = true) : (flushP bs dk a).length ≤ 7 := by
  have := writeP_len bs (ok_fours hok) (ok_len hok) 2 a (readI bs dk a)
  unfold flushP
  split
  · split
    · simp
    · simp only [List.length_cons]; omega
  · simp
theorem stepsP_len (bs : List Bk) (dk : List Int) (kind a b : Int) (hok : okB bs = true) : (stepsP bs dk kind a b).length ≤ 7 := by
  unfold stepsP
  split
  · have := writeP_len bs (ok_fours hok) (ok_len hok) 1 a b; omega
  · split
    · exact flushP_len bs dk a hok
    · split
      · unfold fillP
        split
        · have := writeP_len bs (ok_fours hok) (ok_len hok) 2 a (dk.getD (a - 1).toNat 0); omega
        · simp
      · simp
/-- The fast memory at its block, where a store has it. -/
theorem st_bk {w : World} {lo g d : Nat} {G : List Nat} {bs : List Bk} {dk : List Int} (h : St w lo g d G bs dk) : ∀ i (hi : i < bs.length), BkAt w g (0 + i * 2) bs[i] := by
  rcases h.own.fs with h | ⟨b, o, he, hb⟩
  · intro i hi; rw [h] at hi; simp at hi
  · cases he; exact hb
theorem st_rng {w : World} {lo g d : Nat} {G : List Nat} {bs : List Bk} {dk : List Int} (h : St w lo g d G bs dk) : w.rangeAt d 0 (isC dk) := h.disk.cells

set_option maxRecDepth 100000 in
set_option maxHeartbeats 2000000 in
theorem steps_any (lo g d cap dcap : Nat) (G : List Nat) (bs : List Bk) (dk : List Int) (kind a b c : Int) (torn : Bool) (w : World) (hS : St w lo g d G bs dk) (hok : okB bs = true) :
    Calls Try.prog 112 #[.agg #[.slice (some ⟨g, 0, none⟩) 4 cap, .slice (some ⟨d, 0, none⟩) 6 dcap], .agg #[.int .i64 kind, .int .i64 a, .int .i64 b, .int .i64 c, .bool torn]] w fun e w' => StpPost w (stepsP bs dk kind a b) e w' := by
  have b1 : Below w.heap.size w ((w.alloc (.cells #[.slice (some ⟨g, 0, none⟩) 4 cap, .slice (some ⟨d, 0, none⟩) 6 dcap] 54)).alloc (.cells #[.int .i64 kind, .int .i64 a, .int .i64 b, .int .i64 c, .bool torn] 125)) := ((Below.refl _ _).alloc (Nat.le_refl _) _).alloc (by simp) _
  have cS := (store_box w (.slice (some ⟨g, 0, none⟩) 4 cap) (.slice (some ⟨d, 0, none⟩) 6 dcap)).alloc (by simp) (.cells #[.int .i64 kind, .int .i64 a, .int .i64 b, .int .i64 c, .bool torn] 125)
  have cE := CsAt.new (w.alloc (.cells #[.slice (some ⟨g, 0, none⟩) 4 cap, .slice (some ⟨d, 0, none⟩) 6 dcap] 54)) [.int .i64 kind, .int .i64 a, .int .i64 b, .int .i64 c, .bool torn] 125
  rw [World.size_alloc] at cE
  have S1 := hS.below b1
  have HP : Hid (stepsP bs dk kind a b = if kind = 1 then writeP bs 1 a b else if kind = 2 then flushP bs dk a else if kind = 3 then fillP bs dk a else []) := rfl
  have HOK := hide hok
  clear hS hok
  go_enter Try.func112, Try.ntmps112
  go_upto_region 1 with fail
  generalize (w.alloc (.cells #[.slice (some ⟨g, 0, none⟩) 4 cap, .slice (some ⟨d, 0, none⟩) 6 dcap] 54)).alloc (.cells #[.int .i64 kind, .int .i64 a, .int .i64 b, .int .i64 c, .bool torn] 125) = w1 at *
  have z0 := cE.cell 0 _ rfl
  have z1 := cE.cell 1 _ rfl
  have z2 := cE.cell 2 _ rfl
  have y0 := cS.cell 0 _ rfl
  have y1 := cS.cell 1 _ rfl
  by_cases t1 : kind = 1
  · have HE : Hid (stepsP bs dk kind a b = writeP bs 1 a b) := by show _ = _; rw [unhide HP, if_pos t1]
    have q1 : (kind == 1) = true := by simpa using t1
    clear HP t1
    go_wp2_with fail
    refine (write_steps g 0 cap (.slice (some ⟨d, 0, none⟩) 6 dcap) 1 a b bs w1 (unhide HOK) (st_bk S1)).mono ?_
    rintro e w2 ⟨v, rfl, r2, d2⟩
    go_wp2
    go_ret
    exact ⟨_, rfl, by rw [unhide HE]; exact r2.mono b1.size, b1.trans (d2.mono b1.size)⟩
  · have q1 : (kind == 1) = false := by simpa using t1
    by_cases t2 : kind = 2
    · have HE : Hid (stepsP bs dk kind a b = flushP bs dk a) := by show _ = _; rw [unhide HP, if_neg t1, if_pos t2]
      have q2 : (kind == 2) = true := by simpa using t2
      clear HP t1 t2
      go_wp2_with fail
      refine (flush_steps g 0 cap d 0 dcap dk S1.six a bs w1 (unhide HOK) (st_bk S1) (st_rng S1)).mono ?_
      rintro e w2 ⟨v, rfl, r2, d2⟩
      go_wp2
      go_ret
      exact ⟨_, rfl, by rw [unhide HE]; exact r2.mono b1.size, b1.trans (d2.mono b1.size)⟩
    · have q2 : (kind == 2) = false := by simpa using t2
      by_cases t3 : kind = 3
      · have HE : Hid (stepsP bs dk kind a b = fillP bs dk a) := by show _ = _; rw [unhide HP, if_neg t1, if_neg t2, if_pos t3]
        have q3 : (kind == 3) = true := by simpa using t3
        clear HP t1 t2 t3
        go_wp2_with fail
        refine (fill_steps g 0 cap d 0 dcap dk S1.six a bs w1 (unhide HOK) (st_bk S1) (st_rng S1)).mono ?_
        rintro e w2 ⟨v, rfl, r2, d2⟩
        go_wp2
        go_ret
        exact ⟨_, rfl, by rw [unhide HE]; exact r2.mono b1.size, b1.trans (d2.mono b1.size)⟩
      · have HE : Hid (stepsP bs dk kind a b = []) := by show _ = _; rw [unhide HP, if_neg t1, if_neg t2, if_neg t3]
        have q3 : (kind == 3) = false := by simpa using t3
        have nl := Sts.nil w1 w.heap.size b1.size
        have nB := b1.alloc b1.size (.cells #[] 60)
        clear HP t1 t2 t3
        go_wp2
        go_ret
        exact ⟨_, rfl, by rw [unhide HE]; exact nl, nB⟩
end Go.Proofs.Ytkikeapfjpnkgaa.PlA

/-
  The specification's telling the slow disk of all, in place.
-/
namespace Go.Proofs.Ytkikeapfjpnkgaa.AlA
open Go.ChangeShapes Go.WideShapes Go.ChangeAt Go.RowKit Go.Shelf OkA Big Fl ImplB ImplF ImplS _root_.Go.Proofs.Ytkikeapfjpnkgaa.Own ImplT ImplU SpecA SpecB SpecC SpecD SpecW SpecF SpecG SpecH Ok2 Pl FindP SpecX ImplL FindN FindL FindV Kp StA RmA WrA FlA DoA ToA PlA
set_option linter.unusedVariables false
set_option linter.unusedSimpArgs false
attribute [local go_sem ↓] Go.wp_at_zero Go.wp_at_succ

/-- What stands behind a thing that happened: the same rows, some store in them that is as it should be. -/
def EndPost (w : World) (lo g d cap dcap : Nat) (G : List Nat) (e : Ending) (w' : World) : Prop :=
  e = .returned (.agg #[.slice (some ⟨g, 0, none⟩) 4 cap, .slice (some ⟨d, 0, none⟩) 6 dcap]) ∧ ∃ B D, okB B = true ∧ St w' lo g d G B D ∧ Kept (d :: g :: G) w w'
theorem toB_all (bs : List Bk) (L : List Stp) (hok : okB bs = true) (hL : ∀ x ∈ L, stpB x = true) (cut : Int) (torn : Bool) : okB (toB bs L cut torn) = true := okB_toB bs L cut torn hok hL

set_option maxRecDepth 100000 in
set_option maxHeartbeats 2000000 in
theorem all_any (lo g d cap dcap : Nat) (G : List Nat) (bs : List Bk) (dk : List Int) (w : World) (hS : St w lo g d G bs dk) (hok : okB bs = true) :
    Calls Try.prog 110 #[.agg #[.slice (some ⟨g, 0, none⟩) 4 cap, .slice (some ⟨d, 0, none⟩) 6 dcap]] w fun e w' => EndPost w lo g d cap dcap G e w' := by
  have b1 : Below w.heap.size w ((w.alloc (.cells #[.slice (some ⟨g, 0, none⟩) 4 cap, .slice (some ⟨d, 0, none⟩) 6 dcap] 54)).alloc (.cells #[.slice none 0 0, .slice none 0 0] 54)) := ((Below.refl _ _).alloc (Nat.le_refl _) _).alloc (by simp) _
  have cS := (store_box w (.slice (some ⟨g, 0, none⟩) 4 cap) (.slice (some ⟨d, 0, none⟩) 6 dcap)).alloc (by simp) (.cells #[.slice none 0 0, .slice none 0 0] 54)
  have cR := CsAt.new (w.alloc (.cells #[.slice (some ⟨g, 0, none⟩) 4 cap, .slice (some ⟨d, 0, none⟩) 6 dcap] 54)) [.slice none 0 0, .slice none 0 0] 54
  rw [World.size_alloc] at cR
  have s1 : ((w.alloc (.cells #[.slice (some ⟨g, 0, none⟩) 4 cap, .slice (some ⟨d, 0, none⟩) 6 dcap] 54)).alloc (.cells #[.slice none 0 0, .slice none 0 0] 54)).heap.size = w.heap.size + 2 := by simp
  have S1 := hS.below b1
  have k1 : Kept (d :: g :: G) w ((w.alloc (.cells #[.slice (some ⟨g, 0, none⟩) 4 cap, .slice (some ⟨d, 0, none⟩) 6 dcap] 54)).alloc (.cells #[.slice none 0 0, .slice none 0 0] 54)) := Kept.of b1
  have hall := hS.all
  have HOK := hide hok
  clear hS hok b1
  go_enter Try.func110, Try.ntmps110
  go_upto_region 1 with fail
  generalize (w.alloc (.cells #[.slice (some ⟨g, 0, none⟩) 4 cap, .slice (some ⟨d, 0, none⟩) 6 dcap] 54)).alloc (.cells #[.slice none 0 0, .slice none 0 0] 54) = w1 at *
  go_wp2
  go_loopw [3] (fun i w' => ∃ (n : Nat) (B : List Bk) (D : List Int), 1 ≤ n ∧ n ≤ 7 ∧ i = .int .i64 n ∧ Hid (okB B = true) ∧ St w' lo g d G B D ∧ CsAt w' w.heap.size [.slice (some ⟨g, 0, none⟩) 4 cap, .slice (some ⟨d, 0, none⟩) 6 dcap] ∧ CsAt w' (w.heap.size + 1) [.slice none 0 0, .slice none 0 0] ∧ w.heap.size + 2 ≤ w'.heap.size ∧ Kept (d :: g :: G) w w') (fun i _ => 7 - (intOf i).toNat)
  case atStart => exact ⟨1, bs, dk, by omega, by omega, rfl, HOK, S1, cS, cR, by omega, k1⟩
  case round =>
    clear S1 cS cR s1 k1 HOK
    obtain ⟨n, B, D, hn1, hn7, rfl, HO, hS, hC, hR, hsz, hK⟩ := hrel
    have hgL : w.heap.size ∉ d :: g :: G := fun hm => by have := (hall _ hm).2; omega
    have hrL : w.heap.size + 1 ∉ d :: g :: G := fun hm => by have := (hall _ hm).2; omega
    by_cases h6 : n ≤ 6
    · have hni : (n : Int) ≤ 6 := by omega
      have y0 := hC.cell 0 _ rfl
      have y1 := hC.cell 1 _ rfl
      go_wp2_with fail
      refine (flush_steps g 0 cap d 0 dcap D hS.six (n : Int) B wr (unhide HO) (st_bk hS) (st_rng hS)).mono ?_
      rintro e w2 ⟨v, rfl, r2, d2⟩
      obtain ⟨sa, sc, rfl, hsa⟩ := stsForm r2
      have hL := flushP_stp B D (n : Int) (unhide HO)
      have hl7 := flushP_len B D (n : Int) (unhide HO)
      have S2 := hS.below d2
      have hC2 := csAt_kept hC (L := []) (Kept.of d2) (by omega) (by simp)
      have hR2 := csAt_kept hR (L := []) (Kept.of d2) (by omega) (by simp)
      have hK2 := hK.trans (Kept.of d2)
      have hs2 : w.heap.size + 2 ≤ w2.heap.size := Nat.le_trans hsz d2.size
      have hsa2 : flushP B D (n : Int) = [] ∨ ∃ gs so, sa = some ⟨gs, so, none⟩ ∧ gs ∉ d :: g :: G ∧ gs < w2.heap.size ∧ w2.rangeAt gs so (stsC (flushP B D (n : Int))) := by
        rcases hsa with h | ⟨gs, rfl, h1, h2, h3⟩
        · exact .inl h
        · exact .inr ⟨gs, 0, rfl, fun hm => by have := (hall _ hm).2; omega, h2, h3⟩
      have HO2 : Hid (okB (toB B (flushP B D (n : Int)) ((flushP B D (n : Int)).length : Int) false) = true) := okB_toB B _ _ _ (unhide HO) hL
      have HTO := hide (to_any lo g d cap dcap G B D sa sc (flushP B D (n : Int)) ((flushP B D (n : Int)).length : Int) false w2 S2 (unhide HO) hL (by omega) hsa2)
      generalize flushP B D (n : Int) = L at *
      clear hsa hsa2 hL r2 d2 hS hC hR hK hsz y0 y1
      generalize toB B L (L.length : Int) false = B3 at *
      generalize toK D L (L.length : Int) false = D3 at *
      have y0 := hC2.cell 0 _ rfl
      have y1 := hC2.cell 1 _ rfl
      go_wp2_with fail
      refine (unhide HTO).mono ?_
      rintro e w3 ⟨rfl, S3, k3⟩
      have hC3 := csAt_kept hC2 k3 (by omega) hgL
      have hR3 := csAt_kept hR2 k3 (by omega) hrL
      have hK3 := hK2.trans k3
      have hs3 : w.heap.size + 2 ≤ w3.heap.size := Nat.le_trans hs2 k3.size
      clear HTO y0 y1 hC2 hR2 hK2 k3 S2
      have d0 := hC3.cell 0 _ rfl
      have d1 := hC3.cell 1 _ rfl
      have f0 := hC3.frozen 0 (by simp)
      have f1 := hC3.frozen 1 (by simp)
      have kz := kept_cells w3 w.heap.size 0 [.slice (some ⟨g, 0, none⟩) 4 cap, .slice (some ⟨d, 0, none⟩) 6 dcap]
      have SF := S3.kept kz (fun y hy => by have := (hall y hy).2; simp; omega)
      have cF := hC3.put [.slice (some ⟨g, 0, none⟩) 4 cap, .slice (some ⟨d, 0, none⟩) 6 dcap] rfl
      have rF := csAt_kept hR3 kz (by omega) (by simp)
      have sF : w.heap.size + 2 ≤ (w3.setCells w.heap.size 0 [.slice (some ⟨g, 0, none⟩) 4 cap, .slice (some ⟨d, 0, none⟩) 6 dcap]).heap.size := Nat.le_trans hs3 kz.size
      have kF := hK3.then kz (fun y hy => by simp at hy; subst hy; right; exact Nat.le_refl _)
      go_wp2
      go_roundw
      case rel => exact ⟨n + 1, B3, D3, by omega, by omega, by first | rfl | go_num, HO2, SF, cF, rF, sF, kF⟩
      case measure => simp [intOf]; omega
    · have hni : ¬ (n : Int) ≤ 6 := by omega
      have d0 := hR.cell 0 _ rfl
      have d1 := hR.cell 1 _ rfl
      have f0 := hR.frozen 0 (by simp)
      have f1 := hR.frozen 1 (by simp)
      have y0 := hC.cell 0 _ rfl
      have y1 := hC.cell 1 _ rfl
      have p1 := hR.put [.slice (some ⟨g, 0, none⟩) 4 cap, .slice (some ⟨d, 0, none⟩) 6 dcap] rfl
      have kz := kept_cells wr (w.heap.size + 1) 0 [.slice (some ⟨g, 0, none⟩) 4 cap, .slice (some ⟨d, 0, none⟩) 6 dcap]
      have SZ := hS.kept kz (fun y hy => by have := (hall y hy).2; simp; omega)
      have KZ : Kept (d :: g :: G) w (wr.setCells (w.heap.size + 1) 0 [.slice (some ⟨g, 0, none⟩) 4 cap, .slice (some ⟨d, 0, none⟩) 6 dcap]) := hK.then kz (fun y hy => by simp at hy; subst hy; right; omega)
      go_wp2
      refine bodyPost_ret (res_cell_mid Try.results110 _ _ (w.heap.size + 1) [.slice (some ⟨g, 0, none⟩) 4 cap, .slice (some ⟨d, 0, none⟩) 6 dcap] _ rfl p1.cells Try.underlying54 rfl (by kernel_rfl)) rfl ?_
      exact ⟨rfl, B, D, unhide HO, SZ, KZ⟩
end Go.Proofs.Ytkikeapfjpnkgaa.AlA

/-
  The specification's letting something happen, in place.
-/
namespace Go.Proofs.Ytkikeapfjpnkgaa.DpA
open Go.ChangeShapes Go.WideShapes Go.ChangeAt Go.RowKit Go.Shelf OkA Big Fl ImplB ImplF ImplS _root_.Go.Proofs.Ytkikeapfjpnkgaa.Own ImplT ImplU SpecA SpecB SpecC SpecD SpecW SpecF SpecG SpecH Ok2 Pl FindP SpecX ImplL FindN FindL FindV Kp StA RmA WrA FlA DoA ToA PlA AlA
set_option linter.unusedVariables false
set_option linter.unusedSimpArgs false
attribute [local go_sem ↓] Go.wp_at_zero Go.wp_at_succ

set_option maxRecDepth 100000 in
set_option maxHeartbeats 4000000 in
theorem happen_any (lo g d cap dcap : Nat) (G : List Nat) (bs : List Bk) (dk : List Int) (kind a b c : Int) (torn : Bool) (w : World) (hS : St w lo g d G bs dk) (hok : okB bs = true) :
    Calls Try.prog 93 #[.agg #[.slice (some ⟨g, 0, none⟩) 4 cap, .slice (some ⟨d, 0, none⟩) 6 dcap], .agg #[.int .i64 kind, .int .i64 a, .int .i64 b, .int .i64 c, .bool torn]] w fun e w' => EndPost w lo g d cap dcap G e w' := by
  have b1 : Below w.heap.size w (((w.alloc (.cells #[.slice (some ⟨g, 0, none⟩) 4 cap, .slice (some ⟨d, 0, none⟩) 6 dcap] 54)).alloc (.cells #[.int .i64 kind, .int .i64 a, .int .i64 b, .int .i64 c, .bool torn] 125)).alloc (.cells #[.slice none 0 0, .slice none 0 0] 54)) := (((Below.refl _ _).alloc (Nat.le_refl _) _).alloc (by simp) _).alloc (by simp; omega) _
  have cS := ((store_box w (.slice (some ⟨g, 0, none⟩) 4 cap) (.slice (some ⟨d, 0, none⟩) 6 dcap)).alloc (by simp) (.cells #[.int .i64 kind, .int .i64 a, .int .i64 b, .int .i64 c, .bool torn] 125)).alloc (by simp; omega) (.cells #[.slice none 0 0, .slice none 0 0] 54)
  have cE := (CsAt.new (w.alloc (.cells #[.slice (some ⟨g, 0, none⟩) 4 cap, .slice (some ⟨d, 0, none⟩) 6 dcap] 54)) [.int .i64 kind, .int .i64 a, .int .i64 b, .int .i64 c, .bool torn] 125).alloc (by simp) (.cells #[.slice none 0 0, .slice none 0 0] 54)
  rw [World.size_alloc] at cE
  have cR := CsAt.new ((w.alloc (.cells #[.slice (some ⟨g, 0, none⟩) 4 cap, .slice (some ⟨d, 0, none⟩) 6 dcap] 54)).alloc (.cells #[.int .i64 kind, .int .i64 a, .int .i64 b, .int .i64 c, .bool torn] 125)) [.slice none 0 0, .slice none 0 0] 54
  rw [World.size_alloc, World.size_alloc] at cR
  have s1 : (((w.alloc (.cells #[.slice (some ⟨g, 0, none⟩) 4 cap, .slice (some ⟨d, 0, none⟩) 6 dcap] 54)).alloc (.cells #[.int .i64 kind, .int .i64 a, .int .i64 b, .int .i64 c, .bool torn] 125)).alloc (.cells #[.slice none 0 0, .slice none 0 0] 54)).heap.size = w.heap.size + 3 := by simp
  have S1 := hS.below b1
  have k1 : Kept (d :: g :: G) w (((w.alloc (.cells #[.slice (some ⟨g, 0, none⟩) 4 cap, .slice (some ⟨d, 0, none⟩) 6 dcap] 54)).alloc (.cells #[.int .i64 kind, .int .i64 a, .int .i64 b, .int .i64 c, .bool torn] 125)).alloc (.cells #[.slice none 0 0, .slice none 0 0] 54)) := Kept.of b1
  have hall := hS.all
  have HOK := hide hok
  clear hS hok b1
  go_enter Try.func93, Try.ntmps93
  go_upto_region 1 with fail
  generalize ((w.alloc (.cells #[.slice (some ⟨g, 0, none⟩) 4 cap, .slice (some ⟨d, 0, none⟩) 6 dcap] 54)).alloc (.cells #[.int .i64 kind, .int .i64 a, .int .i64 b, .int .i64 c, .bool torn] 125)).alloc (.cells #[.slice none 0 0, .slice none 0 0] 54) = w1 at *
  have hgL : w.heap.size ∉ d :: g :: G := fun hm => by have := (hall _ hm).2; omega
  have heL : w.heap.size + 1 ∉ d :: g :: G := fun hm => by have := (hall _ hm).2; omega
  have hrL : w.heap.size + 1 + 1 ∉ d :: g :: G := fun hm => by have := (hall _ hm).2; omega
  have z0 := cE.cell 0 _ rfl
  have z3 := cE.cell 3 _ rfl
  have y0 := cS.cell 0 _ rfl
  have y1 := cS.cell 1 _ rfl
  by_cases t4 : kind = 4
  · have q4 : (kind == 4) = true := by simpa using t4
    clear t4 z3
    go_wp2_with fail
    refine (all_any lo g d cap dcap G bs dk w1 S1 (unhide HOK)).mono ?_
    rintro e w3 ⟨rfl, B, D, ok3, S3, k3⟩
    have HO3 := hide ok3
    have cR3 := csAt_kept cR k3 (by omega) hrL
    have K3 := k1.trans k3
    clear cR k1 k3 z0 y0 y1 S1 cS cE s1 ok3
    have d0 := cR3.cell 0 _ rfl
    have d1 := cR3.cell 1 _ rfl
    have f0 := cR3.frozen 0 (by simp)
    have f1 := cR3.frozen 1 (by simp)
    have p1 := cR3.put [.slice (some ⟨g, 0, none⟩) 4 cap, .slice (some ⟨d, 0, none⟩) 6 dcap] rfl
    have kz := kept_cells w3 (w.heap.size + 1 + 1) 0 [.slice (some ⟨g, 0, none⟩) 4 cap, .slice (some ⟨d, 0, none⟩) 6 dcap]
    have SZ := S3.kept kz (fun y hy => by have := (hall y hy).2; simp; omega)
    have KZ : Kept (d :: g :: G) w (w3.setCells (w.heap.size + 1 + 1) 0 [.slice (some ⟨g, 0, none⟩) 4 cap, .slice (some ⟨d, 0, none⟩) 6 dcap]) := K3.then kz (fun y hy => by simp at hy; subst hy; right; omega)
    go_wp2
    refine bodyPost_ret (res_cell_mid Try.results93 _ _ (w.heap.size + 1 + 1) [.slice (some ⟨g, 0, none⟩) 4 cap, .slice (some ⟨d, 0, none⟩) 6 dcap] _ rfl p1.cells Try.underlying54 rfl (by kernel_rfl)) rfl ?_
    exact ⟨rfl, B, D, unhide HO3, SZ, KZ⟩
  · have q4 : (kind == 4) = false := by simpa using t4
    clear t4
    by_cases t0 : c < 0
    · have HO3 := HOK
      have d0 := cR.cell 0 _ rfl
      have d1 := cR.cell 1 _ rfl
      have f0 := cR.frozen 0 (by simp)
      have f1 := cR.frozen 1 (by simp)
      have p1 := cR.put [.slice (some ⟨g, 0, none⟩) 4 cap, .slice (some ⟨d, 0, none⟩) 6 dcap] rfl
      have kz := kept_cells w1 (w.heap.size + 1 + 1) 0 [.slice (some ⟨g, 0, none⟩) 4 cap, .slice (some ⟨d, 0, none⟩) 6 dcap]
      have SZ := S1.kept kz (fun y hy => by have := (hall y hy).2; simp; omega)
      have KZ : Kept (d :: g :: G) w (w1.setCells (w.heap.size + 1 + 1) 0 [.slice (some ⟨g, 0, none⟩) 4 cap, .slice (some ⟨d, 0, none⟩) 6 dcap]) := k1.then kz (fun y hy => by simp at hy; subst hy; right; omega)
      go_wp2
      refine bodyPost_ret (res_cell_mid Try.results93 _ _ (w.heap.size + 1 + 1) [.slice (some ⟨g, 0, none⟩) 4 cap, .slice (some ⟨d, 0, none⟩) 6 dcap] _ rfl p1.cells Try.underlying54 rfl (by kernel_rfl)) rfl ?_
      exact ⟨rfl, bs, dk, unhide HO3, SZ, KZ⟩
    · have z0' := z0
      have HSS := hide (show (Try.prog.info? 54).map (·.size) = some 2 by kernel_rfl)
      have HS5 := hide (show (Try.prog.info? 125).map (·.size) = some 5 by kernel_rfl)
      have HL := hide (stepsP_stp bs dk kind a b (unhide HOK))
      have HN := hide (stepsP_len bs dk kind a b (unhide HOK))
      have HST := hide (fun (w' : World) (h : St w' lo g d G bs dk) => steps_any lo g d cap dcap G bs dk kind a b c torn w' h (unhide HOK))
      go_upto_region 5 with fail
      refine wp_region_noPanic ?_
      refine wp_region_held_drew (S := fun w' => (CsAt w' w.heap.size [.slice (some ⟨g, 0, none⟩) 4 cap, .slice (some ⟨d, 0, none⟩) 6 dcap] ∧ CsAt w' (w.heap.size + 1) [.int .i64 kind, .int .i64 a, .int .i64 b, .int .i64 c, .bool torn]) ∧ w.heap.size + 3 ≤ w'.heap.size) (by kernel_rfl) (⟨⟨⟨fun j v hv => cS.cells j v hv, fun j hj => cS.free j hj⟩, ⟨fun j v hv => cE.cells j v hv, fun j hj => cE.free j hj⟩⟩, by show w.heap.size + 3 ≤ w1.heap.size; omega⟩) (fun hHeld => ?_)
      refine takeL 0 (.agg #[.slice (some ⟨g, 0, none⟩) 4 cap, .slice (some ⟨d, 0, none⟩) 6 dcap]) rfl (by kernel_rfl) (by kernel_rfl) (by kernel_rfl) (fun _ _ _ h => h) (yieldsIf_load_mid rfl 54 _ rfl w.heap.size 0 rfl [.slice (some ⟨g, 0, none⟩) 4 cap, .slice (some ⟨d, 0, none⟩) 6 dcap] _ (fun _ h => h.1.1.cells) Try.underlying54 rfl (unhide HSS)) hHeld ?_
      try simp only [Act.put, List.setIfInBounds_toArray, List.set_cons_zero, List.set_cons_succ]
      refine takeL 1 (.agg #[.slice (some ⟨g, 0, none⟩) 4 cap, .slice (some ⟨d, 0, none⟩) 6 dcap]) rfl (by kernel_rfl) (by kernel_rfl) (by kernel_rfl) (fun _ _ _ h => h) (yieldsIf_load_mid rfl 54 _ rfl w.heap.size 0 rfl [.slice (some ⟨g, 0, none⟩) 4 cap, .slice (some ⟨d, 0, none⟩) 6 dcap] _ (fun _ h => h.1.1.cells) Try.underlying54 rfl (unhide HSS)) hHeld ?_
      try simp only [Act.put, List.setIfInBounds_toArray, List.set_cons_zero, List.set_cons_succ]
      refine takeL 2 (.agg #[.int .i64 kind, .int .i64 a, .int .i64 b, .int .i64 c, .bool torn]) rfl (by kernel_rfl) (by kernel_rfl) (by kernel_rfl) (fun _ _ _ h => h) (yieldsIf_load_mid rfl 125 _ rfl (w.heap.size + 1) 0 rfl [.int .i64 kind, .int .i64 a, .int .i64 b, .int .i64 c, .bool torn] _ (fun _ h => h.1.2.cells) Try.underlying125 rfl (unhide HS5)) hHeld ?_
      try simp only [Act.put, List.setIfInBounds_toArray, List.set_cons_zero, List.set_cons_succ]
      refine takeL 4 (.pointer (some ⟨w.heap.size + 1, 3, none⟩)) rfl (by kernel_rfl) (by kernel_rfl) (by kernel_rfl) (fun _ _ _ h => h) (Or.inl ⟨rfl, fun w9 hSw => by go_simp⟩) hHeld ?_
      try simp only [Act.put, List.setIfInBounds_toArray, List.set_cons_zero, List.set_cons_succ]
      refine takeL 5 (.int .i64 c) rfl (by kernel_rfl) (by kernel_rfl) (by kernel_rfl) (fun _ _ _ h => h) (Or.inl ⟨rfl, fun w9 hSw => by have hc := hSw.1.2.cell 3 _ rfl; go_simp⟩) hHeld ?_
      try simp only [Act.put, List.setIfInBounds_toArray, List.set_cons_zero, List.set_cons_succ]
      refine takeL 6 (.pointer (some ⟨w.heap.size + 1, 4, none⟩)) rfl (by kernel_rfl) (by kernel_rfl) (by kernel_rfl) (fun _ _ _ h => h) (Or.inl ⟨rfl, fun w9 hSw => by go_simp⟩) hHeld ?_
      try simp only [Act.put, List.setIfInBounds_toArray, List.set_cons_zero, List.set_cons_succ]
      refine takeL 7 (.bool torn) rfl (by kernel_rfl) (by kernel_rfl) (by kernel_rfl) (fun _ _ _ h => h) (Or.inl ⟨rfl, fun w9 hSw => by have hc := hSw.1.2.cell 4 _ rfl; go_simp⟩) hHeld ?_
      try simp only [Act.put, List.setIfInBounds_toArray, List.set_cons_zero, List.set_cons_succ]
      have S1d := S1.kept (L := []) (Kept.refl [] w1).drew (fun _ _ => by simp)
      have R1d := csAt_kept cR (L := []) (Kept.refl [] w1).drew (by omega) (by simp)
      have K1d := k1.drew
      refine oneL 3 rfl (by kernel_rfl) rfl (fun K hK => ?_)
      go_simp
      refine (unhide HST _ S1d).mono ?_
      rintro e w4 ⟨v, rfl, r4, d4⟩
      obtain ⟨sa, sc, rfl, hsa⟩ := stsForm r4
      have S4 := S1d.below d4
      have R4 := csAt_kept R1d (L := []) (Kept.of d4) (by show w.heap.size + 1 + 1 < w1.heap.size; omega) (by simp)
      have K4 := K1d.trans (Kept.of d4)
      have s4 : w.heap.size + 3 ≤ w4.heap.size := by have := d4.size; simp at this; omega
      have C4 := csAt_kept hHeld.1.1 (L := []) (Kept.of d4) (by show w.heap.size < w1.heap.size; omega) (by simp)
      have E4 := csAt_kept hHeld.1.2 (L := []) (Kept.of d4) (by show w.heap.size + 1 < w1.heap.size; omega) (by simp)
      have hsa4 : stepsP bs dk kind a b = [] ∨ ∃ gs so, sa = some ⟨gs, so, none⟩ ∧ gs ∉ d :: g :: G ∧ gs < w4.heap.size ∧ w4.rangeAt gs so (stsC (stepsP bs dk kind a b)) := by
        rcases hsa with h | ⟨gs, rfl, h1, h2, h3⟩
        · exact .inl h
        · exact .inr ⟨gs, 0, rfl, fun hm => by have := (hall _ hm).2; simp at h1; omega, h2, h3⟩
      have HTO := hide (to_any lo g d cap dcap G bs dk sa sc (stepsP bs dk kind a b) c torn w4 S4 (unhide HOK) (unhide HL) (by have := unhide HN; omega) hsa4)
      have HO5 := okB_toB bs (stepsP bs dk kind a b) c torn (unhide HOK) (unhide HL)
      clear hsa hsa4 r4
      generalize stepsP bs dk kind a b = L at *
      go_wp2_with fail
      refine hK.out _ _ ⟨⟨C4, E4⟩, s4⟩ (fun hHeld => ?_)
      clear hK K
      try simp only [Act.put, List.setIfInBounds_toArray, List.set_cons_zero, List.set_cons_succ]
      refine oneL 8 rfl (by kernel_rfl) rfl (fun K hK => ?_)
      go_simp
      refine (unhide HTO).mono ?_
      rintro e w5 ⟨rfl, S5, k5⟩
      go_wp2_with fail
      have C5 := csAt_kept C4 k5 (by omega) hgL
      have E5 := csAt_kept E4 k5 (by omega) heL
      have R5 := csAt_kept R4 k5 (by omega) hrL
      have K5 := K4.trans k5
      have s5 : w.heap.size + 3 ≤ w5.heap.size := Nat.le_trans s4 k5.size
      refine hK.out _ _ ⟨⟨C5, E5⟩, s5⟩ (fun hHeld => ?_)
      clear hK K
      try simp only [Act.put, List.setIfInBounds_toArray, List.set_cons_zero, List.set_cons_succ]
      have p1 := R5.put [.slice (some ⟨g, 0, none⟩) 4 cap, .slice (some ⟨d, 0, none⟩) 6 dcap] rfl
      have kz := kept_cells w5 (w.heap.size + 1 + 1) 0 [.slice (some ⟨g, 0, none⟩) 4 cap, .slice (some ⟨d, 0, none⟩) 6 dcap]
      have SZ := S5.kept kz (fun y hy => by have := (hall y hy).2; simp; omega)
      have KZ : Kept (d :: g :: G) w (w5.setCells (w.heap.size + 1 + 1) 0 [.slice (some ⟨g, 0, none⟩) 4 cap, .slice (some ⟨d, 0, none⟩) 6 dcap]) := K5.then kz (fun y hy => by simp at hy; subst hy; right; omega)
      have C6 := csAt_kept C5 kz (by omega) (by simp; omega)
      have E6 := csAt_kept E5 kz (by omega) (by simp)
      have s6 : w.heap.size + 3 ≤ (w5.setCells (w.heap.size + 1 + 1) 0 [.slice (some ⟨g, 0, none⟩) 4 cap, .slice (some ⟨d, 0, none⟩) 6 dcap]).heap.size := Nat.le_trans s5 kz.size
      refine oneL 9 rfl (by kernel_rfl) rfl (fun K hK => ?_)
      refine wp_store_mid 54 _ _ rfl (w.heap.size + 1 + 1) 0 [.slice (some ⟨g, 0, none⟩) 4 cap, .slice (some ⟨d, 0, none⟩) 6 dcap].toArray rfl rfl R5.free (unhide HSS) (by kernel_rfl) ?_
      refine hK.out _ _ ⟨⟨C6, E6⟩, s6⟩ (fun hHeld => ?_)
      clear hK K
      try simp only [Act.put, List.setIfInBounds_toArray, List.set_cons_zero, List.set_cons_succ]
      refine wpAnyH_done (by kernel_rfl) ?_ _
      refine NoPanic.normal ?_
      go_wp2_with fail
      refine bodyPost_ret (res_cell_mid Try.results93 _ _ (w.heap.size + 1 + 1) [.slice (some ⟨g, 0, none⟩) 4 cap, .slice (some ⟨d, 0, none⟩) 6 dcap] _ rfl p1.cells Try.underlying54 rfl (by kernel_rfl)) rfl ?_
      exact ⟨rfl, _, _, HO5, SZ, KZ⟩
end Go.Proofs.Ytkikeapfjpnkgaa.DpA

/-
  The specification's new store.
-/
namespace Go.Proofs.Ytkikeapfjpnkgaa.NwA
open Go.ChangeShapes Go.WideShapes Go.ChangeAt Go.RowKit Go.Shelf OkA Big Fl ImplB ImplF ImplS _root_.Go.Proofs.Ytkikeapfjpnkgaa.Own ImplT ImplU SpecA SpecB SpecC SpecD SpecW SpecF SpecG SpecH Ok2 Pl FindP SpecX ImplL FindN FindL FindV Kp StA RmA WrA FlA DoA ToA PlA AlA DpA ImplW
set_option linter.unusedVariables false
set_option linter.unusedSimpArgs false
attribute [local go_sem ↓] Go.wp_at_zero Go.wp_at_succ

theorem wp_make_big {P : Program} {o : Oper} {a : Act} {w : World} {Q : Exit → Act → World → Prop} {K : Act → World → Prop} (t : TypeId) (x y : Operand) (ho : o.op = .makeSlice t x y) (n : Nat) (hx : a.eval x = .int .i64 n) (hy : a.eval y = .int .i64 n)
    (e sz bytes : Nat) (z : Value) (ht : P.underlying t = some (.slice e)) (hi : (P.info? e).map (fun i => (i.zero, i.size, i.bytes)) = some (some z, sz, bytes)) (hb : bytes * n ≤ 281474976710656) (hn : n ≤ 281474976710656)
    (h : K (a.put o.dst (.slice (some ⟨w.heap.size, 0, none⟩) n n)) (w.alloc (.cells (madeCells z.cells (n * sz)) e))) : o.wp P a w K Q := by
  cases hq : P.info? e with
  | none => simp [hq] at hi
  | some i =>
    simp [hq] at hi
    obtain ⟨h1, h2, h3⟩ := hi
    have hb' : (i.bytes : Int) * (n : Int) ≤ 281474976710656 := by
      rw [h3, ← Int.natCast_mul]; exact Int.ofNat_le.2 hb
    have hrun := run_make (P := P) w t e i z ht hq h1 .i64 .i64 n n (by omega) (by omega) hb' (by omega)
    simp only [Int.toNat_natCast, h2] at hrun
    unfold Oper.wp execOp
    simp only [ho, hx, hy, Sem.run_bind, hrun, Result.andThen_ok]
    exact h
def zDk : List Int := [0, 0, 0, 0, 0, 0]
theorem made6 : madeCells (Value.int .i64 0).cells (6 * 1) = (isC zDk).toArray := by kernel_rfl
theorem ok_new : okB zFs = true := by decide
def NewPost (w : World) (e : Ending) (w' : World) : Prop := ∃ g d G cap, e = .returned (.agg #[.slice (some ⟨g, 0, none⟩) 4 cap, .slice (some ⟨d, 0, none⟩) 6 6]) ∧ St w' w.heap.size g d G zFs zDk ∧ Below w.heap.size w w' ∧ 4 ≤ cap

set_option maxRecDepth 100000 in
set_option maxHeartbeats 2000000 in
theorem store_new (w : World) : Calls Try.prog 101 #[] w fun e w' => NewPost w e w' := by
  have b1 : Below w.heap.size w (w.alloc (.cells #[.slice none 0 0, .slice none 0 0] 54)) := (Below.refl _ _).alloc (Nat.le_refl _) _
  have cR := store_box w (.slice none 0 0) (.slice none 0 0)
  have s1 : (w.alloc (.cells #[.slice none 0 0, .slice none 0 0] 54)).heap.size = w.heap.size + 1 := by simp
  have HSS := hide (show (Try.prog.info? 54).map (·.size) = some 2 by kernel_rfl)
  have HB := hide (fun (g d cap : Nat) => (show Try.prog.built 54 [(0, .slice (some ⟨g, 0, none⟩) 4 cap), (1, .slice (some ⟨d, 0, none⟩) 6 6)] = some #[.slice (some ⟨g, 0, none⟩) 4 cap, .slice (some ⟨d, 0, none⟩) 6 6] by kernel_rfl))
  have HM := hide (show (Try.prog.info? 3).map (fun i => (i.zero, i.size, i.bytes)) = some (some (.int .i64 0), 1, 8) by kernel_rfl)
  have HN := hide SpecN.new_any4
  go_enter Try.func101, Try.ntmps101
  go_upto_region 1 with fail
  generalize w.alloc (.cells #[.slice none 0 0, .slice none 0 0] 54) = w1 at *
  refine wp_region_noPanic ?_
  refine wp_region_held_drew (S := fun w' => True) (by kernel_rfl) (trivial) (fun hHeld => ?_)
  have B1d := b1.drew
  have R1d := csAt_kept cR (L := []) (Kept.refl [] w1).drew (by omega) (by simp)
  have s1d : w1.drew.heap.size = w.heap.size + 1 := s1
  refine twoL 0 1 rfl rfl (by kernel_rfl) rfl rfl (fun K hK => ?_) (fun K hK => ?_)
  · go_simp
    refine (unhide HN _).mono ?_
    rintro e w2 ⟨g, G, c, rfl, o2, b2, hc4⟩
    go_wp2_with fail
    refine hK.out _ _ trivial (fun hHeld => ?_)
    clear hK K
    try simp only [Act.put, List.setIfInBounds_toArray, List.set_cons_zero, List.set_cons_succ]
    refine oneL 1 rfl (by kernel_rfl) rfl (fun K hK => ?_)
    refine wp_make_big 47 _ _ rfl 6 rfl rfl 3 1 8 (.int .i64 0) Try.underlying47 (unhide HM) (by omega) (by omega) ?_
    rw [made6]
    refine hK.out _ _ trivial (fun hHeld => ?_)
    clear hK K
    try simp only [Act.put, List.setIfInBounds_toArray, List.set_cons_zero, List.set_cons_succ]
    have bA : Below w2.heap.size w2 (w2.alloc (.cells (isC zDk).toArray 3)) := (Below.refl _ _).alloc (Nat.le_refl _) _
    have h2 := b2.size
    have hl2 : ∀ y ∈ g :: G, w.heap.size + 1 ≤ y ∧ y < w2.heap.size := fun y hy => ⟨by have := o2.lo y hy; omega, o2.hi y hy⟩
    have S3 : St (w2.alloc (.cells (isC zDk).toArray 3)) w.heap.size g w2.heap.size G zFs zDk := ⟨(o2.below bA (Nat.le_refl _)).mono (by omega), CsAt.new w2 (isC zDk) 3, by omega, by simp, fun hm => by have := (hl2 _ hm).2; omega, rfl⟩
    have hl : ∀ y ∈ w2.heap.size :: g :: G, w.heap.size + 1 ≤ y := fun y hy => by
      rcases List.mem_cons.1 hy with rfl | hy
      · omega
      · exact (hl2 y hy).1
    have R3 := csAt_kept (csAt_kept R1d (L := []) (Kept.of b2) (by omega) (by simp)) (L := []) (Kept.of bA) (by omega) (by simp)
    have B3 := (B1d.trans (b2.mono B1d.size)).alloc (by omega) (.cells (isC zDk).toArray 3)
    generalize w2.alloc (.cells (isC zDk).toArray 3) = w3 at *
    refine oneL 2 rfl (by kernel_rfl) rfl (fun K hK => ?_)
    refine wp_build_two 54 _ _ rfl (.slice (some ⟨g, 0, none⟩) 4 c) (.slice (some ⟨w2.heap.size, 0, none⟩) 6 6) rfl rfl [.slice (some ⟨g, 0, none⟩) 4 c, .slice (some ⟨w2.heap.size, 0, none⟩) 6 6].toArray (unhide HB g w2.heap.size c) ?_
    refine hK.out _ _ trivial (fun hHeld => ?_)
    clear hK K
    try simp only [Act.put, List.setIfInBounds_toArray, List.set_cons_zero, List.set_cons_succ]
    have p1 := R3.put [.slice (some ⟨g, 0, none⟩) 4 c, .slice (some ⟨w2.heap.size, 0, none⟩) 6 6] rfl
    have kz := kept_cells w3 w.heap.size 0 [.slice (some ⟨g, 0, none⟩) 4 c, .slice (some ⟨w2.heap.size, 0, none⟩) 6 6]
    have SZ := S3.kept kz (fun y hy => by have := hl y hy; simp; omega)
    have BZ : Below w.heap.size w (w3.setCells w.heap.size 0 [.slice (some ⟨g, 0, none⟩) 4 c, .slice (some ⟨w2.heap.size, 0, none⟩) 6 6]) := Big.below_setCells w.heap.size (Nat.le_refl _) _ _ _ B3
    refine oneL 3 rfl (by kernel_rfl) rfl (fun K hK => ?_)
    refine wp_store_mid 54 _ _ rfl w.heap.size 0 [.slice (some ⟨g, 0, none⟩) 4 c, .slice (some ⟨w2.heap.size, 0, none⟩) 6 6].toArray rfl rfl R3.free (unhide HSS) (by kernel_rfl) ?_
    refine hK.out _ _ trivial (fun hHeld => ?_)
    clear hK K
    try simp only [Act.put, List.setIfInBounds_toArray, List.set_cons_zero, List.set_cons_succ]
    refine wpAnyH_done (by kernel_rfl) ?_ _
    refine NoPanic.normal ?_
    go_wp2_with fail
    refine bodyPost_ret (res_cell_mid Try.results101 _ _ w.heap.size [.slice (some ⟨g, 0, none⟩) 4 c, .slice (some ⟨w2.heap.size, 0, none⟩) 6 6] _ rfl p1.cells Try.underlying54 rfl (by kernel_rfl)) rfl ?_
    exact ⟨g, w2.heap.size, G, c, rfl, SZ, BZ, hc4⟩
  · refine wp_make_big 47 _ _ rfl 6 rfl rfl 3 1 8 (.int .i64 0) Try.underlying47 (unhide HM) (by omega) (by omega) ?_
    rw [made6]
    refine hK.out _ _ trivial (fun hHeld => ?_)
    clear hK K
    try simp only [Act.put, List.setIfInBounds_toArray, List.set_cons_zero, List.set_cons_succ]
    refine oneL 0 rfl (by kernel_rfl) rfl (fun K hK => ?_)
    go_simp
    refine (unhide HN _).mono ?_
    rintro e w3 ⟨g, G, c, rfl, o3, b3, hc4⟩
    go_wp2_with fail
    refine hK.out _ _ trivial (fun hHeld => ?_)
    clear hK K
    try simp only [Act.put, List.setIfInBounds_toArray, List.set_cons_zero, List.set_cons_succ]
    have bA : Below w1.drew.heap.size w1.drew (w1.drew.alloc (.cells (isC zDk).toArray 3)) := (Below.refl _ _).alloc (Nat.le_refl _) _
    have b4 : Below (w1.drew.alloc (.cells (isC zDk).toArray 3)).heap.size (w1.drew.alloc (.cells (isC zDk).toArray 3)) w3 := b3
    have o4 : Own.Own w3 (w1.drew.alloc (.cells (isC zDk).toArray 3)).heap.size g G zFs 4 := o3
    clear b3 o3
    have h3 := b4.size
    rw [World.size_alloc] at h3
    have hl3 : ∀ y ∈ g :: G, w1.drew.heap.size + 1 ≤ y := fun y hy => by have := o4.lo y hy; rw [World.size_alloc] at this; exact this
    have S3 : St w3 w.heap.size g w1.drew.heap.size G zFs zDk := ⟨o4.mono (by rw [World.size_alloc]; omega), csAt_kept (CsAt.new w1.drew (isC zDk) 3) (L := []) (Kept.of b4) (by simp) (by simp), by omega, by omega, fun hm => by have := hl3 _ hm; omega, rfl⟩
    have hl : ∀ y ∈ w1.drew.heap.size :: g :: G, w.heap.size + 1 ≤ y := fun y hy => by
      rcases List.mem_cons.1 hy with rfl | hy
      · omega
      · have := hl3 y hy; omega
    have R3 := csAt_kept (csAt_kept R1d (L := []) (Kept.of bA) (by omega) (by simp)) (L := []) (Kept.of b4) (by rw [World.size_alloc]; omega) (by simp)
    have B3 := (B1d.alloc (by omega) (.cells (isC zDk).toArray 3)).trans (b4.mono (by rw [World.size_alloc]; omega))
    rw [s1d] at S3 hl
    refine oneL 2 rfl (by kernel_rfl) rfl (fun K hK => ?_)
    refine wp_build_two 54 _ _ rfl (.slice (some ⟨g, 0, none⟩) 4 c) (.slice (some ⟨(w.heap.size + 1), 0, none⟩) 6 6) rfl rfl [.slice (some ⟨g, 0, none⟩) 4 c, .slice (some ⟨(w.heap.size + 1), 0, none⟩) 6 6].toArray (unhide HB g (w.heap.size + 1) c) ?_
    refine hK.out _ _ trivial (fun hHeld => ?_)
    clear hK K
    try simp only [Act.put, List.setIfInBounds_toArray, List.set_cons_zero, List.set_cons_succ]
    have p1 := R3.put [.slice (some ⟨g, 0, none⟩) 4 c, .slice (some ⟨(w.heap.size + 1), 0, none⟩) 6 6] rfl
    have kz := kept_cells w3 w.heap.size 0 [.slice (some ⟨g, 0, none⟩) 4 c, .slice (some ⟨(w.heap.size + 1), 0, none⟩) 6 6]
    have SZ := S3.kept kz (fun y hy => by have := hl y hy; simp; omega)
    have BZ : Below w.heap.size w (w3.setCells w.heap.size 0 [.slice (some ⟨g, 0, none⟩) 4 c, .slice (some ⟨(w.heap.size + 1), 0, none⟩) 6 6]) := Big.below_setCells w.heap.size (Nat.le_refl _) _ _ _ B3
    refine oneL 3 rfl (by kernel_rfl) rfl (fun K hK => ?_)
    refine wp_store_mid 54 _ _ rfl w.heap.size 0 [.slice (some ⟨g, 0, none⟩) 4 c, .slice (some ⟨(w.heap.size + 1), 0, none⟩) 6 6].toArray rfl rfl R3.free (unhide HSS) (by kernel_rfl) ?_
    refine hK.out _ _ trivial (fun hHeld => ?_)
    clear hK K
    try simp only [Act.put, List.setIfInBounds_toArray, List.set_cons_zero, List.set_cons_succ]
    refine wpAnyH_done (by kernel_rfl) ?_ _
    refine NoPanic.normal ?_
    go_wp2_with fail
    refine bodyPost_ret (res_cell_mid Try.results101 _ _ w.heap.size [.slice (some ⟨g, 0, none⟩) 4 c, .slice (some ⟨(w.heap.size + 1), 0, none⟩) 6 6] _ rfl p1.cells Try.underlying54 rfl (by kernel_rfl)) rfl ?_
    exact ⟨g, (w.heap.size + 1), G, c, rfl, SZ, BZ, hc4⟩
end Go.Proofs.Ytkikeapfjpnkgaa.NwA
