/-
  The specification's doing of steps, one behind the other, in place.
-/
import Derived.Test.YtbfklmlniepihaaDoA
namespace Go.Proofs.Ytbfklmlniepihaa.ToA
open Go.ChangeShapes Go.WideShapes Go.ChangeAt Go.RowKit Go.Shelf OkA Big Fl ImplB ImplF ImplS _root_.Go.Proofs.Ytbfklmlniepihaa.Own ImplT ImplU SpecA SpecB SpecC SpecD SpecW SpecF SpecG SpecH Ok2 Pl FindP SpecX ImplL FindN FindL FindV Kp StA RmA WrA FlA DoA
set_option linter.unusedVariables false
set_option linter.unusedSimpArgs false
attribute [local go_sem ↓] Go.wp_at_zero Go.wp_at_succ

theorem toF_app (bs : List Bk) (l m : List Stp) : toF bs (l ++ m) = toF (toF bs l) m := by
  induction l generalizing bs with
  | nil => rfl
  | cons x r ih => exact ih _
theorem toD_app (dk : List Int) (l m : List Stp) : toD dk (l ++ m) = toD (toD dk l) m := by
  induction l generalizing dk with
  | nil => rfl
  | cons x r ih => exact ih _
theorem toF_take (bs : List Bk) (l : List Stp) (n : Nat) (hn : n < l.length) : toF bs (l.take (n + 1)) = doF (toF bs (l.take n)) l[n] false := by
  rw [List.take_succ_eq_append_getElem hn, toF_app]; rfl
theorem toD_take (dk : List Int) (l : List Stp) (n : Nat) (hn : n < l.length) : toD dk (l.take (n + 1)) = doD (toD dk (l.take n)) l[n] false := by
  rw [List.take_succ_eq_append_getElem hn, toD_app]; rfl
theorem okB_toF (l : List Stp) : ∀ bs, okB bs = true → (∀ x ∈ l, stpB x = true) → okB (toF bs l) = true := by
  induction l with
  | nil => intro bs h _; exact h
  | cons x r ih => intro bs h hx; exact ih _ (okB_doF bs x false h (hx x (by simp))) fun y hy => hx y (by simp [hy])
/-- What is there behind so many steps, and one that falls. -/
def fell (L : List Stp) (cut : Int) (torn : Bool) : Bool := torn && inB cut 0 ((L.length : Int) - 1)
def toB (bs : List Bk) (L : List Stp) (cut : Int) (torn : Bool) : List Bk := if fell L cut torn then doF (toF bs (L.take cut.toNat)) (L.getD cut.toNat zSt) true else toF bs (L.take cut.toNat)
def toK (dk : List Int) (L : List Stp) (cut : Int) (torn : Bool) : List Int := if fell L cut torn then doD (toD dk (L.take cut.toNat)) (L.getD cut.toNat zSt) true else toD dk (L.take cut.toNat)
theorem okB_toB (bs : List Bk) (L : List Stp) (cut : Int) (torn : Bool) (h : okB bs = true) (hL : ∀ x ∈ L, stpB x = true) : okB (toB bs L cut torn) = true := by
  have h1 := okB_toF (L.take cut.toNat) bs h (fun x hx => hL x (List.mem_of_mem_take hx))
  unfold toB
  cases hf : fell L cut torn
  · exact h1
  · have hlt : cut.toNat < L.length := by
      unfold fell at hf
      simp [inB] at hf
      omega
    refine okB_doF _ _ _ h1 (hL _ ?_)
    rw [List.getD_eq_getElem?_getD, List.getElem?_eq_getElem hlt]
    exact List.getElem_mem hlt
theorem stp_part (l : List Stp) (i : Nat) (hi : i < l.length) : ((stsC l).drop (i * 8)).take 8 = stC l[i] := part_of stC 8 l (fun _ _ => rfl) i hi
theorem stp_at {w : World} {gs so : Nat} {L : List Stp} (h : w.rangeAt gs so (stsC L)) (n : Nat) (hn : n < L.length) : w.rangeAt gs (so + n * 8) (stC L[n]) := by
  have := rangeAt_sub h (n * 8) 8
  rwa [stp_part L n hn] at this

set_option maxRecDepth 100000 in
set_option maxHeartbeats 4000000 in
theorem to_any (lo g d cap dcap : Nat) (G : List Nat) (bs : List Bk) (dk : List Int) (sa : Option Addr) (sc : Nat) (L : List Stp) (cut : Int) (torn : Bool) (w : World) (hS : St w lo g d G bs dk) (hok : okB bs = true) (hL : ∀ x ∈ L, stpB x = true) (hlen : L.length ≤ 1048576)
    (hsa : L = [] ∨ ∃ gs so, sa = some ⟨gs, so, none⟩ ∧ gs ∉ d :: g :: G ∧ gs < w.heap.size ∧ w.rangeAt gs so (stsC L)) :
    Calls Try.prog 28 #[.agg #[.slice (some ⟨g, 0, none⟩) 4 cap, .slice (some ⟨d, 0, none⟩) 6 dcap], .slice sa L.length sc, .int .i64 cut, .bool torn] w fun e w' => DoPost w lo g d cap dcap G (toB bs L cut torn) (toK dk L cut torn) e w' := by
  have b1 : Below w.heap.size w ((w.alloc (.cells #[.slice (some ⟨g, 0, none⟩) 4 cap, .slice (some ⟨d, 0, none⟩) 6 dcap] 59)).alloc (.cells #[.slice none 0 0, .slice none 0 0] 59)) := ((Below.refl _ _).alloc (Nat.le_refl _) _).alloc (by simp) _
  have cS := (store_box w (.slice (some ⟨g, 0, none⟩) 4 cap) (.slice (some ⟨d, 0, none⟩) 6 dcap)).alloc (by simp) (.cells #[.slice none 0 0, .slice none 0 0] 59)
  have cR := CsAt.new (w.alloc (.cells #[.slice (some ⟨g, 0, none⟩) 4 cap, .slice (some ⟨d, 0, none⟩) 6 dcap] 59)) [.slice none 0 0, .slice none 0 0] 59
  rw [World.size_alloc] at cR
  have s1 : ((w.alloc (.cells #[.slice (some ⟨g, 0, none⟩) 4 cap, .slice (some ⟨d, 0, none⟩) 6 dcap] 59)).alloc (.cells #[.slice none 0 0, .slice none 0 0] 59)).heap.size = w.heap.size + 2 := by simp
  have S1 := hS.below b1
  have k1 : Kept (d :: g :: G) w ((w.alloc (.cells #[.slice (some ⟨g, 0, none⟩) 4 cap, .slice (some ⟨d, 0, none⟩) 6 dcap] 59)).alloc (.cells #[.slice none 0 0, .slice none 0 0] 59)) := Kept.of b1
  have hall := hS.all
  have HB : Hid (toB bs L cut torn = if fell L cut torn then doF (toF bs (L.take cut.toNat)) (L.getD cut.toNat zSt) true else toF bs (L.take cut.toNat)) := rfl
  have HK : Hid (toK dk L cut torn = if fell L cut torn then doD (toD dk (L.take cut.toNat)) (L.getD cut.toNat zSt) true else toD dk (L.take cut.toNat)) := rfl
  have HOK := hide (fun n => okB_toF (L.take n) bs hok (fun x hx => hL x (List.mem_of_mem_take hx)))
  have HST := hide hL
  have HSA := hide hsa
  have HSZ : Hid (L.length = L.length) := rfl
  have hli : (L.length : Int) ≤ 1048576 := by omega
  clear hS hok hL hsa
  go_enter Try.func28, Try.ntmps28
  go_upto_region 1 with fail
  generalize (w.alloc (.cells #[.slice (some ⟨g, 0, none⟩) 4 cap, .slice (some ⟨d, 0, none⟩) 6 dcap] 59)).alloc (.cells #[.slice none 0 0, .slice none 0 0] 59) = w1 at *
  have HT0 : Hid (toF bs (L.take 0) = bs) := rfl
  have HD0 : Hid (toD dk (L.take 0) = dk) := rfl
  go_wp2
  go_loopw [9] (fun i w' => ∃ n : Nat, n ≤ L.length ∧ (n : Int) ≤ max cut 0 ∧ i = .int .i64 n ∧ St w' lo g d G (toF bs (L.take n)) (toD dk (L.take n)) ∧ CsAt w' w.heap.size [.slice (some ⟨g, 0, none⟩) 4 cap, .slice (some ⟨d, 0, none⟩) 6 dcap] ∧ CsAt w' (w.heap.size + 1) [.slice none 0 0, .slice none 0 0] ∧ w.heap.size + 2 ≤ w'.heap.size ∧ Kept (d :: g :: G) w w') (fun i _ => L.length - (intOf i).toNat)
  case atStart => exact ⟨0, by omega, by omega, rfl, by rw [unhide HT0, unhide HD0]; exact S1, cS, cR, by omega, k1⟩
  case round =>
    clear S1 cS cR s1 k1
    obtain ⟨n, hn, hnc, rfl, hS, hC, hR, hsz, hK⟩ := hrel
    have hn0 : (0 : Int) ≤ (n : Int) := by omega
    by_cases h0 : n < L.length ∧ (n : Int) < cut
    · obtain ⟨h1, h2⟩ := h0
      have hnl : (n : Int) < (L.length : Int) := by omega
      obtain ⟨gs, so, rfl, hg1, hg2, hgr⟩ : ∃ gs so, sa = some ⟨gs, so, none⟩ ∧ gs ∉ d :: g :: G ∧ gs < w.heap.size ∧ w.rangeAt gs so (stsC L) := by
        rcases unhide HSA with h | h
        · rw [h] at h1; simp at h1
        · exact h
      have hx := hide (unhide HST _ (List.getElem_mem h1))
      have HTF := hide (toF_take bs L n h1)
      have HTD := hide (toD_take dk L n h1)
      have hxr := hK.range (stp_at hgr n h1) hg2 hg1
      have HO := hide (unhide HOK n)
      generalize L[n] = x at *
      generalize toF bs (L.take n) = B at *
      generalize toD dk (L.take n) = D at *
      have HSS := hide (show (Try.prog.info? 59).map (·.size) = some 2 by kernel_rfl)
      have HS8 := hide (show (Try.prog.info? 81).map (·.size) = some (stC x).length by show _ = some 8; kernel_rfl)
      clear hgr
      go_wp2_with fail
      refine wp_region_noPanic ?_
      refine wp_region_held_drew (S := fun w' => (CsAt w' w.heap.size [.slice (some ⟨g, 0, none⟩) 4 cap, .slice (some ⟨d, 0, none⟩) 6 dcap] ∧ w'.rangeAt gs (so + n * 8) (stC x)) ∧ w.heap.size + 2 ≤ w'.heap.size) (by kernel_rfl) (⟨⟨⟨fun j v hv => hC.cells j v hv, fun j hj => hC.free j hj⟩, fun j v hv => hxr j v hv⟩, hsz⟩) (fun hHeld => ?_)
      refine takeL 0 (.agg #[.slice (some ⟨g, 0, none⟩) 4 cap, .slice (some ⟨d, 0, none⟩) 6 dcap]) rfl (by kernel_rfl) (by kernel_rfl) (by kernel_rfl) (fun _ _ _ h => h) (yieldsIf_load_mid rfl 59 _ rfl w.heap.size 0 rfl [.slice (some ⟨g, 0, none⟩) 4 cap, .slice (some ⟨d, 0, none⟩) 6 dcap] _ (fun _ h => h.1.1.cells) Try.underlying59 rfl (unhide HSS)) hHeld ?_
      try simp only [Act.put, List.setIfInBounds_toArray, List.set_cons_zero, List.set_cons_succ]
      refine takeL 1 (.slice (some ⟨gs, so, none⟩) L.length sc) rfl (by kernel_rfl) (by kernel_rfl) (by kernel_rfl) (fun _ _ _ h => h) (Or.inl ⟨rfl, fun _ _ => rfl⟩) hHeld ?_
      try simp only [Act.put, List.setIfInBounds_toArray, List.set_cons_zero, List.set_cons_succ]
      refine takeL 2 (.int .i64 (n : Nat)) rfl (by kernel_rfl) (by kernel_rfl) (by kernel_rfl) (fun _ _ _ h => h) (Or.inl ⟨rfl, fun _ _ => rfl⟩) hHeld ?_
      try simp only [Act.put, List.setIfInBounds_toArray, List.set_cons_zero, List.set_cons_succ]
      refine takeL 3 (.pointer (some ⟨gs, so + n * 8, none⟩)) rfl (by kernel_rfl) (by kernel_rfl) (by kernel_rfl) (fun _ _ _ h => h) (Or.inl ⟨rfl, fun w9 hSw => by go_simp⟩) hHeld ?_
      try simp only [Act.put, List.setIfInBounds_toArray, List.set_cons_zero, List.set_cons_succ]
      refine takeL 4 (.agg #[.int .i64 x.kind, .int .i64 x.addr, .int .i64 x.val, .int .i64 x.blk, .int .i64 x.r.k, .int .i64 x.r.s, .int .i64 x.r.a, .int .i64 x.r.v]) rfl (by kernel_rfl) (by kernel_rfl) (by kernel_rfl) (fun _ _ _ h => h) (yieldsIf_load_mid rfl 81 _ rfl gs (so + n * 8) rfl (stC x) _ (fun _ h => h.1.2) Try.underlying81 rfl (unhide HS8)) hHeld ?_
      try simp only [Act.put, List.setIfInBounds_toArray, List.set_cons_zero, List.set_cons_succ]
      refine oneL 5 rfl (by kernel_rfl) rfl (fun K hK2 => ?_)
      go_simp
      refine (do_any lo g d cap dcap G B D x false _ (hS.kept (L := []) (Kept.refl [] wr).drew (fun _ _ => by simp)) (unhide HO) (unhide hx)).mono ?_
      rintro e w4 ⟨rfl, S4, k4⟩
      go_wp2_with fail
      have hgL : w.heap.size ∉ d :: g :: G := fun hm => by have := (hall _ hm).2; omega
      have hrL : w.heap.size + 1 ∉ d :: g :: G := fun hm => by have := (hall _ hm).2; omega
      have rR4 := csAt_kept (csAt_kept hR (L := []) (Kept.refl [] wr).drew (by omega) (by simp)) k4 (by show w.heap.size + 1 < wr.heap.size; omega) hrL
      have kR4 := hK.drew.trans k4
      have sR4 : w.heap.size + 2 ≤ w4.heap.size := Nat.le_trans hsz k4.size
      have cR4 := csAt_kept hHeld.1.1 k4 (by show w.heap.size < wr.heap.size; omega) hgL
      refine hK2.out _ _ ⟨⟨cR4, k4.range hHeld.1.2 (by show gs < wr.heap.size; omega) hg1⟩, sR4⟩ (fun hHeld => ?_)
      clear hK2 K
      try simp only [Act.put, List.setIfInBounds_toArray, List.set_cons_zero, List.set_cons_succ]
      refine oneL 6 rfl (by kernel_rfl) rfl (fun K hK2 => ?_)
      refine wp_store_mid 59 _ _ rfl w.heap.size 0 [.slice (some ⟨g, 0, none⟩) 4 cap, .slice (some ⟨d, 0, none⟩) 6 dcap].toArray rfl rfl cR4.free (unhide HSS) (by kernel_rfl) ?_
      have kz := kept_cells w4 w.heap.size 0 [.slice (some ⟨g, 0, none⟩) 4 cap, .slice (some ⟨d, 0, none⟩) 6 dcap]
      have SF := S4.kept kz (fun y hy => by have := (hall y hy).2; simp; omega)
      have cF := cR4.put [.slice (some ⟨g, 0, none⟩) 4 cap, .slice (some ⟨d, 0, none⟩) 6 dcap] rfl
      have rF := csAt_kept rR4 kz (by omega) (by simp)
      have sF : w.heap.size + 2 ≤ (w4.setCells w.heap.size 0 [.slice (some ⟨g, 0, none⟩) 4 cap, .slice (some ⟨d, 0, none⟩) 6 dcap]).heap.size := Nat.le_trans sR4 kz.size
      have kF := kR4.then kz (fun y hy => by simp at hy; subst hy; right; exact Nat.le_refl _)
      refine hK2.out _ _ ⟨⟨cF, kz.range hHeld.1.2 (by have := k4.size; show gs < w4.heap.size; simp at this; omega) (by simp; omega)⟩, sF⟩ (fun hHeld => ?_)
      clear hK2 K
      try simp only [Act.put, List.setIfInBounds_toArray, List.set_cons_zero, List.set_cons_succ]
      refine wpAnyH_done (by kernel_rfl) ?_ _
      refine NoPanic.normal ?_
      clear hHeld S4 k4 kz rR4 kR4 sR4 cR4
      generalize w4.setCells w.heap.size 0 [.slice (some ⟨g, 0, none⟩) 4 cap, .slice (some ⟨d, 0, none⟩) 6 dcap] = w5 at *
      go_wp2
      go_roundw
      case rel => exact ⟨n + 1, by omega, by omega, by first | rfl | go_num, by rw [unhide HTF, unhide HTD]; exact SF, cF, rF, sF, kF⟩
      case measure => simp [intOf]; omega
    · have hnn : (n : Int) = min (max cut 0) L.length := by omega
      have HTK : Hid (L.take cut.toNat = L.take n) := by
        show _ = _
        by_cases hc : (n : Int) < L.length
        · rw [show cut.toNat = n by omega]
        · rw [List.take_of_length_le (by omega), List.take_of_length_le (by omega)]
      have hstop : ¬ ((n : Int) < (L.length : Int) ∧ (n : Int) < cut) := by omega
      have hq : ¬ (n : Int) < (L.length : Int) ∨ ((n : Int) < (L.length : Int) ∧ ¬ (n : Int) < cut) := by omega
      have HTB : Hid (toF bs (L.take cut.toNat) = toF bs (L.take n)) := by show _ = _; rw [unhide HTK]
      have HTD : Hid (toD dk (L.take cut.toNat) = toD dk (L.take n)) := by show _ = _; rw [unhide HTK]
      clear HTK hstop
      have HSS := hide (show (Try.prog.info? 59).map (·.size) = some 2 by kernel_rfl)
      by_cases hf : torn = true ∧ 0 ≤ cut ∧ cut ≤ (L.length : Int) - 1
      · obtain ⟨rfl, hc0, hc1⟩ := hf
        obtain rfl : cut = (n : Int) := by omega
        have h1 : n < L.length := by omega
        have hnl : (n : Int) < (L.length : Int) := by omega
        have hnn2 : ¬ (n : Int) < (n : Int) := by omega
        have hE : inB (n : Int) 0 ((L.length : Int) - 1) = true := inB_t hc0 hc1
        have HFL : Hid (fell L (n : Int) true = true) := by show _ = _; unfold fell; rw [hE]; rfl
        obtain ⟨gs, so, rfl, hg1, hg2, hgr⟩ : ∃ gs so, sa = some ⟨gs, so, none⟩ ∧ gs ∉ d :: g :: G ∧ gs < w.heap.size ∧ w.rangeAt gs so (stsC L) := by
          rcases unhide HSA with h | h
          · rw [h] at h1; simp at h1
          · exact h
        have hx := hide (unhide HST _ (List.getElem_mem h1))
        have hxr := hK.range (stp_at hgr n h1) hg2 hg1
        have HO := hide (unhide HOK n)
        have HGD : Hid (L.getD (n : Int).toNat zSt = L[n]) := by show _ = _; rw [List.getD_eq_getElem?_getD, Int.toNat_natCast, List.getElem?_eq_getElem h1]; rfl
        have HB2 : Hid (toB bs L (n : Int) true = doF (toF bs (L.take n)) L[n] true) := by show _ = _; rw [unhide HB, if_pos (unhide HFL), unhide HTB, unhide HGD]
        have HK2 : Hid (toK dk L (n : Int) true = doD (toD dk (L.take n)) L[n] true) := by show _ = _; rw [unhide HK, if_pos (unhide HFL), unhide HTD, unhide HGD]
        clear HB HK HFL HGD HTB HTD HOK HST HSA
        generalize L[n] = x at *
        generalize toF bs (L.take n) = B at *
        generalize toD dk (L.take n) = D at *
        have HS8 := hide (show (Try.prog.info? 81).map (·.size) = some (stC x).length by show _ = some 8; kernel_rfl)
        clear hgr hq hnn hc0 hc1 h0
        go_wp2_with fail
        refine (l6In_any (n : Int) 0 ((L.length : Int) - 1) wr).mono ?_
        rintro e w2 ⟨rfl, hw⟩
        obtain rfl := hw.symm
        rw [hE]
        go_wp2_with fail
        refine wp_region_noPanic ?_
        refine wp_region_held_drew (S := fun w' => (CsAt w' w.heap.size [.slice (some ⟨g, 0, none⟩) 4 cap, .slice (some ⟨d, 0, none⟩) 6 dcap] ∧ w'.rangeAt gs (so + n * 8) (stC x)) ∧ w.heap.size + 2 ≤ w'.heap.size) (by kernel_rfl) (⟨⟨⟨fun j v hv => hC.cells j v hv, fun j hj => hC.free j hj⟩, fun j v hv => hxr j v hv⟩, hsz⟩) (fun hHeld => ?_)
        refine takeL 0 (.agg #[.slice (some ⟨g, 0, none⟩) 4 cap, .slice (some ⟨d, 0, none⟩) 6 dcap]) rfl (by kernel_rfl) (by kernel_rfl) (by kernel_rfl) (fun _ _ _ h => h) (yieldsIf_load_mid rfl 59 _ rfl w.heap.size 0 rfl [.slice (some ⟨g, 0, none⟩) 4 cap, .slice (some ⟨d, 0, none⟩) 6 dcap] _ (fun _ h => h.1.1.cells) Try.underlying59 rfl (unhide HSS)) hHeld ?_
        try simp only [Act.put, List.setIfInBounds_toArray, List.set_cons_zero, List.set_cons_succ]
        refine takeL 1 (.slice (some ⟨gs, so, none⟩) L.length sc) rfl (by kernel_rfl) (by kernel_rfl) (by kernel_rfl) (fun _ _ _ h => h) (Or.inl ⟨rfl, fun _ _ => rfl⟩) hHeld ?_
        try simp only [Act.put, List.setIfInBounds_toArray, List.set_cons_zero, List.set_cons_succ]
        refine takeL 2 (.int .i64 (n : Nat)) rfl (by kernel_rfl) (by kernel_rfl) (by kernel_rfl) (fun _ _ _ h => h) (Or.inl ⟨rfl, fun _ _ => rfl⟩) hHeld ?_
        try simp only [Act.put, List.setIfInBounds_toArray, List.set_cons_zero, List.set_cons_succ]
        refine takeL 3 (.pointer (some ⟨gs, so + n * 8, none⟩)) rfl (by kernel_rfl) (by kernel_rfl) (by kernel_rfl) (fun _ _ _ h => h) (Or.inl ⟨rfl, fun w9 hSw => by go_simp⟩) hHeld ?_
        try simp only [Act.put, List.setIfInBounds_toArray, List.set_cons_zero, List.set_cons_succ]
        refine takeL 4 (.agg #[.int .i64 x.kind, .int .i64 x.addr, .int .i64 x.val, .int .i64 x.blk, .int .i64 x.r.k, .int .i64 x.r.s, .int .i64 x.r.a, .int .i64 x.r.v]) rfl (by kernel_rfl) (by kernel_rfl) (by kernel_rfl) (fun _ _ _ h => h) (yieldsIf_load_mid rfl 81 _ rfl gs (so + n * 8) rfl (stC x) _ (fun _ h => h.1.2) Try.underlying81 rfl (unhide HS8)) hHeld ?_
        try simp only [Act.put, List.setIfInBounds_toArray, List.set_cons_zero, List.set_cons_succ]
        refine oneL 5 rfl (by kernel_rfl) rfl (fun K hK2 => ?_)
        go_simp
        refine (do_any lo g d cap dcap G B D x true _ (hS.kept (L := []) (Kept.refl [] wr).drew (fun _ _ => by simp)) (unhide HO) (unhide hx)).mono ?_
        rintro e w4 ⟨rfl, S4, k4⟩
        go_wp2_with fail
        have hgL : w.heap.size ∉ d :: g :: G := fun hm => by have := (hall _ hm).2; omega
        have hrL : w.heap.size + 1 ∉ d :: g :: G := fun hm => by have := (hall _ hm).2; omega
        have rR4 := csAt_kept (csAt_kept hR (L := []) (Kept.refl [] wr).drew (by omega) (by simp)) k4 (by show w.heap.size + 1 < wr.heap.size; omega) hrL
        have kR4 := hK.drew.trans k4
        have sR4 : w.heap.size + 2 ≤ w4.heap.size := Nat.le_trans hsz k4.size
        have cR4 := csAt_kept hHeld.1.1 k4 (by show w.heap.size < wr.heap.size; omega) hgL
        refine hK2.out _ _ ⟨⟨cR4, k4.range hHeld.1.2 (by show gs < wr.heap.size; omega) hg1⟩, sR4⟩ (fun hHeld => ?_)
        clear hK2 K
        try simp only [Act.put, List.setIfInBounds_toArray, List.set_cons_zero, List.set_cons_succ]
        refine oneL 6 rfl (by kernel_rfl) rfl (fun K hK2 => ?_)
        refine wp_store_mid 59 _ _ rfl w.heap.size 0 [.slice (some ⟨g, 0, none⟩) 4 cap, .slice (some ⟨d, 0, none⟩) 6 dcap].toArray rfl rfl cR4.free (unhide HSS) (by kernel_rfl) ?_
        have kz := kept_cells w4 w.heap.size 0 [.slice (some ⟨g, 0, none⟩) 4 cap, .slice (some ⟨d, 0, none⟩) 6 dcap]
        have SF := S4.kept kz (fun y hy => by have := (hall y hy).2; simp; omega)
        have cF := cR4.put [.slice (some ⟨g, 0, none⟩) 4 cap, .slice (some ⟨d, 0, none⟩) 6 dcap] rfl
        have rF := csAt_kept rR4 kz (by omega) (by simp)
        have sF : w.heap.size + 2 ≤ (w4.setCells w.heap.size 0 [.slice (some ⟨g, 0, none⟩) 4 cap, .slice (some ⟨d, 0, none⟩) 6 dcap]).heap.size := Nat.le_trans sR4 kz.size
        have kF := kR4.then kz (fun y hy => by simp at hy; subst hy; right; exact Nat.le_refl _)
        refine hK2.out _ _ ⟨⟨cF, kz.range hHeld.1.2 (by have := k4.size; show gs < w4.heap.size; simp at this; omega) (by simp; omega)⟩, sF⟩ (fun hHeld => ?_)
        clear hK2 K
        try simp only [Act.put, List.setIfInBounds_toArray, List.set_cons_zero, List.set_cons_succ]
        refine wpAnyH_done (by kernel_rfl) ?_ _
        refine NoPanic.normal ?_
        clear hHeld S4 k4 kz rR4 kR4 sR4 cR4
        generalize w4.setCells w.heap.size 0 [.slice (some ⟨g, 0, none⟩) 4 cap, .slice (some ⟨d, 0, none⟩) 6 dcap] = w5 at *
        have d0 := rF.cell 0 _ rfl
        have d1 := rF.cell 1 _ rfl
        have f0 := rF.frozen 0 (by simp)
        have f1 := rF.frozen 1 (by simp)
        have y0 := cF.cell 0 _ rfl
        have y1 := cF.cell 1 _ rfl
        have p1 := rF.put [.slice (some ⟨g, 0, none⟩) 4 cap, .slice (some ⟨d, 0, none⟩) 6 dcap] rfl
        have kz := kept_cells w5 (w.heap.size + 1) 0 [.slice (some ⟨g, 0, none⟩) 4 cap, .slice (some ⟨d, 0, none⟩) 6 dcap]
        have SZ := SF.kept kz (fun y hy => by have := (hall y hy).2; simp; omega)
        have KZ : Kept (d :: g :: G) w (w5.setCells (w.heap.size + 1) 0 [.slice (some ⟨g, 0, none⟩) 4 cap, .slice (some ⟨d, 0, none⟩) 6 dcap]) := kF.then kz (fun y hy => by simp at hy; subst hy; right; omega)
        go_wp2
        refine bodyPost_ret (res_cell_mid Try.results28 _ _ (w.heap.size + 1) [.slice (some ⟨g, 0, none⟩) 4 cap, .slice (some ⟨d, 0, none⟩) 6 dcap] _ rfl p1.cells Try.underlying59 rfl (by kernel_rfl)) rfl ?_
        exact ⟨rfl, by rw [unhide HB2, unhide HK2]; exact SZ, KZ⟩
      · have HFL : Hid (fell L cut torn = false) := by
          show _ = _
          unfold fell
          cases torn
          · rfl
          · rw [show inB cut 0 ((L.length : Int) - 1) = false by unfold inB; rw [decide_eq_false_iff_not]; exact fun h => hf ⟨rfl, h⟩]; rfl
        have HB2 : Hid (toB bs L cut torn = toF bs (L.take n)) := by show _ = _; rw [unhide HB, if_neg (by rw [unhide HFL]; simp), unhide HTB]
        have HK2 : Hid (toK dk L cut torn = toD dk (L.take n)) := by show _ = _; rw [unhide HK, if_neg (by rw [unhide HFL]; simp), unhide HTD]
        have HE : Hid (torn = true → inB cut 0 ((L.length : Int) - 1) = false) := fun h => by unfold inB; rw [decide_eq_false_iff_not]; exact fun g => hf ⟨h, g⟩
        clear HB HK HFL HTB HTD HOK HST HSA hf
        generalize toF bs (L.take n) = B at *
        generalize toD dk (L.take n) = D at *
        cases torn
        · clear HE
          rcases hq with hq | ⟨hq, hq'⟩
          · go_upto_region 7 with fail
            have d0 := hR.cell 0 _ rfl
            have d1 := hR.cell 1 _ rfl
            have f0 := hR.frozen 0 (by simp)
            have f1 := hR.frozen 1 (by simp)
            have y0 := hC.cell 0 _ rfl
            have y1 := hC.cell 1 _ rfl
            have p1 := hR.put [.slice (some ⟨g, 0, none⟩) 4 cap, .slice (some ⟨d, 0, none⟩) 6 dcap] rfl
            have kz := kept_cells wr (w.heap.size + 1) 0 [.slice (some ⟨g, 0, none⟩) 4 cap, .slice (some ⟨d, 0, none⟩) 6 dcap]
            have SZ := hS.kept kz (fun y hy => by have := (hall y hy).2; simp; omega)
            have KZ : Kept (d :: g :: G) w (wr.setCells (w.heap.size + 1) 0 [.slice (some ⟨g, 0, none⟩) 4 cap, .slice (some ⟨d, 0, none⟩) 6 dcap]) := hK.then kz (fun y hy => by simp at hy; subst hy; right; omega)
            go_wp2
            refine bodyPost_ret (res_cell_mid Try.results28 _ _ (w.heap.size + 1) [.slice (some ⟨g, 0, none⟩) 4 cap, .slice (some ⟨d, 0, none⟩) 6 dcap] _ rfl p1.cells Try.underlying59 rfl (by kernel_rfl)) rfl ?_
            exact ⟨rfl, by rw [unhide HB2, unhide HK2]; exact SZ, KZ⟩
          · go_upto_region 7 with fail
            have d0 := hR.cell 0 _ rfl
            have d1 := hR.cell 1 _ rfl
            have f0 := hR.frozen 0 (by simp)
            have f1 := hR.frozen 1 (by simp)
            have y0 := hC.cell 0 _ rfl
            have y1 := hC.cell 1 _ rfl
            have p1 := hR.put [.slice (some ⟨g, 0, none⟩) 4 cap, .slice (some ⟨d, 0, none⟩) 6 dcap] rfl
            have kz := kept_cells wr (w.heap.size + 1) 0 [.slice (some ⟨g, 0, none⟩) 4 cap, .slice (some ⟨d, 0, none⟩) 6 dcap]
            have SZ := hS.kept kz (fun y hy => by have := (hall y hy).2; simp; omega)
            have KZ : Kept (d :: g :: G) w (wr.setCells (w.heap.size + 1) 0 [.slice (some ⟨g, 0, none⟩) 4 cap, .slice (some ⟨d, 0, none⟩) 6 dcap]) := hK.then kz (fun y hy => by simp at hy; subst hy; right; omega)
            go_wp2
            refine bodyPost_ret (res_cell_mid Try.results28 _ _ (w.heap.size + 1) [.slice (some ⟨g, 0, none⟩) 4 cap, .slice (some ⟨d, 0, none⟩) 6 dcap] _ rfl p1.cells Try.underlying59 rfl (by kernel_rfl)) rfl ?_
            exact ⟨rfl, by rw [unhide HB2, unhide HK2]; exact SZ, KZ⟩
        · have hE := unhide HE rfl
          clear HE
          rcases hq with hq | ⟨hq, hq'⟩
          · go_wp2_with fail
            refine (l6In_any cut 0 ((L.length : Int) - 1) wr).mono ?_
            rintro e w2 ⟨rfl, hw⟩
            obtain rfl := hw.symm
            rw [hE]
            have d0 := hR.cell 0 _ rfl
            have d1 := hR.cell 1 _ rfl
            have f0 := hR.frozen 0 (by simp)
            have f1 := hR.frozen 1 (by simp)
            have y0 := hC.cell 0 _ rfl
            have y1 := hC.cell 1 _ rfl
            have p1 := hR.put [.slice (some ⟨g, 0, none⟩) 4 cap, .slice (some ⟨d, 0, none⟩) 6 dcap] rfl
            have kz := kept_cells wr (w.heap.size + 1) 0 [.slice (some ⟨g, 0, none⟩) 4 cap, .slice (some ⟨d, 0, none⟩) 6 dcap]
            have SZ := hS.kept kz (fun y hy => by have := (hall y hy).2; simp; omega)
            have KZ : Kept (d :: g :: G) w (wr.setCells (w.heap.size + 1) 0 [.slice (some ⟨g, 0, none⟩) 4 cap, .slice (some ⟨d, 0, none⟩) 6 dcap]) := hK.then kz (fun y hy => by simp at hy; subst hy; right; omega)
            go_wp2
            refine bodyPost_ret (res_cell_mid Try.results28 _ _ (w.heap.size + 1) [.slice (some ⟨g, 0, none⟩) 4 cap, .slice (some ⟨d, 0, none⟩) 6 dcap] _ rfl p1.cells Try.underlying59 rfl (by kernel_rfl)) rfl ?_
            exact ⟨rfl, by rw [unhide HB2, unhide HK2]; exact SZ, KZ⟩
          · go_wp2_with fail
            refine (l6In_any cut 0 ((L.length : Int) - 1) wr).mono ?_
            rintro e w2 ⟨rfl, hw⟩
            obtain rfl := hw.symm
            rw [hE]
            have d0 := hR.cell 0 _ rfl
            have d1 := hR.cell 1 _ rfl
            have f0 := hR.frozen 0 (by simp)
            have f1 := hR.frozen 1 (by simp)
            have y0 := hC.cell 0 _ rfl
            have y1 := hC.cell 1 _ rfl
            have p1 := hR.put [.slice (some ⟨g, 0, none⟩) 4 cap, .slice (some ⟨d, 0, none⟩) 6 dcap] rfl
            have kz := kept_cells wr (w.heap.size + 1) 0 [.slice (some ⟨g, 0, none⟩) 4 cap, .slice (some ⟨d, 0, none⟩) 6 dcap]
            have SZ := hS.kept kz (fun y hy => by have := (hall y hy).2; simp; omega)
            have KZ : Kept (d :: g :: G) w (wr.setCells (w.heap.size + 1) 0 [.slice (some ⟨g, 0, none⟩) 4 cap, .slice (some ⟨d, 0, none⟩) 6 dcap]) := hK.then kz (fun y hy => by simp at hy; subst hy; right; omega)
            go_wp2
            refine bodyPost_ret (res_cell_mid Try.results28 _ _ (w.heap.size + 1) [.slice (some ⟨g, 0, none⟩) 4 cap, .slice (some ⟨d, 0, none⟩) 6 dcap] _ rfl p1.cells Try.underlying59 rfl (by kernel_rfl)) rfl ?_
            exact ⟨rfl, by rw [unhide HB2, unhide HK2]; exact SZ, KZ⟩
end Go.Proofs.Ytbfklmlniepihaa.ToA
