/-
  Texts that belong together, one behind the other: QuE.
-/
import Derived.Test.YtbiokmojjneleaaGreatRbF
import Derived.Test.YtbiokmojjneleaaGreatHaZ

/-
  The program's StepsTo, at every store, every list of steps, every number and whether it is torn.
-/
namespace Go.Proofs.YtbiokmojjneleaaGreat.QuE
open Go.ChangeShapes Go.WideShapes Go.ChangeAt Go.RowKit Go.Shelf OkA Big Fl ImplB ImplF ImplS _root_.Go.Proofs.YtbiokmojjneleaaGreat.Own ImplT ImplU SpecA SpecB SpecC SpecD SpecW SpecF SpecG SpecH Ok2 Pl FindP SpecX SpecY ImplW ImplX ImplL Kp StA MpA StB StC StD StE StF StG FindL Gd LawU LawS LawV LawI SpS SpT ToA QuA QuB QuC QuD
set_option linter.unusedVariables false
set_option linter.unusedSimpArgs false
attribute [local go_sem ↓] Go.wp_at_zero Go.wp_at_succ

theorem places_ss' : placesOf Tryz.prog (Tryz.prog.underlying 87) = some [(0, 84), (84, 6)] := by kernel_rfl
theorem places_ss (fs : Array Field) (h : Tryz.prog.underlying 87 = some (.struct fs)) : fs.toList.mapM (fun f => (Tryz.prog.info? f.type).map fun i => (f.offset, i.size)) = some [(0, 84), (84, 6)] := by
  have e := places_ss'
  rw [h] at e
  exact e
theorem fill_pair (x y : List Value) (n m : Nat) (hx : x.length = n) (hy : y.length = m) (z : Array Value) (hz : z.size = n + m) (place : Nat → Option (Nat × Nat)) (p0 : place 0 = some (0, n)) (p1 : place 1 = some (n, m)) :
    Instr.fill place z [(0, .agg x.toArray), (1, .agg y.toArray)] = some (x ++ y).toArray := by
  have c0 : (Value.agg x.toArray).cells = x.toArray := rfl
  have c1 : (Value.agg y.toArray).cells = y.toArray := rfl
  rw [fill_step place z 0 _ _ 0 n p0 (by rw [c0, List.size_toArray, hx]) (by omega)]
  rw [fill_step place _ 1 _ _ n m p1 (by rw [c1, List.size_toArray, hy]) (by rw [c0]; simp; omega)]
  rw [c0, c1]
  simp only [Instr.fill]
  congr 2
  simp only [List.take_zero, List.nil_append, Nat.zero_add]
  rw [List.take_append_of_le_length (by omega), List.take_of_length_le (by omega), List.drop_append, List.drop_eq_nil_of_le (by omega), List.nil_append, List.drop_drop, List.drop_eq_nil_of_le (by simp; omega), List.append_nil]
theorem built_ss (ks : List Bk) (dk : List Int) (h4 : ks.length = 4) (hF : Fours ks) (h6 : dk.length = 6) : Tryz.prog.built 87 [(0, .agg (fsC ks).toArray), (1, .agg (isC dk).toArray)] = some (ssC ks dk).toArray := by
  have h : ∀ (place : Nat → Option (Nat × Nat)), place 0 = some (0, 84) → place 1 = some (84, 6) → Instr.fill place zSs.toArray [(0, .agg (fsC ks).toArray), (1, .agg (isC dk).toArray)] = some (ssC ks dk).toArray := fun place p0 p1 =>
    fill_pair (fsC ks) (isC dk) 84 6 (fs84 h4 hF) (by rw [len_isC, h6]) _ (by rw [List.size_toArray, len_zss]) place p0 p1
  have hi : ∃ it, Tryz.prog.info? 87 = some it ∧ it.zero = some (.agg zSs.toArray) := by
    cases hq : Tryz.prog.info? 87 with
    | none => have := zero_ss; rw [hq] at this; cases this
    | some it => have := zero_ss; rw [hq] at this; exact ⟨it, rfl, this⟩
  obtain ⟨it, h1, h2⟩ := hi
  unfold Program.built
  rw [h1, Tryz.underlying87]
  have hp := places_ss _ Tryz.underlying87
  simp only [h2]
  rw [hp]
  exact h _ rfl rfl

/-! Plain lists. -/
theorem len_toD (l : List Stp) : ∀ dk : List Int, (toD dk l).length = dk.length := by
  induction l with
  | nil => intro dk; rfl
  | cons x r ih => intro dk; rw [toD, ih, len_doD]
theorem to_full {bs : List Bk} {dk : List Int} {L : List Stp} {cut : Int} {torn : Bool} (n : Nat) (hn : n ≤ L.length) (hc : (n : Int) ≤ cut) (hd : n = L.length ∨ (cut = (n : Int) ∧ torn = false)) : toB bs L cut torn = toF bs (L.take n) ∧ toK dk L cut torn = toD dk (L.take n) := by
  have hf : fell L cut torn = false := by
    unfold fell
    rcases hd with hd | ⟨_, hd⟩
    · cases torn
      · rfl
      · simp [inB]; omega
    · rw [hd]; rfl
  have ht : L.take cut.toNat = L.take n := by
    rcases hd with hd | ⟨hd, _⟩
    · rw [List.take_of_length_le (by omega), List.take_of_length_le (by omega)]
    · rw [hd]; rfl
  unfold toB toK
  rw [hf, ht]
  exact ⟨rfl, rfl⟩
theorem to_fell {bs : List Bk} {dk : List Int} {L : List Stp} {cut : Int} (n : Nat) (hn : n < L.length) (hc : cut = (n : Int)) : toB bs L cut true = doF (toF bs (L.take n)) L[n] true ∧ toK dk L cut true = doD (toD dk (L.take n)) L[n] true := by
  have hf : fell L cut true = true := by unfold fell; simp [inB]; omega
  have hg : L.getD cut.toNat zSt = L[n] := by rw [hc, Int.toNat_natCast, List.getD_eq_getElem?_getD, List.getElem?_eq_getElem hn]; rfl
  unfold toB toK
  rw [hf, hg, hc]
  exact ⟨rfl, rfl⟩
theorem QAt.tail {w : World} {lo hi : Nat} {a : Option Addr} {L : List Stp} {n : Nat} (h : QAt w lo hi a (L.drop n)) (hn : n < L.length) : ∃ g o v, a = some ⟨g, o, none⟩ ∧ lo ≤ g ∧ g < hi ∧ w.cell? ⟨g, o, none⟩ = some v ∧ DoAt w lo hi L[n] v ∧ QAt w lo hi (some ⟨g, o + 1, none⟩) (L.drop (n + 1)) := by
  have hl : (L.drop n).length = L.length - n := by simp
  rcases h with h | ⟨g, o, rfl, h1, h2, h⟩
  · have := congrArg List.length h; simp at this; omega
  · obtain ⟨v, hv, hd⟩ := h 0 (by omega)
    have e0 : (L.drop n)[0]'(by omega) = L[n] := by simp
    rw [e0] at hd
    refine ⟨g, o, v, rfl, h1, h2, by simpa using hv, hd, .inr ⟨g, o + 1, rfl, h1, h2, fun i hi => ?_⟩⟩
    have hi' : i + 1 < (L.drop n).length := by simp at hi; omega
    obtain ⟨u, hu, hd⟩ := h (i + 1) hi'
    have e1 : (L.drop n)[i + 1] = (L.drop (n + 1))[i] := by simp; congr 1; omega
    rw [e1] at hd
    exact ⟨u, by rw [show o + 1 + i = o + (i + 1) by omega]; exact hu, hd⟩
theorem all_at {L : List Stp} (h : L.all stkB = true) : ∀ x ∈ L, stkB x = true := List.all_eq_true.1 h

/-- Whether StepsTo is true. -/
def toOk (bs : List Bk) (dk : List Int) (L : List Stp) (cut : Int) : Bool := stB bs dk && L.all stkB && decide (0 ≤ cut)
def TpPost (w : World) (bs : List Bk) (dk : List Int) (L : List Stp) (cut : Int) (torn : Bool) (e : Ending) (w' : World) : Prop :=
  (toOk bs dk L cut = false ∧ e = .returned (.tuple #[.agg #[.slice none 0 0, .slice none 0 0], .bool false]) ∧ Below w.heap.size w w') ∨
  (toOk bs dk L cut = true ∧ ∃ g G d c1 c2, e = .returned (.tuple #[.agg #[.slice (some ⟨g, 0, none⟩) 4 c1, .slice (some ⟨d, 0, none⟩) 6 c2], .bool true]) ∧ OwnS w' w.heap.size g G d (toB bs L cut torn) (toK dk L cut torn) ∧ Below w.heap.size w w')

set_option maxRecDepth 100000 in
set_option maxHeartbeats 8000000 in
theorem implTo_any (fa : Option Addr) (fc : Nat) (bs : List Bk) (da : Option Addr) (dc : Nat) (dk : List Int) (sa : Option Addr) (sc : Nat) (L : List Stp) (cut : Int) (hc0 : -9223372036854775808 ≤ cut) (hc1 : cut ≤ 9223372036854775807) (torn : Bool) (w : World) (h : SAt w fa bs da dk) (hL : SsAt w sa L) (hm : bs.length ≤ 9223372036854775807) (hm2 : dk.length ≤ 9223372036854775807) (hlen : L.length ≤ 1048576) :
    Calls Tryz.prog 22 #[.agg #[.slice fa bs.length fc, .slice da dk.length dc], .slice sa L.length sc, .int .i64 cut, .bool torn] w fun e w' => TpPost w bs dk L cut torn e w' := by
  have cS := (store_box w (.slice fa bs.length fc) (.slice da dk.length dc)).alloc (by simp) (.cells #[.slice none 0 0, .slice none 0 0] 26)
  have cR := store_box (w.alloc (.cells #[.slice fa bs.length fc, .slice da dk.length dc] 26)) (.slice none 0 0) (.slice none 0 0)
  rw [World.size_alloc] at cR
  have B0 : Below w.heap.size w ((w.alloc (.cells #[.slice fa bs.length fc, .slice da dk.length dc] 26)).alloc (.cells #[.slice none 0 0, .slice none 0 0] 26)) := ((Below.refl _ _).alloc (Nat.le_refl _) _).alloc (by simp) _
  have s0 : w.heap.size + 2 ≤ ((w.alloc (.cells #[.slice fa bs.length fc, .slice da dk.length dc] 26)).alloc (.cells #[.slice none 0 0, .slice none 0 0] 26)).heap.size := by simp
  have HC := hide (storeOf_any fa fc bs da dc dk _ (h.below B0).fs (h.below B0).ds hm hm2)
  have HLL := hide hL
  have HTO : Hid (toOk bs dk L cut = (stI bs dk && L.all stkB && decide (0 ≤ cut))) := by show _ = _; rw [st_eq]; rfl
  have x0 := cS.cell 0 _ rfl
  have x1 := cS.cell 1 _ rfl
  clear h hL
  go_enter Tryz.func22, Tryz.ntmps22
  go_wp2_with fail
  generalize (w.alloc (.cells #[.slice fa bs.length fc, .slice da dk.length dc] 26)).alloc (.cells #[.slice none 0 0, .slice none 0 0] 26) = w0 at *
  refine (unhide HC).mono ?_
  rintro e w1 ⟨sk, rfl, hs7, hone, hsk, b1, _⟩
  have bA : Below w1.heap.size w1 (w1.alloc (.cells sk.toArray 78)) := (Below.refl _ _).alloc (Nat.le_refl _) _
  have hsz : zSk.toArray.size = sk.toArray.size := by rw [List.size_toArray, List.size_toArray, hs7, len_zsk]
  have q1 := b1.size
  have cK := CsAt.new w1 sk 78
  have cR1 := (cR.below b1 (by omega)).below bA (by omega)
  have B1 := (B0.trans (b1.mono B0.size)).trans (bA.mono (by omega))
  have s1 : w1.heap.size + 1 ≤ (w1.alloc (.cells sk.toArray 78)).heap.size := by simp
  have HLL1 := hide ((unhide HLL).below B1)
  clear cS cR B0 x0 x1 HC HLL b1 bA
  go_wp2_with (first | (refine wpList_alloc_big rfl 78 rfl zSk.toArray zero_sk ?_) | (refine wpList_store_new rfl 78 _ _ rfl w1 zSk.toArray sk.toArray rfl rfl rfl (size7a hs7) hsz (all_oneCell_toArray hone) ?_))
  generalize w1.alloc (.cells sk.toArray 78) = w2 at *
  generalize hKb : w1.heap.size = Kb at *
  refine (queueOf_any sa sc L _ (unhide HLL1) hlen).mono ?_
  rintro e w3 ⟨a, n, cap, rfl, hqu, b3⟩
  have q3 := b3.size
  have bA : Below w3.heap.size w3 (w3.alloc (.cells #[.slice a n cap] 83)) := (Below.refl _ _).alloc (Nat.le_refl _) _
  have cQ := CsAt.new w3 [.slice a n cap] 83
  have cK3 := (cK.below b3 (by omega)).below bA (by omega)
  have cR3 := (cR1.below b3 (by omega)).below bA (by omega)
  have B3 := (B1.trans (b3.mono B1.size)).trans (bA.mono (by omega))
  have s3 : w3.heap.size + 1 ≤ (w3.alloc (.cells #[.slice a n cap] 83)).heap.size := by simp
  have hqu3 : L.all stkB = true → n = L.length ∧ n ≤ cap ∧ QAt (w3.alloc (.cells #[.slice a n cap] 83)) w2.heap.size w3.heap.size a L := fun h => ⟨(hqu h).1, (hqu h).2.1, ((hqu h).2.2).kept (M := []) (Kept.of bA) (Nat.le_refl _) (fun y hy => by simp at hy)⟩
  clear cK cR1 B1 HLL1 b3 bA hqu hKb
  have HFALSE : Hid (toOk bs dk L cut = false → ∀ w', CsAt w' (w.heap.size + 1) [.slice none 0 0, .slice none 0 0] → Below w.heap.size w w' → TpPost w bs dk L cut torn (.returned (.tuple #[.agg #[.slice none 0 0, .slice none 0 0], .bool false])) w') := fun h w' _ hb => .inl ⟨h, rfl, hb⟩
  go_upto_region 3 with fail
  generalize w3.alloc (.cells #[.slice a n cap] 83) = w4 at *
  generalize hQb : w3.heap.size = Qb at *
  have hQK : Kb + 1 ≤ Qb := by omega
  generalize hlo1 : w2.heap.size = lo1 at *
  clear hQb hlo1
  have hRK : w.heap.size + 2 ≤ Kb := by omega
  cases hto : toOk bs dk L cut
  · have r0 := cR3.cell 0 _ rfl
    have r1 := cR3.cell 1 _ rfl
    have f0 := cR3.frozen 0 (by simp)
    have f1 := cR3.frozen 1 (by simp)
    have p1 := cR3.put [.slice none 0 0, .slice none 0 0] rfl
    have BZ := below_setCells (w.heap.size + 1) (show w.heap.size ≤ w.heap.size + 1 by omega) [.slice none 0 0, .slice none 0 0] 0 _ B3
    have HP := hide (unhide HFALSE hto _ p1 BZ)
    have HN : Hid ((stI bs dk && L.all stkB && decide (0 ≤ cut)) = false) := by show _ = _; rw [← unhide HTO]; exact hto
    clear hto HTO HFALSE hqu3 hsk cQ cK3 cR3 B3 BZ
    cases hA1 : stI bs dk
    · go_wp2
      exact bodyPost_ret (res_cell_tmp Tryz.results22 _ _ (w.heap.size + 1) [.slice none 0 0, .slice none 0 0] _ rfl p1.cells Tryz.underlying26 rfl (by kernel_rfl)) rfl (unhide HP)
    · cases hA2 : L.all stkB
      · go_wp2
        exact bodyPost_ret (res_cell_tmp Tryz.results22 _ _ (w.heap.size + 1) [.slice none 0 0, .slice none 0 0] _ rfl p1.cells Tryz.underlying26 rfl (by kernel_rfl)) rfl (unhide HP)
      · have hA3 : cut < 0 := by have := unhide HN; rw [hA1, hA2] at this; simp at this; omega
        go_wp2
        exact bodyPost_ret (res_cell_tmp Tryz.results22 _ _ (w.heap.size + 1) [.slice none 0 0, .slice none 0 0] _ rfl p1.cells Tryz.underlying26 rfl (by kernel_rfl)) rfl (unhide HP)
  have hall := hto
  rw [unhide HTO, Bool.and_eq_true, Bool.and_eq_true] at hall
  obtain ⟨⟨hA1, hA2⟩, hA3⟩ := hall
  have hcut : 0 ≤ cut := by simpa using hA3
  obtain ⟨mb, rfl, hok, hd6, _⟩ := hsk hA1
  obtain ⟨rfl, hcap, hQA⟩ := hqu3 hA2
  have HOK := hide hok
  have HTK := hide hto
  have HALL := hide (all_at hA2)
  have HSTP := hide (fun x hx => stk_stp (all_at hA2 x hx))
  have hk4 := ok_len hok
  have hkF := ok_fours hok
  have hcn : ¬ cut < 0 := by omega
  rw [hA1, hA2]
  clear hA1 hA2 hA3 hto HTO HFALSE hqu3 hsk hok
  have rF := sk_flash cK3.cells
  have rD := sk_diskR hk4 hkF cK3.cells
  have HSF := hide (size_fsl hkF hk4)
  have HSD := hide (size_dk hd6)
  have HBU := hide (built_ss bs dk hk4 hkF hd6)
  have hszS : zSs.toArray.size = (ssC bs dk).toArray.size := by rw [List.size_toArray, List.size_toArray, ss_len hk4 hkF hd6, len_zss]
  have bA : Below w4.heap.size w4 (w4.alloc (.cells (ssC bs dk).toArray 87)) := (Below.refl _ _).alloc (Nat.le_refl _) _
  have cX := CsAt.new w4 (ssC bs dk) 87
  have cQ4 := cQ.below bA (by omega)
  have cR4 := cR3.below bA (by omega)
  have B4 := B3.trans (bA.mono B3.size)
  have hQ4 := hQA.kept (M := []) (Kept.of bA) (by omega) (fun y hy => by simp at hy)
  have s4 : w4.heap.size + 1 ≤ (w4.alloc (.cells (ssC bs dk).toArray 87)).heap.size := by simp
  have hXQ : Qb + 1 ≤ w4.heap.size := s3
  go_upto_region 6 with (first | (refine wpList_load_mid rfl 73 _ rfl Kb 0 rfl (fsC bs) _ rF Tryz.underlying73 rfl (unhide HSF) ?_) | (refine wpList_load_mid rfl 76 _ rfl Kb 85 rfl (isC dk) _ rD Tryz.underlying76 rfl (unhide HSD) ?_) | (refine wpList_build_two rfl 87 _ _ rfl (.agg (fsC bs).toArray) (.agg (isC dk).toArray) rfl rfl (ssC bs dk).toArray (unhide HBU) ?_) | (refine wpList_alloc_big rfl 87 rfl zSs.toArray zero_ss ?_) | (refine wpList_store_new rfl 87 _ _ rfl w4 zSs.toArray (ssC bs dk).toArray rfl rfl rfl (size_ssa hk4 hkF hd6) hszS (one_ss _ _) ?_))
  clear rF rD cQ cR3 cK3 B3 hQA bA
  generalize w4.alloc (.cells (ssC bs dk).toArray 87) = w5 at *
  generalize hXb : w4.heap.size = Xb at *
  clear hXb s3
  have HT0 : Hid (L.take 0 = []) := rfl
  go_loopw [2] (fun c w' => ∃ (n : Nat) (a : Option Addr) (cap : Nat), n ≤ L.length ∧ (n : Int) ≤ cut ∧ c = .int .i64 (cut - (n : Int)) ∧ CsAt w' Qb [.slice a (L.length - n) cap] ∧ L.length - n ≤ cap ∧ Hid (QAt w' lo1 Qb a (L.drop n)) ∧ CsAt w' Xb (ssC (toF bs (L.take n)) (toD dk (L.take n))) ∧ CsAt w' (w.heap.size + 1) [.slice none 0 0, .slice none 0 0] ∧ Xb + 1 ≤ w'.heap.size ∧ Below w.heap.size w w') (fun c _ => (intOf c).toNat)
  case atStart => exact ⟨0, a, cap, by omega, by omega, by first | rfl | simp, cQ4, hcap, hQ4, cX, cR4, s4, B4⟩
  case round =>
    clear cQ4 hcap hQ4 cX cR4 s4 B4 hszS HBU
    obtain ⟨n, a, cap, hn, hnc, rfl, hQ, hcap, HQA, hX, hR, hs, hB⟩ := hrel
    have hokn := hide (okB_toF (L.take n) bs (unhide HOK) (fun x hx => unhide HSTP x (List.mem_of_mem_take hx)))
    have g4 := ok_len (unhide hokn)
    have gF := ok_fours (unhide hokn)
    have g6 : (toD dk (L.take n)).length = 6 := by rw [len_toD]; exact hd6
    have HFU := hide (fun hd => to_full (bs := bs) (dk := dk) (torn := torn) n hn hnc hd)
    have q0 := hQ.cell 0 _ rfl
    have HSO := hide (some_any Qb (L.length - n) cap a wr q0)
    by_cases hz : cut - (n : Int) = 0
    · have hce : cut = (n : Int) := by omega
      have hgt : ¬ (0 : Int) < cut - (n : Int) := by omega
      cases torn
      · have HE := hide (unhide HFU (.inr ⟨hce, rfl⟩))
        clear HFU hz hce
        generalize toF bs (L.take n) = ks at *
        generalize toD dk (L.take n) = ds at *
        have rX := hX.cells
        have HSS := hide (size_ss g4 gF g6)
        go_wp2_with (first | (refine wpList_load_mid rfl 87 _ rfl Xb 0 rfl (ssC ks ds) _ rX Tryz.underlying87 rfl (unhide HSS) ?_))
        refine (store_any ks g4 gF ds g6 _).mono ?_
        rintro e w9 ⟨g9, G9, d9, rfl, o9, b9⟩
        have hR9 := hR.below b9 (by omega)
        have B9 := hB.trans (b9.mono hB.size)
        have r0 := hR9.cell 0 _ rfl
        have r1 := hR9.cell 1 _ rfl
        have f0 := hR9.frozen 0 (by simp)
        have f1 := hR9.frozen 1 (by simp)
        have p1 := hR9.put [.slice (some ⟨g9, 0, none⟩) 4 4, .slice (some ⟨d9, 0, none⟩) 6 6] rfl
        have oz : Only [w.heap.size + 1] w9 (w9.setCells (w.heap.size + 1) 0 [.slice (some ⟨g9, 0, none⟩) 4 4, .slice (some ⟨d9, 0, none⟩) 6 6]) := (Only.refl _ _).setCells (by simp) 0 _
        have SZ := keptS o9 oz (by rw [size_setCells]; exact Nat.le_refl _) (fun x hx => by
          have : wr.heap.size ≤ x := by rcases List.mem_cons.1 hx with rfl | hx; exact o9.dlo; exact o9.own.lo x hx
          simp; omega)
        have BZ := below_setCells (w.heap.size + 1) (show w.heap.size ≤ w.heap.size + 1 by omega) [.slice (some ⟨g9, 0, none⟩) 4 4, .slice (some ⟨d9, 0, none⟩) 6 6] 0 _ B9
        have HP : Hid (TpPost w bs dk L cut _ (.returned (.tuple #[.agg #[.slice (some ⟨g9, 0, none⟩) 4 4, .slice (some ⟨d9, 0, none⟩) 6 6], .bool true])) (w9.setCells (w.heap.size + 1) 0 [.slice (some ⟨g9, 0, none⟩) 4 4, .slice (some ⟨d9, 0, none⟩) 6 6])) := .inr ⟨unhide HTK, g9, G9, d9, 4, 4 + 2, rfl, by rw [(unhide HE).1, (unhide HE).2]; exact SZ.mono (Nat.le_trans hB.size (Nat.le_refl _)), BZ⟩
        clear hR9 B9 SZ oz BZ b9 o9
        go_wp2
        exact bodyPost_ret (res_cell_tmp Tryz.results22 _ _ (w.heap.size + 1) [.slice (some ⟨g9, 0, none⟩) 4 4, .slice (some ⟨d9, 0, none⟩) 6 6] _ rfl p1.cells Tryz.underlying26 rfl (by kernel_rfl)) rfl (unhide HP)
      · by_cases hm0 : n = L.length
        · have HE := hide (unhide HFU (.inl hm0))
          have hd0 : decide (0 < L.length - n) = false := by simp; omega
          rw [hd0] at HSO
          clear HFU hz hce hm0 hd0
          generalize toF bs (L.take n) = ks at *
          generalize toD dk (L.take n) = ds at *
          have rX := hX.cells
          have HSS := hide (size_ss g4 gF g6)
          go_wp2_with (first | (go_at_call 53; refine (unhide HSO).mono ?_; rintro e w' ⟨rfl, hw'⟩; obtain rfl := hw'.symm) | (refine wpList_load_mid rfl 87 _ rfl Xb 0 rfl (ssC ks ds) _ rX Tryz.underlying87 rfl (unhide HSS) ?_))
          refine (store_any ks g4 gF ds g6 _).mono ?_
          rintro e w9 ⟨g9, G9, d9, rfl, o9, b9⟩
          have hR9 := hR.below b9 (by omega)
          have B9 := hB.trans (b9.mono hB.size)
          have r0 := hR9.cell 0 _ rfl
          have r1 := hR9.cell 1 _ rfl
          have f0 := hR9.frozen 0 (by simp)
          have f1 := hR9.frozen 1 (by simp)
          have p1 := hR9.put [.slice (some ⟨g9, 0, none⟩) 4 4, .slice (some ⟨d9, 0, none⟩) 6 6] rfl
          have oz : Only [w.heap.size + 1] w9 (w9.setCells (w.heap.size + 1) 0 [.slice (some ⟨g9, 0, none⟩) 4 4, .slice (some ⟨d9, 0, none⟩) 6 6]) := (Only.refl _ _).setCells (by simp) 0 _
          have SZ := keptS o9 oz (by rw [size_setCells]; exact Nat.le_refl _) (fun x hx => by
            have : wr.heap.size ≤ x := by rcases List.mem_cons.1 hx with rfl | hx; exact o9.dlo; exact o9.own.lo x hx
            simp; omega)
          have BZ := below_setCells (w.heap.size + 1) (show w.heap.size ≤ w.heap.size + 1 by omega) [.slice (some ⟨g9, 0, none⟩) 4 4, .slice (some ⟨d9, 0, none⟩) 6 6] 0 _ B9
          have HP : Hid (TpPost w bs dk L cut _ (.returned (.tuple #[.agg #[.slice (some ⟨g9, 0, none⟩) 4 4, .slice (some ⟨d9, 0, none⟩) 6 6], .bool true])) (w9.setCells (w.heap.size + 1) 0 [.slice (some ⟨g9, 0, none⟩) 4 4, .slice (some ⟨d9, 0, none⟩) 6 6])) := .inr ⟨unhide HTK, g9, G9, d9, 4, 4 + 2, rfl, by rw [(unhide HE).1, (unhide HE).2]; exact SZ.mono (Nat.le_trans hB.size (Nat.le_refl _)), BZ⟩
          clear hR9 B9 SZ oz BZ b9 o9
          go_wp2
          exact bodyPost_ret (res_cell_tmp Tryz.results22 _ _ (w.heap.size + 1) [.slice (some ⟨g9, 0, none⟩) 4 4, .slice (some ⟨d9, 0, none⟩) 6 6] _ rfl p1.cells Tryz.underlying26 rfl (by kernel_rfl)) rfl (unhide HP)
        · have hnl : n < L.length := by omega
          have HE := hide (to_fell (bs := bs) (dk := dk) n hnl hce)
          have hd0 : decide (0 < L.length - n) = true := by simp; omega
          rw [hd0] at HSO
          obtain ⟨g, o, v, rfl, hg0, hg1, hv, hdo, _⟩ := QAt.tail (unhide HQA) hnl
          have hstk := hide (unhide HALL L[n] (List.getElem_mem hnl))
          have hokd := hide (okB_doF _ L[n] true (unhide hokn) (stk_stp (unhide hstk)))
          generalize L[n] = x at *
          generalize toF bs (L.take n) = ks at *
          generalize toD dk (L.take n) = ds at *
          clear HFU hz hce hm0 hd0
          obtain ⟨ff, fcp, rfl⟩ := hdo.func
          have fQ := hQ.frozen 0 (by simp)
          have qc : wr.cell? ⟨Qb, 0, none⟩ = some (.slice (some ⟨g, o, none⟩) (L.length - n - 1 + 1) cap) := by rw [show L.length - n - 1 + 1 = L.length - n by omega]; exact q0
          have HTA := hide (fun (w' : World) (h1 : w'.cell? ⟨Qb, 0, none⟩ = some (.slice (some ⟨g, o, none⟩) (L.length - n - 1 + 1) cap)) (h2 : w'.frozen? ⟨Qb, 0, none⟩ = false) (h3 : w'.cell? ⟨g, o, none⟩ = some (.func ff #[] fcp)) => take_any Qb g o (L.length - n - 1) cap ff fcp w' h1 h2 (by omega) h3)
          have HSS := hide (size_ss g4 gF g6)
          have h4d := ok_len (unhide hokd)
          have hFd := ok_fours (unhide hokd)
          have g6d : (doD ds x true).length = 6 := by rw [len_doD]; exact g6
          go_wp2_with (go_at_call 53; refine (unhide HSO).mono ?_; rintro e w' ⟨rfl, hw'⟩; obtain rfl := hw'.symm)
          refine wp_region_noPanic ?_
          refine wp_region_held_drew (S := fun w' => CsAt w' (w.heap.size + 1) [.slice none 0 0, .slice none 0 0] ∧ Xb + 1 ≤ w'.heap.size) (by kernel_rfl) (⟨⟨fun j v hv => hR.cells j v hv, fun j hj => hR.free j hj⟩, hs⟩) (fun hHeld => ?_)
          have hQd : CsAt wr.drew Qb [.slice (some ⟨g, o, none⟩) (L.length - n) cap] := ⟨fun j v hv => hQ.cells j v hv, fun j hj => hQ.free j hj⟩
          have hXd : CsAt wr.drew Xb (ssC ks ds) := ⟨fun j v hv => hX.cells j v hv, fun j hj => hX.free j hj⟩
          have hBd := hB.drew
          have hqd : wr.drew.cell? ⟨Qb, 0, none⟩ = some (.slice (some ⟨g, o, none⟩) (L.length - n - 1 + 1) cap) := qc
          have hfd : wr.drew.frozen? ⟨Qb, 0, none⟩ = false := fQ
          have hvd : wr.drew.cell? ⟨g, o, none⟩ = some (.func ff #[] fcp) := hv
          have hdd : DoAt wr.drew lo1 Qb x (.func ff #[] fcp) := hdo.kept (L := []) (Kept.of ((Below.refl _ _).drew)) (by omega) (fun y hy => by simp at hy)
          have hsd : Xb + 1 ≤ wr.drew.heap.size := hs
          clear hQ hX hR hB hs q0 qc fQ hv hdo HSO HQA
          generalize wr.drew = w6 at *
          refine twoL 0 1 rfl rfl (by kernel_rfl) rfl rfl (fun K hK => ?_) (fun K hK => ?_)
          · go_simp
            refine (unhide HTA _ hqd hfd hvd).mono ?_
            rintro e wT ⟨a', rfl, hwT, ha'⟩
            have kT : Kept [Qb] w6 wT := by rw [hwT]; exact keptC w6 Qb 0 [.slice a' (L.length - n - 1) (cap - 1)]
            have sT : w6.heap.size ≤ wT.heap.size := kT.size
            have hQT : CsAt wT Qb [.slice a' (L.length - n - 1) (cap - 1)] := by rw [hwT]; exact hQd.put [.slice a' (L.length - n - 1) (cap - 1)] rfl
            have hXT : CsAt wT Xb (ssC ks ds) := by rw [hwT]; exact hXd.other (show Xb ≠ Qb by omega) 0 [.slice a' (L.length - n - 1) (cap - 1)]
            have BT : Below w.heap.size w wT := by rw [hwT]; exact below_setCells Qb (show w.heap.size ≤ Qb by omega) [.slice a' (L.length - n - 1) (cap - 1)] 0 _ hBd
            have dT : DoAt wT lo1 Qb x (.func ff #[] fcp) := hdd.kept kT (by omega) (fun y hy => by simp at hy; subst hy; exact .inr (Nat.le_refl _))
            have hRT : CsAt wT (w.heap.size + 1) [.slice none 0 0, .slice none 0 0] := by rw [hwT]; exact hHeld.1.other (show w.heap.size + 1 ≠ Qb by omega) 0 [.slice a' (L.length - n - 1) (cap - 1)]
            clear hwT
            go_wp2_with fail
            refine hK.out _ _ ⟨hRT, by omega⟩ (fun _ => ?_)
            clear hK K kT hQd hXd hBd hdd hqd hfd hvd hHeld
            try simp only [Act.put, List.setIfInBounds_toArray, List.set_cons_zero, List.set_cons_succ]
            refine oneL 1 rfl (by kernel_rfl) rfl (fun K hK => ?_)
            refine wp_load_mid 87 _ rfl Xb 0 rfl (ssC ks ds) _ hXT.cells Tryz.underlying87 rfl (unhide HSS) ?_
            refine hK.out _ _ ⟨hRT, by omega⟩ (fun _ => ?_)
            clear hK K
            try simp only [Act.put, List.setIfInBounds_toArray, List.set_cons_zero, List.set_cons_succ]
            refine oneL 2 rfl (by kernel_rfl) rfl (fun K hK => ?_)
            refine wp_do _ _ true _ rfl lo1 Qb x (.func ff #[] fcp) ks ds rfl rfl dT (unhide hstk) (unhide hokn) g6 ?_
            intro w8 b8
            have hR8 := hRT.below b8 (by omega)
            have hX8 := hXT.below b8 (by omega)
            have hQ8 := hQT.below b8 (by omega)
            have B8 := BT.trans (b8.mono BT.size)
            have s8 := b8.size
            refine hK.out _ _ ⟨hR8, by omega⟩ (fun _ => ?_)
            clear hK K hRT hXT hQT BT dT b8
            try simp only [Act.put, List.setIfInBounds_toArray, List.set_cons_zero, List.set_cons_succ]
            have tX : w8.there Xb 0 (ssC (doF ks x true) (doD ds x true)).toArray.size := by rw [show (ssC (doF ks x true) (doD ds x true)).toArray.size = 90 by rw [List.size_toArray, ss_len h4d hFd g6d]]; have := hX8.free; rwa [ss_len g4 gF g6] at this
            have kX := keptC w8 Xb 0 (ssC (doF ks x true) (doD ds x true))
            have hX9 := hX8.put (ssC (doF ks x true) (doD ds x true)) (by rw [ss_len h4d hFd g6d, ss_len g4 gF g6])
            have hR9 := hR8.other (show w.heap.size + 1 ≠ Xb by omega) 0 (ssC (doF ks x true) (doD ds x true))
            have hQ9 := hQ8.other (show Qb ≠ Xb by omega) 0 (ssC (doF ks x true) (doD ds x true))
            have B9 := below_setCells Xb (show w.heap.size ≤ Xb by omega) (ssC (doF ks x true) (doD ds x true)) 0 _ B8
            have s9 : (w8.setCells Xb 0 (ssC (doF ks x true) (doD ds x true))).heap.size = w8.heap.size := size_setCells _ _ _ _
            refine oneL 3 rfl (by kernel_rfl) rfl (fun K hK => ?_)
            refine wp_store_mid 87 _ _ rfl Xb 0 (ssC (doF ks x true) (doD ds x true)).toArray rfl rfl tX (size_ssa h4d hFd g6d) (one_ss _ _) ?_
            refine hK.out _ _ ⟨hR9, by rw [s9]; omega⟩ (fun _ => ?_)
            clear hK K kX tX hX8 hR8 hQ8 B8
            try simp only [Act.put, List.setIfInBounds_toArray, List.set_cons_zero, List.set_cons_succ]
            refine wpAnyH_done (by kernel_rfl) ?_ _
            refine NoPanic.normal ?_
            have s9' : Xb + 1 ≤ (w8.setCells Xb 0 (ssC (doF ks x true) (doD ds x true))).heap.size := by rw [s9]; omega
            clear s9
            generalize w8.setCells Xb 0 (ssC (doF ks x true) (doD ds x true)) = w7 at *
            generalize doF ks x true = ks' at *
            generalize doD ds x true = ds' at *
            have rX := hX9.cells
            have HS9 := hide (size_ss h4d hFd g6d)
            go_wp2_with (refine wpList_load_mid rfl 87 _ rfl Xb 0 rfl (ssC ks' ds') _ rX Tryz.underlying87 rfl (unhide HS9) ?_)
            refine (store_any ks' h4d hFd ds' g6d _).mono ?_
            rintro e w9 ⟨g9, G9, d9, rfl, o9, bz9⟩
            have hRz := hR9.below bz9 (by omega)
            have Bz9 := B9.trans (bz9.mono B9.size)
            have r0 := hRz.cell 0 _ rfl
            have r1 := hRz.cell 1 _ rfl
            have f0 := hRz.frozen 0 (by simp)
            have f1 := hRz.frozen 1 (by simp)
            have p1 := hRz.put [.slice (some ⟨g9, 0, none⟩) 4 4, .slice (some ⟨d9, 0, none⟩) 6 6] rfl
            have oz : Only [w.heap.size + 1] w9 (w9.setCells (w.heap.size + 1) 0 [.slice (some ⟨g9, 0, none⟩) 4 4, .slice (some ⟨d9, 0, none⟩) 6 6]) := (Only.refl _ _).setCells (by simp) 0 _
            have SZ := keptS o9 oz (by rw [size_setCells]; exact Nat.le_refl _) (fun x hx => by
              have : w7.heap.size ≤ x := by rcases List.mem_cons.1 hx with rfl | hx; exact o9.dlo; exact o9.own.lo x hx
              simp; omega)
            have BZ := below_setCells (w.heap.size + 1) (show w.heap.size ≤ w.heap.size + 1 by omega) [.slice (some ⟨g9, 0, none⟩) 4 4, .slice (some ⟨d9, 0, none⟩) 6 6] 0 _ Bz9
            have HP : Hid (TpPost w bs dk L cut _ (.returned (.tuple #[.agg #[.slice (some ⟨g9, 0, none⟩) 4 4, .slice (some ⟨d9, 0, none⟩) 6 6], .bool true])) (w9.setCells (w.heap.size + 1) 0 [.slice (some ⟨g9, 0, none⟩) 4 4, .slice (some ⟨d9, 0, none⟩) 6 6])) := .inr ⟨unhide HTK, g9, G9, d9, 4, 4 + 2, rfl, by rw [(unhide HE).1, (unhide HE).2]; exact SZ.mono (Nat.le_trans B9.size (Nat.le_refl _)), BZ⟩
            clear hRz Bz9 SZ oz BZ bz9 o9
            go_wp2
            exact bodyPost_ret (res_cell_tmp Tryz.results22 _ _ (w.heap.size + 1) [.slice (some ⟨g9, 0, none⟩) 4 4, .slice (some ⟨d9, 0, none⟩) 6 6] _ rfl p1.cells Tryz.underlying26 rfl (by kernel_rfl)) rfl (unhide HP)
          · refine wp_load_mid 87 _ rfl Xb 0 rfl (ssC ks ds) _ hXd.cells Tryz.underlying87 rfl (unhide HSS) ?_
            refine hK.out _ _ hHeld (fun _ => ?_)
            clear hK K
            try simp only [Act.put, List.setIfInBounds_toArray, List.set_cons_zero, List.set_cons_succ]
            refine oneL 0 rfl (by kernel_rfl) rfl (fun K hK => ?_)
            go_simp
            refine (unhide HTA _ hqd hfd hvd).mono ?_
            rintro e wT ⟨a', rfl, hwT, ha'⟩
            have kT : Kept [Qb] w6 wT := by rw [hwT]; exact keptC w6 Qb 0 [.slice a' (L.length - n - 1) (cap - 1)]
            have sT : w6.heap.size ≤ wT.heap.size := kT.size
            have hQT : CsAt wT Qb [.slice a' (L.length - n - 1) (cap - 1)] := by rw [hwT]; exact hQd.put [.slice a' (L.length - n - 1) (cap - 1)] rfl
            have hXT : CsAt wT Xb (ssC ks ds) := by rw [hwT]; exact hXd.other (show Xb ≠ Qb by omega) 0 [.slice a' (L.length - n - 1) (cap - 1)]
            have BT : Below w.heap.size w wT := by rw [hwT]; exact below_setCells Qb (show w.heap.size ≤ Qb by omega) [.slice a' (L.length - n - 1) (cap - 1)] 0 _ hBd
            have dT : DoAt wT lo1 Qb x (.func ff #[] fcp) := hdd.kept kT (by omega) (fun y hy => by simp at hy; subst hy; exact .inr (Nat.le_refl _))
            have hRT : CsAt wT (w.heap.size + 1) [.slice none 0 0, .slice none 0 0] := by rw [hwT]; exact hHeld.1.other (show w.heap.size + 1 ≠ Qb by omega) 0 [.slice a' (L.length - n - 1) (cap - 1)]
            clear hwT
            go_wp2_with fail
            refine hK.out _ _ ⟨hRT, by omega⟩ (fun _ => ?_)
            clear hK K kT hQd hXd hBd hdd hqd hfd hvd hHeld
            try simp only [Act.put, List.setIfInBounds_toArray, List.set_cons_zero, List.set_cons_succ]
            refine oneL 2 rfl (by kernel_rfl) rfl (fun K hK => ?_)
            refine wp_do _ _ true _ rfl lo1 Qb x (.func ff #[] fcp) ks ds rfl rfl dT (unhide hstk) (unhide hokn) g6 ?_
            intro w8 b8
            have hR8 := hRT.below b8 (by omega)
            have hX8 := hXT.below b8 (by omega)
            have hQ8 := hQT.below b8 (by omega)
            have B8 := BT.trans (b8.mono BT.size)
            have s8 := b8.size
            refine hK.out _ _ ⟨hR8, by omega⟩ (fun _ => ?_)
            clear hK K hRT hXT hQT BT dT b8
            try simp only [Act.put, List.setIfInBounds_toArray, List.set_cons_zero, List.set_cons_succ]
            have tX : w8.there Xb 0 (ssC (doF ks x true) (doD ds x true)).toArray.size := by rw [show (ssC (doF ks x true) (doD ds x true)).toArray.size = 90 by rw [List.size_toArray, ss_len h4d hFd g6d]]; have := hX8.free; rwa [ss_len g4 gF g6] at this
            have kX := keptC w8 Xb 0 (ssC (doF ks x true) (doD ds x true))
            have hX9 := hX8.put (ssC (doF ks x true) (doD ds x true)) (by rw [ss_len h4d hFd g6d, ss_len g4 gF g6])
            have hR9 := hR8.other (show w.heap.size + 1 ≠ Xb by omega) 0 (ssC (doF ks x true) (doD ds x true))
            have hQ9 := hQ8.other (show Qb ≠ Xb by omega) 0 (ssC (doF ks x true) (doD ds x true))
            have B9 := below_setCells Xb (show w.heap.size ≤ Xb by omega) (ssC (doF ks x true) (doD ds x true)) 0 _ B8
            have s9 : (w8.setCells Xb 0 (ssC (doF ks x true) (doD ds x true))).heap.size = w8.heap.size := size_setCells _ _ _ _
            refine oneL 3 rfl (by kernel_rfl) rfl (fun K hK => ?_)
            refine wp_store_mid 87 _ _ rfl Xb 0 (ssC (doF ks x true) (doD ds x true)).toArray rfl rfl tX (size_ssa h4d hFd g6d) (one_ss _ _) ?_
            refine hK.out _ _ ⟨hR9, by rw [s9]; omega⟩ (fun _ => ?_)
            clear hK K kX tX hX8 hR8 hQ8 B8
            try simp only [Act.put, List.setIfInBounds_toArray, List.set_cons_zero, List.set_cons_succ]
            refine wpAnyH_done (by kernel_rfl) ?_ _
            refine NoPanic.normal ?_
            have s9' : Xb + 1 ≤ (w8.setCells Xb 0 (ssC (doF ks x true) (doD ds x true))).heap.size := by rw [s9]; omega
            clear s9
            generalize w8.setCells Xb 0 (ssC (doF ks x true) (doD ds x true)) = w7 at *
            generalize doF ks x true = ks' at *
            generalize doD ds x true = ds' at *
            have rX := hX9.cells
            have HS9 := hide (size_ss h4d hFd g6d)
            go_wp2_with (refine wpList_load_mid rfl 87 _ rfl Xb 0 rfl (ssC ks' ds') _ rX Tryz.underlying87 rfl (unhide HS9) ?_)
            refine (store_any ks' h4d hFd ds' g6d _).mono ?_
            rintro e w9 ⟨g9, G9, d9, rfl, o9, bz9⟩
            have hRz := hR9.below bz9 (by omega)
            have Bz9 := B9.trans (bz9.mono B9.size)
            have r0 := hRz.cell 0 _ rfl
            have r1 := hRz.cell 1 _ rfl
            have f0 := hRz.frozen 0 (by simp)
            have f1 := hRz.frozen 1 (by simp)
            have p1 := hRz.put [.slice (some ⟨g9, 0, none⟩) 4 4, .slice (some ⟨d9, 0, none⟩) 6 6] rfl
            have oz : Only [w.heap.size + 1] w9 (w9.setCells (w.heap.size + 1) 0 [.slice (some ⟨g9, 0, none⟩) 4 4, .slice (some ⟨d9, 0, none⟩) 6 6]) := (Only.refl _ _).setCells (by simp) 0 _
            have SZ := keptS o9 oz (by rw [size_setCells]; exact Nat.le_refl _) (fun x hx => by
              have : w7.heap.size ≤ x := by rcases List.mem_cons.1 hx with rfl | hx; exact o9.dlo; exact o9.own.lo x hx
              simp; omega)
            have BZ := below_setCells (w.heap.size + 1) (show w.heap.size ≤ w.heap.size + 1 by omega) [.slice (some ⟨g9, 0, none⟩) 4 4, .slice (some ⟨d9, 0, none⟩) 6 6] 0 _ Bz9
            have HP : Hid (TpPost w bs dk L cut _ (.returned (.tuple #[.agg #[.slice (some ⟨g9, 0, none⟩) 4 4, .slice (some ⟨d9, 0, none⟩) 6 6], .bool true])) (w9.setCells (w.heap.size + 1) 0 [.slice (some ⟨g9, 0, none⟩) 4 4, .slice (some ⟨d9, 0, none⟩) 6 6])) := .inr ⟨unhide HTK, g9, G9, d9, 4, 4 + 2, rfl, by rw [(unhide HE).1, (unhide HE).2]; exact SZ.mono (Nat.le_trans B9.size (Nat.le_refl _)), BZ⟩
            clear hRz Bz9 SZ oz BZ bz9 o9
            go_wp2
            exact bodyPost_ret (res_cell_tmp Tryz.results22 _ _ (w.heap.size + 1) [.slice (some ⟨g9, 0, none⟩) 4 4, .slice (some ⟨d9, 0, none⟩) 6 6] _ rfl p1.cells Tryz.underlying26 rfl (by kernel_rfl)) rfl (unhide HP)
    · have hgt : (0 : Int) < cut - (n : Int) := by omega
      by_cases hm0 : n = L.length
      · have HE := hide (unhide HFU (.inl hm0))
        have hd0 : decide (0 < L.length - n) = false := by simp; omega
        rw [hd0] at HSO
        clear HFU hz hm0 hd0
        generalize toF bs (L.take n) = ks at *
        generalize toD dk (L.take n) = ds at *
        cases torn
        · have rX := hX.cells
          have HSS := hide (size_ss g4 gF g6)
          go_wp2_with (first | (go_at_call 53; refine (unhide HSO).mono ?_; rintro e w' ⟨rfl, hw'⟩; obtain rfl := hw'.symm) | (refine wpList_load_mid rfl 87 _ rfl Xb 0 rfl (ssC ks ds) _ rX Tryz.underlying87 rfl (unhide HSS) ?_))
          refine (store_any ks g4 gF ds g6 _).mono ?_
          rintro e w9 ⟨g9, G9, d9, rfl, o9, b9⟩
          have hR9 := hR.below b9 (by omega)
          have B9 := hB.trans (b9.mono hB.size)
          have r0 := hR9.cell 0 _ rfl
          have r1 := hR9.cell 1 _ rfl
          have f0 := hR9.frozen 0 (by simp)
          have f1 := hR9.frozen 1 (by simp)
          have p1 := hR9.put [.slice (some ⟨g9, 0, none⟩) 4 4, .slice (some ⟨d9, 0, none⟩) 6 6] rfl
          have oz : Only [w.heap.size + 1] w9 (w9.setCells (w.heap.size + 1) 0 [.slice (some ⟨g9, 0, none⟩) 4 4, .slice (some ⟨d9, 0, none⟩) 6 6]) := (Only.refl _ _).setCells (by simp) 0 _
          have SZ := keptS o9 oz (by rw [size_setCells]; exact Nat.le_refl _) (fun x hx => by
            have : wr.heap.size ≤ x := by rcases List.mem_cons.1 hx with rfl | hx; exact o9.dlo; exact o9.own.lo x hx
            simp; omega)
          have BZ := below_setCells (w.heap.size + 1) (show w.heap.size ≤ w.heap.size + 1 by omega) [.slice (some ⟨g9, 0, none⟩) 4 4, .slice (some ⟨d9, 0, none⟩) 6 6] 0 _ B9
          have HP : Hid (TpPost w bs dk L cut _ (.returned (.tuple #[.agg #[.slice (some ⟨g9, 0, none⟩) 4 4, .slice (some ⟨d9, 0, none⟩) 6 6], .bool true])) (w9.setCells (w.heap.size + 1) 0 [.slice (some ⟨g9, 0, none⟩) 4 4, .slice (some ⟨d9, 0, none⟩) 6 6])) := .inr ⟨unhide HTK, g9, G9, d9, 4, 4 + 2, rfl, by rw [(unhide HE).1, (unhide HE).2]; exact SZ.mono (Nat.le_trans hB.size (Nat.le_refl _)), BZ⟩
          clear hR9 B9 SZ oz BZ b9 o9
          go_wp2
          exact bodyPost_ret (res_cell_tmp Tryz.results22 _ _ (w.heap.size + 1) [.slice (some ⟨g9, 0, none⟩) 4 4, .slice (some ⟨d9, 0, none⟩) 6 6] _ rfl p1.cells Tryz.underlying26 rfl (by kernel_rfl)) rfl (unhide HP)
        · have rX := hX.cells
          have HSS := hide (size_ss g4 gF g6)
          go_wp2_with (first | (go_at_call 53; refine (unhide HSO).mono ?_; rintro e w' ⟨rfl, hw'⟩; obtain rfl := hw'.symm) | (refine wpList_load_mid rfl 87 _ rfl Xb 0 rfl (ssC ks ds) _ rX Tryz.underlying87 rfl (unhide HSS) ?_))
          refine (store_any ks g4 gF ds g6 _).mono ?_
          rintro e w9 ⟨g9, G9, d9, rfl, o9, b9⟩
          have hR9 := hR.below b9 (by omega)
          have B9 := hB.trans (b9.mono hB.size)
          have r0 := hR9.cell 0 _ rfl
          have r1 := hR9.cell 1 _ rfl
          have f0 := hR9.frozen 0 (by simp)
          have f1 := hR9.frozen 1 (by simp)
          have p1 := hR9.put [.slice (some ⟨g9, 0, none⟩) 4 4, .slice (some ⟨d9, 0, none⟩) 6 6] rfl
          have oz : Only [w.heap.size + 1] w9 (w9.setCells (w.heap.size + 1) 0 [.slice (some ⟨g9, 0, none⟩) 4 4, .slice (some ⟨d9, 0, none⟩) 6 6]) := (Only.refl _ _).setCells (by simp) 0 _
          have SZ := keptS o9 oz (by rw [size_setCells]; exact Nat.le_refl _) (fun x hx => by
            have : wr.heap.size ≤ x := by rcases List.mem_cons.1 hx with rfl | hx; exact o9.dlo; exact o9.own.lo x hx
            simp; omega)
          have BZ := below_setCells (w.heap.size + 1) (show w.heap.size ≤ w.heap.size + 1 by omega) [.slice (some ⟨g9, 0, none⟩) 4 4, .slice (some ⟨d9, 0, none⟩) 6 6] 0 _ B9
          have HP : Hid (TpPost w bs dk L cut _ (.returned (.tuple #[.agg #[.slice (some ⟨g9, 0, none⟩) 4 4, .slice (some ⟨d9, 0, none⟩) 6 6], .bool true])) (w9.setCells (w.heap.size + 1) 0 [.slice (some ⟨g9, 0, none⟩) 4 4, .slice (some ⟨d9, 0, none⟩) 6 6])) := .inr ⟨unhide HTK, g9, G9, d9, 4, 4 + 2, rfl, by rw [(unhide HE).1, (unhide HE).2]; exact SZ.mono (Nat.le_trans hB.size (Nat.le_refl _)), BZ⟩
          clear hR9 B9 SZ oz BZ b9 o9
          go_wp2
          exact bodyPost_ret (res_cell_tmp Tryz.results22 _ _ (w.heap.size + 1) [.slice (some ⟨g9, 0, none⟩) 4 4, .slice (some ⟨d9, 0, none⟩) 6 6] _ rfl p1.cells Tryz.underlying26 rfl (by kernel_rfl)) rfl (unhide HP)
      · have hnl : n < L.length := by omega
        have hd0 : decide (0 < L.length - n) = true := by simp; omega
        rw [hd0] at HSO
        obtain ⟨g, o, v, rfl, hg0, hg1, hv, hdo, hqt⟩ := QAt.tail (unhide HQA) hnl
        have HTF := hide (toF_take bs L n hnl)
        have HTD := hide (toD_take dk L n hnl)
        have hstk := hide (unhide HALL L[n] (List.getElem_mem hnl))
        have hokd := hide (okB_doF _ L[n] false (unhide hokn) (stk_stp (unhide hstk)))
        generalize L[n] = x at *
        generalize toF bs (L.take n) = ks at *
        generalize toD dk (L.take n) = ds at *
        clear HFU hz hm0 hd0
        obtain ⟨ff, fcp, rfl⟩ := hdo.func
        have fQ := hQ.frozen 0 (by simp)
        have qc : wr.cell? ⟨Qb, 0, none⟩ = some (.slice (some ⟨g, o, none⟩) (L.length - n - 1 + 1) cap) := by rw [show L.length - n - 1 + 1 = L.length - n by omega]; exact q0
        have HTA := hide (fun (w' : World) (h1 : w'.cell? ⟨Qb, 0, none⟩ = some (.slice (some ⟨g, o, none⟩) (L.length - n - 1 + 1) cap)) (h2 : w'.frozen? ⟨Qb, 0, none⟩ = false) (h3 : w'.cell? ⟨g, o, none⟩ = some (.func ff #[] fcp)) => take_any Qb g o (L.length - n - 1) cap ff fcp w' h1 h2 (by omega) h3)
        have HSS := hide (size_ss g4 gF g6)
        have h4d := ok_len (unhide hokd)
        have hFd := ok_fours (unhide hokd)
        have g6d : (doD ds x false).length = 6 := by rw [len_doD]; exact g6
        go_wp2_with (go_at_call 53; refine (unhide HSO).mono ?_; rintro e w' ⟨rfl, hw'⟩; obtain rfl := hw'.symm)
        refine wp_region_noPanic ?_
        refine wp_region_held_drew (S := fun w' => CsAt w' (w.heap.size + 1) [.slice none 0 0, .slice none 0 0] ∧ Xb + 1 ≤ w'.heap.size) (by kernel_rfl) (⟨⟨fun j v hv => hR.cells j v hv, fun j hj => hR.free j hj⟩, hs⟩) (fun hHeld => ?_)
        have hQd : CsAt wr.drew Qb [.slice (some ⟨g, o, none⟩) (L.length - n) cap] := ⟨fun j v hv => hQ.cells j v hv, fun j hj => hQ.free j hj⟩
        have hXd : CsAt wr.drew Xb (ssC ks ds) := ⟨fun j v hv => hX.cells j v hv, fun j hj => hX.free j hj⟩
        have hBd := hB.drew
        have hqd : wr.drew.cell? ⟨Qb, 0, none⟩ = some (.slice (some ⟨g, o, none⟩) (L.length - n - 1 + 1) cap) := qc
        have hfd : wr.drew.frozen? ⟨Qb, 0, none⟩ = false := fQ
        have hvd : wr.drew.cell? ⟨g, o, none⟩ = some (.func ff #[] fcp) := hv
        have hdd : DoAt wr.drew lo1 Qb x (.func ff #[] fcp) := hdo.kept (L := []) (Kept.of ((Below.refl _ _).drew)) (by omega) (fun y hy => by simp at hy)
        have hsd : Xb + 1 ≤ wr.drew.heap.size := hs
        have hqtd := hqt.kept (M := []) (Kept.of ((Below.refl wr.heap.size wr).drew)) (by omega) (fun y hy => by simp at hy)
        clear hQ hX hR hB hs q0 qc fQ hv hdo HSO HQA hqt
        generalize wr.drew = w6 at *
        refine twoL 0 1 rfl rfl (by kernel_rfl) rfl rfl (fun K hK => ?_) (fun K hK => ?_)
        · go_simp
          refine (unhide HTA _ hqd hfd hvd).mono ?_
          rintro e wT ⟨a', rfl, hwT, ha'⟩
          have kT : Kept [Qb] w6 wT := by rw [hwT]; exact keptC w6 Qb 0 [.slice a' (L.length - n - 1) (cap - 1)]
          have sT : w6.heap.size ≤ wT.heap.size := kT.size
          have hQT : CsAt wT Qb [.slice a' (L.length - n - 1) (cap - 1)] := by rw [hwT]; exact hQd.put [.slice a' (L.length - n - 1) (cap - 1)] rfl
          have hXT : CsAt wT Xb (ssC ks ds) := by rw [hwT]; exact hXd.other (show Xb ≠ Qb by omega) 0 [.slice a' (L.length - n - 1) (cap - 1)]
          have BT : Below w.heap.size w wT := by rw [hwT]; exact below_setCells Qb (show w.heap.size ≤ Qb by omega) [.slice a' (L.length - n - 1) (cap - 1)] 0 _ hBd
          have dT : DoAt wT lo1 Qb x (.func ff #[] fcp) := hdd.kept kT (by omega) (fun y hy => by simp at hy; subst hy; exact .inr (Nat.le_refl _))
          have hRT : CsAt wT (w.heap.size + 1) [.slice none 0 0, .slice none 0 0] := by rw [hwT]; exact hHeld.1.other (show w.heap.size + 1 ≠ Qb by omega) 0 [.slice a' (L.length - n - 1) (cap - 1)]
          have qT := hqtd.kept kT (by omega) (fun y hy => by simp at hy; subst hy; exact .inr (Nat.le_refl _))
          clear hwT
          go_wp2_with fail
          refine hK.out _ _ ⟨hRT, by omega⟩ (fun _ => ?_)
          clear hK K kT hQd hXd hBd hdd hqd hfd hvd hHeld hqtd
          try simp only [Act.put, List.setIfInBounds_toArray, List.set_cons_zero, List.set_cons_succ]
          refine oneL 1 rfl (by kernel_rfl) rfl (fun K hK => ?_)
          refine wp_load_mid 87 _ rfl Xb 0 rfl (ssC ks ds) _ hXT.cells Tryz.underlying87 rfl (unhide HSS) ?_
          refine hK.out _ _ ⟨hRT, by omega⟩ (fun _ => ?_)
          clear hK K
          try simp only [Act.put, List.setIfInBounds_toArray, List.set_cons_zero, List.set_cons_succ]
          refine oneL 2 rfl (by kernel_rfl) rfl (fun K hK => ?_)
          refine wp_do _ _ false _ rfl lo1 Qb x (.func ff #[] fcp) ks ds rfl rfl dT (unhide hstk) (unhide hokn) g6 ?_
          intro w8 b8
          have hR8 := hRT.below b8 (by omega)
          have hX8 := hXT.below b8 (by omega)
          have hQ8 := hQT.below b8 (by omega)
          have B8 := BT.trans (b8.mono BT.size)
          have s8 := b8.size
          have q8 := qT.kept (M := []) (Kept.of b8) (by omega) (fun y hy => by simp at hy)
          refine hK.out _ _ ⟨hR8, by omega⟩ (fun _ => ?_)
          clear hK K hRT hXT hQT BT dT b8 qT
          try simp only [Act.put, List.setIfInBounds_toArray, List.set_cons_zero, List.set_cons_succ]
          have tX : w8.there Xb 0 (ssC (doF ks x false) (doD ds x false)).toArray.size := by rw [show (ssC (doF ks x false) (doD ds x false)).toArray.size = 90 by rw [List.size_toArray, ss_len h4d hFd g6d]]; have := hX8.free; rwa [ss_len g4 gF g6] at this
          have kX := keptC w8 Xb 0 (ssC (doF ks x false) (doD ds x false))
          have hX9 := hX8.put (ssC (doF ks x false) (doD ds x false)) (by rw [ss_len h4d hFd g6d, ss_len g4 gF g6])
          have hR9 := hR8.other (show w.heap.size + 1 ≠ Xb by omega) 0 (ssC (doF ks x false) (doD ds x false))
          have hQ9 := hQ8.other (show Qb ≠ Xb by omega) 0 (ssC (doF ks x false) (doD ds x false))
          have B9 := below_setCells Xb (show w.heap.size ≤ Xb by omega) (ssC (doF ks x false) (doD ds x false)) 0 _ B8
          have s9 : (w8.setCells Xb 0 (ssC (doF ks x false) (doD ds x false))).heap.size = w8.heap.size := size_setCells _ _ _ _
          have q9 := q8.kept kX (by omega) (fun y hy => by simp at hy; subst hy; exact .inr (by omega))
          refine oneL 3 rfl (by kernel_rfl) rfl (fun K hK => ?_)
          refine wp_store_mid 87 _ _ rfl Xb 0 (ssC (doF ks x false) (doD ds x false)).toArray rfl rfl tX (size_ssa h4d hFd g6d) (one_ss _ _) ?_
          refine hK.out _ _ ⟨hR9, by rw [s9]; omega⟩ (fun _ => ?_)
          clear hK K kX tX hX8 hR8 hQ8 B8 q8
          try simp only [Act.put, List.setIfInBounds_toArray, List.set_cons_zero, List.set_cons_succ]
          refine wpAnyH_done (by kernel_rfl) ?_ _
          refine NoPanic.normal ?_
          have s9' : Xb + 1 ≤ (w8.setCells Xb 0 (ssC (doF ks x false) (doD ds x false))).heap.size := by rw [s9]; omega
          clear s9
          generalize w8.setCells Xb 0 (ssC (doF ks x false) (doD ds x false)) = w7 at *
          have HTF2 : Hid (toF bs (L.take (n + 1)) = doF ks x false) := HTF
          have HTD2 : Hid (toD dk (L.take (n + 1)) = doD ds x false) := HTD
          go_wp2
          go_roundw
          case rel =>
            refine ⟨n + 1, a', cap - 1, by omega, by omega, by first | rfl | (congr 1; omega) | (congr 1; push_cast; omega), ?_, by omega, ?_, ?_, hR9, s9', B9⟩
            · rw [show L.length - (n + 1) = L.length - n - 1 by omega]; exact hQ9
            · show QAt w7 lo1 Qb a' (L.drop (n + 1))
              by_cases hl : L.length - n - 1 = 0
              · exact .inl (List.eq_nil_of_length_eq_zero (by simp; omega))
              · rw [ha' (by omega)]; exact q9
            · rw [unhide HTF2, unhide HTD2]; exact hX9
          case measure => simp [intOf]; omega
        · refine wp_load_mid 87 _ rfl Xb 0 rfl (ssC ks ds) _ hXd.cells Tryz.underlying87 rfl (unhide HSS) ?_
          refine hK.out _ _ hHeld (fun _ => ?_)
          clear hK K
          try simp only [Act.put, List.setIfInBounds_toArray, List.set_cons_zero, List.set_cons_succ]
          refine oneL 0 rfl (by kernel_rfl) rfl (fun K hK => ?_)
          go_simp
          refine (unhide HTA _ hqd hfd hvd).mono ?_
          rintro e wT ⟨a', rfl, hwT, ha'⟩
          have kT : Kept [Qb] w6 wT := by rw [hwT]; exact keptC w6 Qb 0 [.slice a' (L.length - n - 1) (cap - 1)]
          have sT : w6.heap.size ≤ wT.heap.size := kT.size
          have hQT : CsAt wT Qb [.slice a' (L.length - n - 1) (cap - 1)] := by rw [hwT]; exact hQd.put [.slice a' (L.length - n - 1) (cap - 1)] rfl
          have hXT : CsAt wT Xb (ssC ks ds) := by rw [hwT]; exact hXd.other (show Xb ≠ Qb by omega) 0 [.slice a' (L.length - n - 1) (cap - 1)]
          have BT : Below w.heap.size w wT := by rw [hwT]; exact below_setCells Qb (show w.heap.size ≤ Qb by omega) [.slice a' (L.length - n - 1) (cap - 1)] 0 _ hBd
          have dT : DoAt wT lo1 Qb x (.func ff #[] fcp) := hdd.kept kT (by omega) (fun y hy => by simp at hy; subst hy; exact .inr (Nat.le_refl _))
          have hRT : CsAt wT (w.heap.size + 1) [.slice none 0 0, .slice none 0 0] := by rw [hwT]; exact hHeld.1.other (show w.heap.size + 1 ≠ Qb by omega) 0 [.slice a' (L.length - n - 1) (cap - 1)]
          have qT := hqtd.kept kT (by omega) (fun y hy => by simp at hy; subst hy; exact .inr (Nat.le_refl _))
          clear hwT
          go_wp2_with fail
          refine hK.out _ _ ⟨hRT, by omega⟩ (fun _ => ?_)
          clear hK K kT hQd hXd hBd hdd hqd hfd hvd hHeld hqtd
          try simp only [Act.put, List.setIfInBounds_toArray, List.set_cons_zero, List.set_cons_succ]
          refine oneL 2 rfl (by kernel_rfl) rfl (fun K hK => ?_)
          refine wp_do _ _ false _ rfl lo1 Qb x (.func ff #[] fcp) ks ds rfl rfl dT (unhide hstk) (unhide hokn) g6 ?_
          intro w8 b8
          have hR8 := hRT.below b8 (by omega)
          have hX8 := hXT.below b8 (by omega)
          have hQ8 := hQT.below b8 (by omega)
          have B8 := BT.trans (b8.mono BT.size)
          have s8 := b8.size
          have q8 := qT.kept (M := []) (Kept.of b8) (by omega) (fun y hy => by simp at hy)
          refine hK.out _ _ ⟨hR8, by omega⟩ (fun _ => ?_)
          clear hK K hRT hXT hQT BT dT b8 qT
          try simp only [Act.put, List.setIfInBounds_toArray, List.set_cons_zero, List.set_cons_succ]
          have tX : w8.there Xb 0 (ssC (doF ks x false) (doD ds x false)).toArray.size := by rw [show (ssC (doF ks x false) (doD ds x false)).toArray.size = 90 by rw [List.size_toArray, ss_len h4d hFd g6d]]; have := hX8.free; rwa [ss_len g4 gF g6] at this
          have kX := keptC w8 Xb 0 (ssC (doF ks x false) (doD ds x false))
          have hX9 := hX8.put (ssC (doF ks x false) (doD ds x false)) (by rw [ss_len h4d hFd g6d, ss_len g4 gF g6])
          have hR9 := hR8.other (show w.heap.size + 1 ≠ Xb by omega) 0 (ssC (doF ks x false) (doD ds x false))
          have hQ9 := hQ8.other (show Qb ≠ Xb by omega) 0 (ssC (doF ks x false) (doD ds x false))
          have B9 := below_setCells Xb (show w.heap.size ≤ Xb by omega) (ssC (doF ks x false) (doD ds x false)) 0 _ B8
          have s9 : (w8.setCells Xb 0 (ssC (doF ks x false) (doD ds x false))).heap.size = w8.heap.size := size_setCells _ _ _ _
          have q9 := q8.kept kX (by omega) (fun y hy => by simp at hy; subst hy; exact .inr (by omega))
          refine oneL 3 rfl (by kernel_rfl) rfl (fun K hK => ?_)
          refine wp_store_mid 87 _ _ rfl Xb 0 (ssC (doF ks x false) (doD ds x false)).toArray rfl rfl tX (size_ssa h4d hFd g6d) (one_ss _ _) ?_
          refine hK.out _ _ ⟨hR9, by rw [s9]; omega⟩ (fun _ => ?_)
          clear hK K kX tX hX8 hR8 hQ8 B8 q8
          try simp only [Act.put, List.setIfInBounds_toArray, List.set_cons_zero, List.set_cons_succ]
          refine wpAnyH_done (by kernel_rfl) ?_ _
          refine NoPanic.normal ?_
          have s9' : Xb + 1 ≤ (w8.setCells Xb 0 (ssC (doF ks x false) (doD ds x false))).heap.size := by rw [s9]; omega
          clear s9
          generalize w8.setCells Xb 0 (ssC (doF ks x false) (doD ds x false)) = w7 at *
          have HTF2 : Hid (toF bs (L.take (n + 1)) = doF ks x false) := HTF
          have HTD2 : Hid (toD dk (L.take (n + 1)) = doD ds x false) := HTD
          go_wp2
          go_roundw
          case rel =>
            refine ⟨n + 1, a', cap - 1, by omega, by omega, by first | rfl | (congr 1; omega) | (congr 1; push_cast; omega), ?_, by omega, ?_, ?_, hR9, s9', B9⟩
            · rw [show L.length - (n + 1) = L.length - n - 1 by omega]; exact hQ9
            · show QAt w7 lo1 Qb a' (L.drop (n + 1))
              by_cases hl : L.length - n - 1 = 0
              · exact .inl (List.eq_nil_of_length_eq_zero (by simp; omega))
              · rw [ha' (by omega)]; exact q9
            · rw [unhide HTF2, unhide HTD2]; exact hX9
          case measure => simp [intOf]; omega
end Go.Proofs.YtbiokmojjneleaaGreat.QuE
