/-
  Texts that belong together, one behind the other: FindN, FindD.
-/
import Derived.Test.YtkikeapfjpnkgaaBaP
import Derived.Test.YtkikeapfjpnkgaaBaI

/-
  FindNext, of the program and of the specification: both answer the same.
-/
namespace Go.Proofs.Ytkikeapfjpnkgaa.FindN
open Go.ChangeShapes Go.WideShapes Go.ChangeAt Go.RowKit Go.Shelf OkA Big Fl ImplB ImplF ImplS _root_.Go.Proofs.Ytkikeapfjpnkgaa.Own ImplT ImplU SpecA SpecB SpecC SpecD SpecW SpecF SpecG SpecH Ok2 Pl FindP ImplO SpecX ImplL ImplN ImplM
set_option linter.unusedVariables false
set_option linter.unusedSimpArgs false
attribute [local go_sem ↓] Go.wp_at_zero Go.wp_at_succ

def grL (l : List Sp) : Int := l.foldl (fun m x => mx m x.2) 0
theorem grL_take (l : List Sp) (j : Nat) (hj : j < l.length) : grL (l.take (j + 1)) = mx (grL (l.take j)) l[j].2 := by
  unfold grL
  rw [List.take_succ_eq_append_getElem hj, List.foldl_append]; rfl
theorem gr_most (bs : List Bk) (h : ∀ b ∈ bs, ∀ p ∈ b.ps, pgB p = true) : grL (bs.map spB) = mostB bs := by
  unfold grL mostB
  rw [List.foldl_map]
  have : ∀ (l : List Bk) (m : Int), (∀ b ∈ l, ∀ p ∈ b.ps, pgB p = true) → l.foldl (fun m b => mx m (spB b).2) m = l.foldl (fun m b => mx m (mostN b.ps)) m := by
    intro l
    induction l with
    | nil => intro m _; rfl
    | cons b r ih =>
      intro m hb
      rw [List.foldl_cons, List.foldl_cons, (spB_eq (hb b (by simp))).1]
      exact ih _ fun x hx => hb x (by simp [hx])
  exact this bs 0 h
theorem mostN_le (ps : List Pg) (h : ∀ p ∈ ps, pgB p = true) : 0 ≤ mostN ps ∧ mostN ps ≤ 600 := by
  have : ∀ (l : List Pg) (m : Int), 0 ≤ m → m ≤ 600 → (∀ p ∈ l, pgB p = true) → 0 ≤ l.foldl (fun m p => mx m p.s) m ∧ l.foldl (fun m p => mx m p.s) m ≤ 600 := by
    intro l
    induction l with
    | nil => intro m h0 h1 _; exact ⟨h0, h1⟩
    | cons p r ih =>
      intro m h0 h1 hp
      have hs := FindP.pg_seq (hp p (by simp))
      rw [List.foldl_cons]
      refine ih _ ?_ ?_ fun x hx => hp x (by simp [hx])
      · unfold mx; split <;> omega
      · unfold mx; split <;> omega
  exact this ps 0 (by omega) (by omega) h
theorem mostB_le (bs : List Bk) (h : ∀ b ∈ bs, ∀ p ∈ b.ps, pgB p = true) : 0 ≤ mostB bs ∧ mostB bs ≤ 600 := by
  have : ∀ (l : List Bk) (m : Int), 0 ≤ m → m ≤ 600 → (∀ b ∈ l, ∀ p ∈ b.ps, pgB p = true) → 0 ≤ l.foldl (fun m b => mx m (mostN b.ps)) m ∧ l.foldl (fun m b => mx m (mostN b.ps)) m ≤ 600 := by
    intro l
    induction l with
    | nil => intro m h0 h1 _; exact ⟨h0, h1⟩
    | cons b r ih =>
      intro m h0 h1 hp
      have hs := mostN_le b.ps (hp b (by simp))
      rw [List.foldl_cons]
      refine ih _ ?_ ?_ fun x hx => hp x (by simp [hx])
      · unfold mx; split <;> omega
      · unfold mx; split <;> omega
  exact this bs 0 (by omega) (by omega) h
/-- What FindNext answers. -/
def nextR (bs : List Bk) : Int := if okB bs then mostB bs + 1 else 0

set_option maxHeartbeats 1000000 in
theorem greatest_any (l : List Sp) (h4 : l.length = 4) (w : World) :
    Calls Try.prog 90 #[.agg (spsC l).toArray] w fun e w' => e = .returned (.int .i64 (grL l)) ∧ Below w.heap.size w w' := by
  have r0 := rangeAt_new w (spsC l) 119
  have b0 : Below w.heap.size w (w.alloc (.cells (spsC l).toArray 119)) := (Below.refl _ _).alloc (Nat.le_refl _) _
  have HG : Hid (grL (l.take 4) = grL l) := by show _ = _; rw [List.take_of_length_le (by omega)]
  go_enter Try.func90, Try.ntmps90
  go_wp2_with (first | (refine wpList_box_big rfl _ _ rfl (spsC l).toArray rfl ?_) | (refine wpList_load_mid rfl 119 _ rfl w.heap.size 0 rfl (spsC l) _ r0 Try.underlying119 rfl (size_sps h4) ?_))
  clear r0
  generalize hw1 : w.alloc (.cells (spsC l).toArray 119) = w1 at *
  clear hw1
  go_loopw [3, 7] (fun m i w' => ∃ k : Nat, k ≤ 4 ∧ i = .int .i64 k ∧ m = .int .i64 (grL (l.take k)) ∧ Below w.heap.size w w') (fun _ i _ => 4 - (intOf i).toNat)
  case atStart => exact ⟨0, by omega, rfl, rfl, b0⟩
  case round =>
    obtain ⟨k, hk, rfl, rfl, bw⟩ := hrel
    by_cases h0 : k = 4
    · subst h0
      go_wp2
      go_ret
      exact ⟨by rw [← unhide HG]; rfl, bw⟩
    · have hlt : (k : Int) < 4 := by omega
      have hkb : k < l.length := by omega
      have hlo : (0 : Int) ≤ (k : Int) := by omega
      have HE := hide (ext_sps l k hkb)
      have HT := hide (grL_take l k hkb)
      have hbz := bw.size
      generalize l[k] = x at *
      generalize hm : grL (l.take k) = m at *
      go_wp2_with (refine wpList_index_big rfl 119 _ _ rfl (spsC l).toArray _ (k : Int) rfl rfl 118 4 2 _ Try.underlying119 Try.underlying118 rfl (by kernel_rfl) hlo hlt (unhide HE) ?_)
      go_roundw
      case rel => exact ⟨k + 1, by omega, by first | rfl | go_num, by rw [unhide HT]; rfl, bw.alloc hbz _⟩
      case measure => simp [intOf]; omega

set_option maxHeartbeats 400000 in
theorem specNext_any (a : Option Addr) (cap : Nat) (bs : List Bk) (w : World) (hf : FsAt w a bs) (hm : bs.length ≤ 1048576) (hp : ∀ b ∈ bs, b.ps.length ≤ 1048576) :
    Calls Try.prog 43 #[.slice a bs.length cap] w fun e w' => e = .returned (.int .i64 (nextR bs)) ∧ Below w.heap.size w w' := by
  have HC := hide (specFlashOk_any a cap bs w hf hm)
  have HF := hide hf
  clear hf
  have HR : Hid (nextR bs = if okB bs then mostB bs + 1 else 0) := rfl
  generalize nextR bs = R at *
  cases hok : okB bs
  · rw [hok] at HC HR
    go_enter Try.func43, Try.ntmps43
    go_wp2_with fail
    refine (unhide HC).mono ?_
    rintro e w1 ⟨rfl, b1⟩
    go_wp2
    go_ret
    exact ⟨by rw [unhide HR]; rfl, b1⟩
  · have hmb := mostB_le bs (ok_pages hok)
    have HW : Hid (wrap64 (mostB bs + 1) = mostB bs + 1) := by show _ = _; unfold wrap64; omega
    rw [hok] at HC HR
    rw [if_pos rfl] at HR
    go_enter Try.func43, Try.ntmps43
    go_wp2_with fail
    refine (unhide HC).mono ?_
    rintro e w1 ⟨rfl, b1⟩
    go_wp2_with fail
    refine (next_any a cap bs _ ((unhide HF).below b1) hm hp).mono ?_
    rintro e w2 ⟨rfl, b2⟩
    rw [unhide HW, ← unhide HR]
    clear hmb
    go_wp2
    go_ret
    exact ⟨rfl, b1.trans (b2.mono b1.size)⟩

set_option maxHeartbeats 400000 in
theorem nextK_any (ks : List Bk) (hok : okB ks = true) (w : World) :
    Calls Try.prog 68 #[.agg (fsC ks).toArray] w fun e w' => e = .returned (.int .i64 (mostB ks + 1)) ∧ Below w.heap.size w w' := by
  have hk4 := ok_len hok
  have hkF := ok_fours hok
  have r1 := rangeAt_new w (fsC ks) 75
  have B1 : Below w.heap.size w (w.alloc (.cells (fsC ks).toArray 75)) := (Below.refl _ _).alloc (Nat.le_refl _) _
  have hmb := mostB_le ks (ok_pages hok)
  have HG := hide (gr_most ks (ok_pages hok))
  have HR : Hid (mostB ks + 1 = mostB ks + 1) := rfl
  generalize hRR : mostB ks + 1 = R at HR ⊢
  have HRR := hide hRR
  clear hRR HR
  go_enter Try.func68, Try.ntmps68
  go_wp2_with (first | (refine wpList_box_big rfl _ _ rfl (fsC ks).toArray rfl ?_) | (refine wpList_load_mid rfl 75 _ rfl w.heap.size 0 rfl (fsC ks) _ r1 Try.underlying75 rfl (size_fsl hkF hk4) ?_))
  refine (callsIn_wide.1 (spans_in ks hk4 hkF _)).mono ?_
  rintro e w2 ⟨rfl, b2⟩
  clear r1
  go_wp2_with fail
  refine (greatest_any (ks.map spB) (by rw [List.length_map, hk4]) _).mono ?_
  rintro e w3 ⟨rfl, b3⟩
  rw [unhide HG]
  generalize mostB ks = m at *
  go_wp2
  go_ret
  exact ⟨by rw [← unhide HRR]; rfl, B1.trans ((b2.mono B1.size).trans (b3.mono (B1.trans (b2.mono B1.size)).size))⟩

set_option maxHeartbeats 400000 in
theorem implNext_any (a : Option Addr) (cap : Nat) (bs : List Bk) (w : World) (hf : FsAt w a bs) (hm : bs.length ≤ 9223372036854775807) :
    Calls Try.prog 35 #[.slice a bs.length cap] w fun e w' => e = .returned (.int .i64 (nextR bs)) ∧ Below w.heap.size w w' := by
  obtain ⟨zf, hz, hz84⟩ := zrow
  have HZ := hide hz
  clear hz
  have HR : Hid (nextR bs = if okB bs then mostB bs + 1 else 0) := rfl
  generalize nextR bs = R at *
  go_enter Try.func35, Try.ntmps35
  go_wp2_with fail
  refine (ofz_any a cap bs _ hf hm).mono ?_
  rintro e w1 ⟨ks, rfl, hk4, hkF, hke, b1⟩
  have hsz : zf.size = (fsC ks).toArray.size := by rw [hz84, List.size_toArray, len_fsC _ hkF, hk4]
  have r1 := rangeAt_new w1 (fsC ks) 75
  have B1 := b1.alloc b1.size (.cells (fsC ks).toArray 75)
  clear b1
  cases hs : okB bs
  · rw [hs] at HR
    clear hs hke
    go_wp2_with (first | (refine wpList_alloc_big rfl 75 rfl zf (unhide HZ) ?_) | (refine wpList_store_new rfl 75 _ _ rfl w1 zf (fsC ks).toArray rfl rfl rfl (size_fsa hkF hk4) hsz (one_fs ks) ?_))
    go_ret
    exact ⟨by rw [unhide HR]; rfl, B1⟩
  · obtain rfl := hke hs
    have HN := hide (nextK_any ks hs)
    rw [hs, if_pos rfl] at HR
    rw [← unhide HR] at HN
    clear hs hke
    go_wp2_with (first | (refine wpList_alloc_big rfl 75 rfl zf (unhide HZ) ?_) | (refine wpList_store_new rfl 75 _ _ rfl w1 zf (fsC ks).toArray rfl rfl rfl (size_fsa hkF hk4) hsz (one_fs ks) ?_) | (refine wpList_load_mid rfl 75 _ rfl w1.heap.size 0 rfl (fsC ks) _ r1 Try.underlying75 rfl (size_fsl hkF hk4) ?_))
    refine (unhide HN _).mono ?_
    rintro e w2 ⟨rfl, b2⟩
    clear r1
    go_wp2
    go_ret
    exact ⟨rfl, B1.trans (b2.mono B1.size)⟩
end Go.Proofs.Ytkikeapfjpnkgaa.FindN

/-
  FindOld, of the program and of the specification: both answer the same.
-/
namespace Go.Proofs.Ytkikeapfjpnkgaa.FindD
open Go.ChangeShapes Go.WideShapes Go.ChangeAt Go.RowKit Go.Shelf OkA Big Fl ImplB ImplF ImplS _root_.Go.Proofs.Ytkikeapfjpnkgaa.Own ImplT ImplU SpecA SpecB SpecC SpecD SpecW SpecF SpecG SpecH Ok2 Pl FindP ImplO SpecX ImplL ImplN ImplM FindN
set_option linter.unusedVariables false
set_option linter.unusedSimpArgs false
attribute [local go_sem ↓] Go.wp_at_zero Go.wp_at_succ

/-- What FindOld answers. -/
def oldR (bs : List Bk) : Int := if okB bs then ((oldN bs 3 : Nat) : Int) else -1
/-- The eldest of the first k blocks. -/
def oldK (bs : List Bk) (k : Nat) : Nat := if k = 0 then 0 else oldN bs (k - 1)
theorem oldK_lt (bs : List Bk) (k : Nat) (hk : k ≤ 4) : oldK bs k < 4 := by
  unfold oldK; split
  · omega
  · have := oldN_le bs (k - 1); omega
theorem spAt (L : List Sp) (i : Nat) (hi : i < L.length) : L.getD i (0, 0) = L[i] := by rw [List.getD_eq_getElem?_getD, List.getElem?_eq_getElem hi]; rfl
theorem oldK_step (bs : List Bk) (L : List Sp) (h4 : bs.length = 4) (hL : L.length = 4) (hm : ∀ i (hi : i < 4), L[i].2 = mostN (bs[i]'(by omega)).ps) (k : Nat) (hk : k < 4) :
    oldK bs (k + 1) = if L[k].2 < (L.getD (oldK bs k) (0, 0)).2 then k else oldK bs k := by
  have ho := oldK_lt bs k (by omega)
  rw [spAt L _ (by omega), hm k hk, hm _ ho]
  cases k with
  | zero => simp [oldK, oldN]
  | succ k =>
    have e1 : oldK bs (k + 1) = oldN bs k := by simp [oldK]
    have e2 : oldK bs (k + 1 + 1) = oldN bs (k + 1) := by simp [oldK]
    have ho2 : oldN bs k < bs.length := by have := oldN_le bs k; omega
    rw [e2]
    simp only [e1, oldN]
    rw [getD_at bs (k + 1) (by omega), getD_at bs _ ho2]

set_option maxRecDepth 100000 in
set_option maxHeartbeats 400000 in
theorem specOld_any (a : Option Addr) (cap : Nat) (bs : List Bk) (w : World) (hf : FsAt w a bs) (hm : bs.length ≤ 1048576) (hp : ∀ b ∈ bs, b.ps.length ≤ 1048576) :
    Calls Try.prog 30 #[.slice a bs.length cap] w fun e w' => e = .returned (.int .i64 (oldR bs)) ∧ Below w.heap.size w w' := by
  have HC := hide (specFlashOk_any a cap bs w hf hm)
  have HF := hide hf
  clear hf
  have HR : Hid (oldR bs = if okB bs then ((oldN bs 3 : Nat) : Int) else -1) := rfl
  generalize oldR bs = R at *
  cases hok : okB bs
  · rw [hok] at HC HR
    go_enter Try.func30, Try.ntmps30
    go_wp2_with fail
    refine (unhide HC).mono ?_
    rintro e w1 ⟨rfl, b1⟩
    go_wp2
    go_ret
    exact ⟨by rw [unhide HR]; rfl, b1⟩
  · have HW : Hid (oldN bs (bs.length - 1) = oldN bs 3) := by show _ = _; rw [ok_len hok]
    have hpos := hide (show 0 < bs.length by rw [ok_len hok]; omega)
    rw [hok] at HC HR
    rw [if_pos rfl] at HR
    go_enter Try.func30, Try.ntmps30
    go_wp2_with fail
    refine (unhide HC).mono ?_
    rintro e w1 ⟨rfl, b1⟩
    go_wp2_with fail
    refine (old_any a cap bs _ ((unhide HF).below b1) hm hp (unhide hpos)).mono ?_
    rintro e w2 ⟨rfl, b2⟩
    rw [unhide HW, ← unhide HR]
    go_wp2
    go_ret
    exact ⟨rfl, b1.trans (b2.mono b1.size)⟩

set_option maxRecDepth 100000 in
set_option maxHeartbeats 1000000 in
theorem oldK_any (ks : List Bk) (hok : okB ks = true) (w : World) :
    Calls Try.prog 61 #[.agg (fsC ks).toArray] w fun e w' => e = .returned (.int .i64 ((oldN ks 3 : Nat) : Int)) ∧ Below w.heap.size w w' := by
  have hk4 := ok_len hok
  have hkF := ok_fours hok
  have r1 := rangeAt_new w (fsC ks) 75
  have B1 : Below w.heap.size w (w.alloc (.cells (fsC ks).toArray 75)) := (Below.refl _ _).alloc (Nat.le_refl _) _
  have HM : Hid (∀ i (hi : i < 4), ((ks.map spB)[i]'(by rw [List.length_map]; omega)).2 = mostN (ks[i]'(by omega)).ps) := fun i hi => by
    rw [List.getElem_map, (spB_eq (ok_pages hok _ (List.getElem_mem _))).1]
  clear hok
  go_enter Try.func61, Try.ntmps61
  go_wp2_with (first | (refine wpList_box_big rfl _ _ rfl (fsC ks).toArray rfl ?_) | (refine wpList_load_mid rfl 75 _ rfl w.heap.size 0 rfl (fsC ks) _ r1 Try.underlying75 rfl (size_fsl hkF hk4) ?_))
  refine (callsIn_wide.1 (spans_in ks hk4 hkF _)).mono ?_
  rintro e w2 ⟨rfl, b2⟩
  clear r1
  have hl4 : (ks.map spB).length = 4 := by rw [List.length_map, hk4]
  have HST := hide (oldK_step ks (ks.map spB) hk4 hl4 (unhide HM))
  have HL0 : Hid (oldK ks 0 = 0) := rfl
  have HL4 : Hid (oldK ks 4 = oldN ks 3) := rfl
  clear HM
  generalize ks.map spB = L at *
  have B2 := B1.trans (b2.mono B1.size)
  have B3 := B2.alloc B2.size (.cells (spsC L).toArray 119)
  have cL := CsAt.new w2 (spsC L) 119
  have HS1 := hide (size_sps hl4)
  have HS2 : Hid ((Try.prog.info? 119).map (·.size) = some (spsC L).toArray.size) := by show _ = _; rw [List.size_toArray]; exact unhide HS1
  have HO := hide (one_sps L)
  have hszL : (spsC zSp).toArray.size = (spsC L).toArray.size := by rw [List.size_toArray, List.size_toArray, len_spsC, len_spsC, hl4]; rfl
  clear B1 b2
  have rL := cL.cells
  go_wp2_with (first | (refine wpList_alloc_big rfl 119 rfl (spsC zSp).toArray (by kernel_rfl) ?_) | (refine wpList_store_new rfl 119 _ _ rfl w2 (spsC zSp).toArray (spsC L).toArray rfl rfl rfl (unhide HS2) hszL (unhide HO) ?_) | (refine wpList_load_mid rfl 119 _ rfl w2.heap.size 0 rfl (spsC L) _ rL Try.underlying119 rfl (unhide HS1) ?_))
  clear rL
  have hs3 : w2.heap.size < (w2.alloc (.cells (spsC L).toArray 119)).heap.size := by simp
  generalize hw3 : w2.alloc (.cells (spsC L).toArray 119) = w3 at *
  generalize hsb : w2.heap.size = sb at *
  clear hw3 hsb
  go_loopw [4, 10] (fun o i w' => ∃ k : Nat, k ≤ 4 ∧ i = .int .i64 k ∧ o = .int .i64 (oldK ks k : Nat) ∧ CsAt w' sb (spsC L) ∧ sb < w'.heap.size ∧ Below w.heap.size w w') (fun _ i _ => 4 - (intOf i).toNat)
  case atStart => exact ⟨0, by omega, rfl, by rw [unhide HL0]; rfl, cL, hs3, B3⟩
  case round =>
    clear cL hs3 B3 B2
    obtain ⟨k, hk, rfl, rfl, hL, hsl, hB⟩ := hrel
    by_cases h0 : k = 4
    · subst h0
      go_wp2
      go_ret
      exact ⟨by rw [← unhide HL4]; rfl, hB⟩
    · have hlt : (k : Int) < 4 := by omega
      have hkb : k < L.length := by omega
      have hlo : (0 : Int) ≤ (k : Int) := by omega
      have HE := hide (ext_sps L k hkb)
      have HT := hide (unhide HST k (by omega))
      have hok := oldK_lt ks k hk
      have hBz := hB.size
      generalize oldK ks k = o at *
      have hob : o < L.length := by omega
      have ho0 : (0 : Int) ≤ (o : Int) := by omega
      have ho4 : (o : Int) < 4 := by omega
      rw [spAt L o hob] at HT
      have HO2 := hide (csSpan hL o hob 1 _ rfl)
      generalize L[k] = x at *
      generalize L[o] = y at *
      have cX := CsAt.new wr [.int .i64 x.1, .int .i64 x.2] 118
      have cL2 := hL.alloc hsl (.cells #[.int .i64 x.1, .int .i64 x.2] 118)
      have hB2 := hB.alloc hBz (.cells #[.int .i64 x.1, .int .i64 x.2] 118)
      have cY : (wr.alloc (.cells #[.int .i64 x.1, .int .i64 x.2] 118)).cell? ⟨sb, o * 2 + 1, none⟩ = some (.int .i64 y.2) := by
        rw [World.cell?_alloc_lt _ _ _ hsl]; exact unhide HO2
      have hs2 : sb < (wr.alloc (.cells #[.int .i64 x.1, .int .i64 x.2] 118)).heap.size := by simp; omega
      clear HO2
      go_wp2_with (refine wpList_index_big rfl 119 _ _ rfl (spsC L).toArray _ (k : Int) rfl rfl 118 4 2 _ Try.underlying119 Try.underlying118 rfl (by kernel_rfl) hlo hlt (unhide HE) ?_)
      generalize hbb : wr.heap.size = Bx at *
      generalize wr.alloc (.cells #[.int .i64 x.1, .int .i64 x.2] 118) = w5 at *
      have cx1 := cX.cell 1 _ rfl
      by_cases hxy : x.2 < y.2
      · have hd : decide (x.2 < y.2) = true := by simpa using hxy
        rw [if_pos hxy] at HT
        clear hxy
        refine wp_region_noPanic ?_
        refine wp_region_held_drew (S := fun w' => w'.cell? ⟨Bx, 1, none⟩ = some (.int .i64 x.2) ∧ w'.cell? ⟨sb, o * 2 + 1, none⟩ = some (.int .i64 y.2)) (by kernel_rfl) (⟨by simpa using cx1, by simpa using cY⟩) (fun hHeld => ?_)
        refine takeL 0 (.pointer (some ⟨Bx, 1, none⟩)) rfl (by kernel_rfl) (by kernel_rfl) (by kernel_rfl) (fun _ _ _ h => h) (Or.inl ⟨rfl, fun w9 hSw => by go_simp⟩) hHeld ?_
        try simp only [Act.put, List.setIfInBounds_toArray, List.set_cons_zero, List.set_cons_succ]
        refine takeL 1 (.int .i64 x.2) rfl (by kernel_rfl) (by kernel_rfl) (by kernel_rfl) (fun _ _ _ h => h) (Or.inl ⟨rfl, fun w9 hSw => by have hc := hSw.1; go_simp⟩) hHeld ?_
        try simp only [Act.put, List.setIfInBounds_toArray, List.set_cons_zero, List.set_cons_succ]
        refine takeL 2 (.int .i64 (o : Nat)) rfl (by kernel_rfl) (by kernel_rfl) (by kernel_rfl) (fun _ _ _ h => h) (Or.inl ⟨rfl, fun _ _ => rfl⟩) hHeld ?_
        try simp only [Act.put, List.setIfInBounds_toArray, List.set_cons_zero, List.set_cons_succ]
        refine takeL 3 (.pointer (some ⟨sb, o * 2, none⟩)) rfl (by kernel_rfl) (by kernel_rfl) (by kernel_rfl) (fun _ _ _ h => h) (Or.inl ⟨rfl, fun w9 hSw => by go_simp⟩) hHeld ?_
        try simp only [Act.put, List.setIfInBounds_toArray, List.set_cons_zero, List.set_cons_succ]
        refine takeL 4 (.pointer (some ⟨sb, o * 2 + 1, none⟩)) rfl (by kernel_rfl) (by kernel_rfl) (by kernel_rfl) (fun _ _ _ h => h) (Or.inl ⟨rfl, fun w9 hSw => by go_simp⟩) hHeld ?_
        try simp only [Act.put, List.setIfInBounds_toArray, List.set_cons_zero, List.set_cons_succ]
        refine takeL 5 (.int .i64 y.2) rfl (by kernel_rfl) (by kernel_rfl) (by kernel_rfl) (fun _ _ _ h => h) (Or.inl ⟨rfl, fun w9 hSw => by have hc := hSw.2; go_simp⟩) hHeld ?_
        try simp only [Act.put, List.setIfInBounds_toArray, List.set_cons_zero, List.set_cons_succ]
        refine takeL 6 (.bool true) rfl (by kernel_rfl) (by kernel_rfl) (by kernel_rfl) (fun _ _ _ h => h) (Or.inl ⟨rfl, fun w9 hSw => by go_simp⟩) hHeld ?_
        try simp only [Act.put, List.setIfInBounds_toArray, List.set_cons_zero, List.set_cons_succ]
        refine wpAnyH_done (by kernel_rfl) ?_ _
        refine NoPanic.normal ?_
        clear hHeld
        go_wp2
        go_roundw
        case rel => exact ⟨k + 1, by omega, by first | rfl | go_num, by rw [unhide HT], csAt_drew cL2, hs2, hB2.drew⟩
        case measure => simp [intOf]; omega
      · have hd : decide (x.2 < y.2) = false := by simpa using hxy
        rw [if_neg hxy] at HT
        clear hxy
        refine wp_region_noPanic ?_
        refine wp_region_held_drew (S := fun w' => w'.cell? ⟨Bx, 1, none⟩ = some (.int .i64 x.2) ∧ w'.cell? ⟨sb, o * 2 + 1, none⟩ = some (.int .i64 y.2)) (by kernel_rfl) (⟨by simpa using cx1, by simpa using cY⟩) (fun hHeld => ?_)
        refine takeL 0 (.pointer (some ⟨Bx, 1, none⟩)) rfl (by kernel_rfl) (by kernel_rfl) (by kernel_rfl) (fun _ _ _ h => h) (Or.inl ⟨rfl, fun w9 hSw => by go_simp⟩) hHeld ?_
        try simp only [Act.put, List.setIfInBounds_toArray, List.set_cons_zero, List.set_cons_succ]
        refine takeL 1 (.int .i64 x.2) rfl (by kernel_rfl) (by kernel_rfl) (by kernel_rfl) (fun _ _ _ h => h) (Or.inl ⟨rfl, fun w9 hSw => by have hc := hSw.1; go_simp⟩) hHeld ?_
        try simp only [Act.put, List.setIfInBounds_toArray, List.set_cons_zero, List.set_cons_succ]
        refine takeL 2 (.int .i64 (o : Nat)) rfl (by kernel_rfl) (by kernel_rfl) (by kernel_rfl) (fun _ _ _ h => h) (Or.inl ⟨rfl, fun _ _ => rfl⟩) hHeld ?_
        try simp only [Act.put, List.setIfInBounds_toArray, List.set_cons_zero, List.set_cons_succ]
        refine takeL 3 (.pointer (some ⟨sb, o * 2, none⟩)) rfl (by kernel_rfl) (by kernel_rfl) (by kernel_rfl) (fun _ _ _ h => h) (Or.inl ⟨rfl, fun w9 hSw => by go_simp⟩) hHeld ?_
        try simp only [Act.put, List.setIfInBounds_toArray, List.set_cons_zero, List.set_cons_succ]
        refine takeL 4 (.pointer (some ⟨sb, o * 2 + 1, none⟩)) rfl (by kernel_rfl) (by kernel_rfl) (by kernel_rfl) (fun _ _ _ h => h) (Or.inl ⟨rfl, fun w9 hSw => by go_simp⟩) hHeld ?_
        try simp only [Act.put, List.setIfInBounds_toArray, List.set_cons_zero, List.set_cons_succ]
        refine takeL 5 (.int .i64 y.2) rfl (by kernel_rfl) (by kernel_rfl) (by kernel_rfl) (fun _ _ _ h => h) (Or.inl ⟨rfl, fun w9 hSw => by have hc := hSw.2; go_simp⟩) hHeld ?_
        try simp only [Act.put, List.setIfInBounds_toArray, List.set_cons_zero, List.set_cons_succ]
        refine takeL 6 (.bool false) rfl (by kernel_rfl) (by kernel_rfl) (by kernel_rfl) (fun _ _ _ h => h) (Or.inl ⟨rfl, fun w9 hSw => by go_simp⟩) hHeld ?_
        try simp only [Act.put, List.setIfInBounds_toArray, List.set_cons_zero, List.set_cons_succ]
        refine wpAnyH_done (by kernel_rfl) ?_ _
        refine NoPanic.normal ?_
        clear hHeld
        go_wp2
        go_roundw
        case rel => exact ⟨k + 1, by omega, by first | rfl | go_num, by rw [unhide HT], csAt_drew cL2, hs2, hB2.drew⟩
        case measure => simp [intOf]; omega

set_option maxRecDepth 100000 in
set_option maxHeartbeats 400000 in
theorem implOld_any (a : Option Addr) (cap : Nat) (bs : List Bk) (w : World) (hf : FsAt w a bs) (hm : bs.length ≤ 9223372036854775807) :
    Calls Try.prog 29 #[.slice a bs.length cap] w fun e w' => e = .returned (.int .i64 (oldR bs)) ∧ Below w.heap.size w w' := by
  obtain ⟨zf, hz, hz84⟩ := zrow
  have HZ := hide hz
  clear hz
  have HR : Hid (oldR bs = if okB bs then ((oldN bs 3 : Nat) : Int) else -1) := rfl
  generalize oldR bs = R at *
  go_enter Try.func29, Try.ntmps29
  go_wp2_with fail
  refine (ofz_any a cap bs _ hf hm).mono ?_
  rintro e w1 ⟨ks, rfl, hk4, hkF, hke, b1⟩
  have hsz : zf.size = (fsC ks).toArray.size := by rw [hz84, List.size_toArray, len_fsC _ hkF, hk4]
  have r1 := rangeAt_new w1 (fsC ks) 75
  have B1 := b1.alloc b1.size (.cells (fsC ks).toArray 75)
  clear b1
  cases hs : okB bs
  · rw [hs] at HR
    clear hs hke
    go_wp2_with (first | (refine wpList_alloc_big rfl 75 rfl zf (unhide HZ) ?_) | (refine wpList_store_new rfl 75 _ _ rfl w1 zf (fsC ks).toArray rfl rfl rfl (size_fsa hkF hk4) hsz (one_fs ks) ?_))
    go_ret
    exact ⟨by rw [unhide HR]; rfl, B1⟩
  · obtain rfl := hke hs
    have HN := hide (oldK_any ks hs)
    rw [hs, if_pos rfl] at HR
    rw [← unhide HR] at HN
    clear hs hke
    go_wp2_with (first | (refine wpList_alloc_big rfl 75 rfl zf (unhide HZ) ?_) | (refine wpList_store_new rfl 75 _ _ rfl w1 zf (fsC ks).toArray rfl rfl rfl (size_fsa hkF hk4) hsz (one_fs ks) ?_) | (refine wpList_load_mid rfl 75 _ rfl w1.heap.size 0 rfl (fsC ks) _ r1 Try.underlying75 rfl (size_fsl hkF hk4) ?_))
    refine (unhide HN _).mono ?_
    rintro e w2 ⟨rfl, b2⟩
    clear r1
    go_wp2
    go_ret
    exact ⟨rfl, B1.trans (b2.mono B1.size)⟩
end Go.Proofs.Ytkikeapfjpnkgaa.FindD
