/-
  Texts that belong together, one behind the other: SpT, LawI.
-/
import Derived.Test.YtogfelpdgeionaaGreatGbC
import Derived.Test.YtogfelpdgeionaaGreatGaW

/-
  The specification's StoreRead, StoreAll and StoreDirty; they are what the program answers.
-/
namespace Go.Proofs.YtogfelpdgeionaaGreat.SpT
open Go.ChangeShapes Go.WideShapes Go.ChangeAt Go.RowKit Go.Shelf OkA Big Fl ImplB ImplF ImplS _root_.Go.Proofs.YtogfelpdgeionaaGreat.Own ImplT ImplU SpecA SpecB SpecC SpecD SpecW SpecF SpecG SpecH Ok2 Pl FindP ImplO SpecX SpecO ImplQ ImplW ImplL FindN FindL FindV FindQ Kp Gd StA MpA StB StC StD StE StF StG SpS
set_option linter.unusedVariables false
set_option linter.unusedSimpArgs false
attribute [local go_sem ↓] Go.wp_at_zero Go.wp_at_succ

/-! Plain lists. -/
theorem noRc_eq {r : Rc} (h : noRc r = true) : r = zRc := by
  cases r; simp [noRc] at h; obtain ⟨⟨⟨rfl, rfl⟩, rfl⟩, rfl⟩ := h; rfl
theorem ord_ok {bs : List Bk} (h : ordR bs = true) : okB bs = true := by
  have : ordR bs = (okB bs && ordB bs) := rfl
  rw [this, Bool.and_eq_true] at h; exact h.1
theorem mp_get {bs : List Bk} {a : Int} (h : okB bs = true) (h1 : 1 ≤ a) (h6 : a ≤ 6) : (mpF bs a).getD zRc = lastR bs a ∧ (mpF bs a).isSome = lastO bs a := by
  have hl := lst_no (lastR_ok bs a h)
  unfold mpF mpK
  cases hn : noRc (lastR bs a)
  · rw [if_pos ⟨h1, by omega, rfl⟩]
    refine ⟨rfl, ?_⟩
    rw [hn] at hl
    unfold lastO; rw [← hl]; rfl
  · rw [if_neg (fun q => by cases q.2.2)]
    refine ⟨(noRc_eq hn).symm, ?_⟩
    rw [hn] at hl
    unfold lastO; rw [← hl]; rfl
theorem clean_last {bs : List Bk} {a : Int} (h : (lastR bs a).k = 2) (hok : okB bs = true) : lastO bs a = true := by
  rcases lastR_ok bs a hok with e | ⟨e, _⟩
  · rw [e] at h; simp [zRc] at h
  · unfold lastO
    simp [recB, numB, inB] at e
    simp; omega
theorem dkB_iff (dk : List Int) : dkB dk = true ↔ dk.length = 6 ∧ ∀ i, i < 6 → inB (dk.getD i 0) 0 9 = true := by
  unfold dkB
  rw [Bool.and_eq_true, beq_iff_eq, List.all_eq_true]
  constructor
  · rintro ⟨h1, h2⟩
    refine ⟨h1, fun i hi => ?_⟩
    rw [List.getD_eq_getElem?_getD, List.getElem?_eq_getElem (by omega)]
    exact h2 _ (List.getElem_mem _)
  · rintro ⟨h1, h2⟩
    refine ⟨h1, fun v hv => ?_⟩
    obtain ⟨j, hj, rfl⟩ := List.getElem_of_mem hv
    have := h2 j (by omega)
    rwa [List.getD_eq_getElem?_getD, List.getElem?_eq_getElem hj] at this
theorem st_eq (bs : List Bk) (dk : List Int) : stI bs dk = stB bs dk := by
  rw [Bool.eq_iff_iff]
  unfold stI stB
  rw [Bool.and_eq_true, Bool.and_eq_true, Bool.and_eq_true, Bool.and_eq_true, dkB_iff, beq_iff_eq]
  constructor
  · rintro ⟨⟨ho, h6, hd⟩, hc⟩
    have hok := ord_ok ho
    refine ⟨⟨ho, h6⟩, ?_⟩
    rw [List.all_eq_true]
    intro i hi
    simp at hi
    unfold hcB at hc
    rw [List.all_eq_true] at hc
    obtain ⟨g1, g2⟩ := mp_get (a := (i : Int) + 1) hok (by omega) (by omega)
    unfold badA
    rw [hd i hi]
    by_cases hk : (lastR bs ((i : Int) + 1)).k = 2
    · have := hc ((i : Int) + 1) (whK_mem.2 ⟨by omega, by rw [g1]; unfold kindC; simpa using hk⟩)
      rw [g1] at this
      unfold dkV at this
      rw [show ((i : Int) + 1 - 1).toNat = i by omega, beq_iff_eq] at this
      rw [this]; simp
    · simp [hk]
  · rintro ⟨⟨ho, h6⟩, hb⟩
    have hok := ord_ok ho
    rw [List.all_eq_true] at hb
    refine ⟨⟨ho, h6, fun i hi => ?_⟩, ?_⟩
    · have := hb i (by simpa using hi)
      unfold badA at this
      simp at this
      exact this.1
    · unfold hcB
      rw [List.all_eq_true]
      intro a ha
      obtain ⟨⟨h1, h2⟩, hk⟩ := whK_mem.1 ha
      obtain ⟨g1, g2⟩ := mp_get (a := a) hok (by omega) (by omega)
      rw [g1] at hk ⊢
      have hk2 : (lastR bs a).k = 2 := by unfold kindC at hk; simpa using hk
      have := hb (a - 1).toNat (by simp; omega)
      unfold badA at this
      rw [show (((a - 1).toNat : Nat) : Int) + 1 = a by omega, clean_last hk2 hok, hk2] at this
      simp at this
      unfold dkV
      rw [this.2]; simp
theorem st_parts {bs : List Bk} {dk : List Int} (h : stB bs dk = true) : okB bs = true ∧ dk.length = 6 := by
  unfold stB at h
  rw [Bool.and_eq_true, Bool.and_eq_true, beq_iff_eq] at h
  exact ⟨ord_ok h.1.1, h.1.2⟩
theorem mpV_eq {bs : List Bk} {dk : List Int} {a : Int} (hok : okB bs = true) (h1 : 1 ≤ a) (h6 : a ≤ 6) : mpV (mpF bs) dk a = readI bs dk a := by
  obtain ⟨g1, g2⟩ := mp_get (a := a) hok h1 h6
  unfold mpV readI dkV
  rw [g1, g2]
/-- What StoreRead answers. -/
def rdS (bs : List Bk) (dk : List Int) (addr : Int) : Int := if stB bs dk && inB addr 1 6 then readI bs dk addr else -1
theorem rd_eq (bs : List Bk) (dk : List Int) (addr : Int) : rdI bs dk addr = rdS bs dk addr := by
  unfold rdI rdS
  rw [st_eq]
  cases h : stB bs dk && inB addr 1 6
  · rfl
  · rw [Bool.and_eq_true] at h
    have ha : 1 ≤ addr ∧ addr ≤ 6 := by simpa [inB] using h.2
    simp only [if_true]
    exact mpV_eq (st_parts h.1).1 ha.1 ha.2
/-- The values of the first k addresses. -/
def alK (bs : List Bk) (dk : List Int) (k : Nat) : List Int := (List.range k).map fun i => readI bs dk ((i : Nat) + 1 : Int)
theorem alK_succ (bs : List Bk) (dk : List Int) (k : Nat) : alK bs dk (k + 1) = alK bs dk k ++ [readI bs dk ((k : Int) + 1)] := by unfold alK; rw [List.range_succ, List.map_append]; rfl
theorem alK_len (bs : List Bk) (dk : List Int) (k : Nat) : (alK bs dk k).length = k := by simp [alK]
def alS (bs : List Bk) (dk : List Int) : List Int := if stB bs dk then alK bs dk 6 else []
theorem al_eq (bs : List Bk) (dk : List Int) : alI bs dk = alS bs dk := by
  unfold alI alS
  rw [st_eq]
  cases h : stB bs dk
  · rfl
  · simp only [if_true]
    unfold alK
    apply List.map_congr_left
    intro i hi
    simp at hi
    exact mpV_eq (st_parts h).1 (by omega) (by omega)
/-- Of the first k addresses the dirty ones. -/
def dyK (bs : List Bk) (k : Nat) : List Int := ((List.range k).map fun i => ((i : Nat) : Int) + 1).filter fun i => dirtyB bs i
theorem dyK_succ (bs : List Bk) (k : Nat) : dyK bs (k + 1) = dyK bs k ++ (if dirtyB bs ((k : Int) + 1) then [(k : Int) + 1] else []) := by
  unfold dyK
  rw [List.range_succ, List.map_append, List.filter_append]
  congr 1
  simp only [List.map_cons, List.map_nil, List.filter_cons, List.filter_nil]
theorem dyK_len (bs : List Bk) (k : Nat) : (dyK bs k).length ≤ k := by
  unfold dyK
  exact Nat.le_trans (List.length_filter_le _ _) (by simp)
def dyS (bs : List Bk) (dk : List Int) : List Int := if stB bs dk then dyK bs 6 else []
theorem dy_eq (bs : List Bk) (dk : List Int) : dyI bs dk = dyS bs dk := by
  unfold dyI dyS
  rw [st_eq]
  cases h : stB bs dk
  · rfl
  · simp only [if_true]
    unfold dyK whK
    apply List.filter_congr
    intro a ha
    rw [List.mem_map] at ha
    obtain ⟨i, hi, rfl⟩ := ha
    simp at hi
    obtain ⟨g1, g2⟩ := mp_get (bs := bs) (a := (i : Int) + 1) (st_parts h).1 (by omega) (by omega)
    rw [g1]
    unfold kindD dirtyB
    cases ho : lastO bs ((i : Int) + 1)
    · rcases lastR_ok bs ((i : Int) + 1) (st_parts h).1 with e | ⟨e, _⟩
      · rw [e]; rfl
      · unfold lastO at ho
        simp [recB, numB, inB] at e
        simp at ho; omega
    · simp

/-! The specification's walks. -/
set_option maxRecDepth 100000 in
set_option maxHeartbeats 1000000 in
theorem specAll_any (fa : Option Addr) (fc : Nat) (bs : List Bk) (da : Option Addr) (dc : Nat) (dk : List Int) (w : World) (h : SAt w fa bs da dk) (hm : bs.length ≤ 1048576) (hp : ∀ b ∈ bs, b.ps.length ≤ 1048576) (hm2 : dk.length ≤ 1048576) :
    Calls Tryz.prog 146 #[.agg #[.slice fa bs.length fc, .slice da dk.length dc]] w fun e w' => IsPost w (alS bs dk) e w' := by
  have B0 : Below w.heap.size w ((w.alloc (.cells #[.slice fa bs.length fc, .slice da dk.length dc] 26)).alloc (.cells #[] 3)) := ((Below.refl _ _).alloc (Nat.le_refl _) _).alloc (by simp) _
  have cS := (store_box w (.slice fa bs.length fc) (.slice da dk.length dc)).alloc (by simp) (.cells #[] 3)
  have s0 : ((w.alloc (.cells #[.slice fa bs.length fc, .slice da dk.length dc] 26)).alloc (.cells #[] 3)).heap.size = w.heap.size + 2 := by simp
  have rN := Rw.nil' (w.alloc (.cells #[.slice fa bs.length fc, .slice da dk.length dc] 26)) (w.heap.size + 1) (by simp)
  rw [World.size_alloc] at rN
  have HA := hide h
  have HC := hide (specOk_st fa fc bs da dc dk _ (h.below B0) hm hp hm2)
  have HR : Hid (alS bs dk = if stB bs dk then alK bs dk 6 else []) := rfl
  obtain ⟨iI, hiI, hzI, hsI, hbI⟩ := infoI
  have HI := hide hiI
  clear h hiI
  have x0 := cS.cell 0 _ rfl
  have x1 := cS.cell 1 _ rfl
  generalize alS bs dk = R at *
  go_enter Tryz.func146, Tryz.ntmps146
  go_wp2_with fail
  generalize (w.alloc (.cells #[.slice fa bs.length fc, .slice da dk.length dc] 26)).alloc (.cells #[] 3) = w0 at *
  refine (unhide HC).mono ?_
  rintro e w1 ⟨rfl, b1⟩
  have cS1 := cS.below b1 (by omega)
  have rN1 := rN.below b1 (Nat.le_refl _)
  have B1 := B0.trans (b1.mono B0.size)
  have s1 : w.heap.size + 2 ≤ w1.heap.size := by have := b1.size; omega
  clear cS B0 b1 s0 x0 x1 rN HC
  cases hs : stB bs dk
  · have HE : Hid (R = []) := by show _ = _; rw [unhide HR, hs]; rfl
    go_wp2
    go_ret
    exact ⟨_, rfl, by rw [unhide HE]; exact .inl ⟨rfl, _, _, rfl⟩, B1⟩
  have HE : Hid (R = alK bs dk 6) := by show _ = _; rw [unhide HR, hs]; rfl
  have h6 := (st_parts hs).2
  obtain ⟨db, dof, rfl, hd⟩ : ∃ b o, da = some ⟨b, o, none⟩ ∧ w.rangeAt b o (isC dk) := by
    rcases (unhide HA).ds with rfl | h
    · simp at h6
    · exact h
  have hdl : db < w.heap.size := cell_lt (isC_at hd 0 (by omega))
  have HV := hide (fun (k : Nat) (hk : k < 6) (w' : World) (hb : Below w.heap.size w w') => read_any fa fc db dof dc dk h6 ((k : Int) + 1) (by omega) (by omega) bs w' ((unhide HA).fs.below hb) (rangeAt_below hd hb hdl) hm hp)
  have HA0 : Hid (alK bs dk 0 = []) := rfl
  clear hd
  rw [h6] at cS1
  rw [h6]
  go_wp2
  go_loopw [3, 4] (fun v i w' => ∃ k : Nat, k ≤ 6 ∧ i = .int .i64 ((k : Int) + 1) ∧ Rw w' (w.heap.size + 1) v (alK bs dk k) ∧ CsAt w' w.heap.size [.slice fa bs.length fc, .slice (some ⟨db, dof, none⟩) 6 dc] ∧ Below w.heap.size w w' ∧ w.heap.size + 2 ≤ w'.heap.size) (fun _ i _ => 7 - (intOf i).toNat)
  case atStart => exact ⟨0, by omega, rfl, by rw [unhide HA0]; exact rN1, cS1, B1, s1⟩
  case round =>
    clear rN1 cS1 B1 s1
    obtain ⟨k, hk, rfl, hR, hC, hB, hS⟩ := hrel
    by_cases h0 : k = 6
    · subst h0
      have hn := (hR.mono (show w.heap.size ≤ w.heap.size + 1 by omega)).new
      go_wp2
      go_ret
      exact ⟨_, rfl, by rw [unhide HE]; exact hn, hB⟩
    · have hk6 : k < 6 := by omega
      have hlt : (k : Int) + 1 ≤ 6 := by omega
      have hlo : (0 : Int) ≤ (k : Int) := by omega
      have x0 := hC.cell 0 _ rfl
      have x1 := hC.cell 1 _ rfl
      have HKS := hide (alK_succ bs dk k)
      have HKL := hide (alK_len bs dk k)
      go_wp2_with fail
      refine (unhide HV k hk6 _ hB).mono ?_
      rintro e w2 ⟨rfl, b2⟩
      have hR2 := hR.below b2 (Nat.le_refl _)
      have hC2 := hC.below b2 (by omega)
      have hB2 := hB.trans (b2.mono hB.size)
      have hS2 := Nat.le_trans hS b2.size
      clear hR hC hB hS b2 x0 x1
      generalize readI bs dk ((k : Int) + 1) = V at *
      have HX := HKS
      generalize alK bs dk k = L at *
      have hnw : ∀ j u, [Value.int .i64 V][j]? = some u → (w2.alloc (.cells #[.int .i64 V] 3)).cell? ((⟨w2.heap.size, 0, none⟩ : Addr).add j) = some u := src_mid (rangeAt_new w2 [.int .i64 V] 3)
      have bA : Below w2.heap.size w2 (w2.alloc (.cells #[.int .i64 V] 3)) := (Below.refl _ _).alloc (Nat.le_refl _) _
      have hR3 := hR2.below bA (Nat.le_refl _)
      have hC3 := hC2.below bA (by omega)
      have hB3 := hB2.trans (bA.mono (by omega))
      have hS3 := Nat.le_trans hS2 bA.size
      have hrow := hR3.row
      have hone : ∀ u ∈ [Value.int .i64 V], u.oneCell' = true := fun u hu => by simp at hu; subst hu; rfl
      clear hR2 hC2 hB2 hS2 bA
      go_upto_region 6 with (refine wpList_append_own _ rfl _ _ 24 rfl (w.heap.size + 1) 3 iI (.int .i64 0) 1 8 Tryz.underlying24 (unhide HI) hzI hsI hbI rfl (by omega) _ L.length (isC L) rfl hrow ⟨w2.heap.size, 0, none⟩ 1 1 [.int .i64 V] rfl rfl hnw hone (by have := unhide HKL; simp [maxLen]; omega) (by have := unhide HKL; omega) (by omega) ?_; intro v' w7 ho7 hg7 _)
      obtain ⟨hR7, b7⟩ := hR3.push (x := V) (by omega) ho7 hg7
      have hC7 := hC3.below b7 (by omega)
      have hB7 := hB3.trans (b7.mono (by omega))
      have hS7 := Nat.le_trans hS3 b7.size
      rw [← unhide HX] at hR7
      clear hR3 hC3 hB3 hS3 ho7 hg7 b7 hrow hnw
      generalize w2.alloc (.cells #[.int .i64 V] 3) = w3 at *
      go_wp2
      go_roundw
      case rel => exact ⟨k + 1, by omega, by first | rfl | go_num, hR7, hC7, hB7, hS7⟩
      case measure => simp [intOf]; omega

set_option maxRecDepth 100000 in
set_option maxHeartbeats 1000000 in
theorem specDirty_any (fa : Option Addr) (fc : Nat) (bs : List Bk) (da : Option Addr) (dc : Nat) (dk : List Int) (w : World) (h : SAt w fa bs da dk) (hm : bs.length ≤ 1048576) (hp : ∀ b ∈ bs, b.ps.length ≤ 1048576) (hm2 : dk.length ≤ 1048576) :
    Calls Tryz.prog 46 #[.agg #[.slice fa bs.length fc, .slice da dk.length dc]] w fun e w' => IsPost w (dyS bs dk) e w' := by
  have B0 : Below w.heap.size w ((w.alloc (.cells #[.slice fa bs.length fc, .slice da dk.length dc] 26)).alloc (.cells #[] 3)) := ((Below.refl _ _).alloc (Nat.le_refl _) _).alloc (by simp) _
  have cS := (store_box w (.slice fa bs.length fc) (.slice da dk.length dc)).alloc (by simp) (.cells #[] 3)
  have s0 : ((w.alloc (.cells #[.slice fa bs.length fc, .slice da dk.length dc] 26)).alloc (.cells #[] 3)).heap.size = w.heap.size + 2 := by simp
  have rN := Rw.nil' (w.alloc (.cells #[.slice fa bs.length fc, .slice da dk.length dc] 26)) (w.heap.size + 1) (by simp)
  rw [World.size_alloc] at rN
  have HA := hide h
  have HC := hide (specOk_st fa fc bs da dc dk _ (h.below B0) hm hp hm2)
  have HR : Hid (dyS bs dk = if stB bs dk then dyK bs 6 else []) := rfl
  obtain ⟨iI, hiI, hzI, hsI, hbI⟩ := infoI
  have HI := hide hiI
  clear h hiI
  have x0 := cS.cell 0 _ rfl
  have x1 := cS.cell 1 _ rfl
  generalize dyS bs dk = R at *
  go_enter Tryz.func46, Tryz.ntmps46
  go_wp2_with fail
  generalize (w.alloc (.cells #[.slice fa bs.length fc, .slice da dk.length dc] 26)).alloc (.cells #[] 3) = w0 at *
  refine (unhide HC).mono ?_
  rintro e w1 ⟨rfl, b1⟩
  have cS1 := cS.below b1 (by omega)
  have rN1 := rN.below b1 (Nat.le_refl _)
  have B1 := B0.trans (b1.mono B0.size)
  have s1 : w.heap.size + 2 ≤ w1.heap.size := by have := b1.size; omega
  clear cS B0 b1 s0 x0 x1 rN HC
  cases hs : stB bs dk
  · have HE : Hid (R = []) := by show _ = _; rw [unhide HR, hs]; rfl
    go_wp2
    go_ret
    exact ⟨_, rfl, by rw [unhide HE]; exact .inl ⟨rfl, _, _, rfl⟩, B1⟩
  have HE : Hid (R = dyK bs 6) := by show _ = _; rw [unhide HR, hs]; rfl
  have h6 := (st_parts hs).2
  obtain ⟨db, dof, rfl, hd⟩ : ∃ b o, da = some ⟨b, o, none⟩ ∧ w.rangeAt b o (isC dk) := by
    rcases (unhide HA).ds with rfl | h
    · simp at h6
    · exact h
  have hdl : db < w.heap.size := cell_lt (isC_at hd 0 (by omega))
  have HV := hide (fun (k : Nat) (hk : k < 6) (w' : World) (hb : Below w.heap.size w w') => dirty_any fa fc (.slice (some ⟨db, dof, none⟩) 6 dc) ((k : Int) + 1) bs w' ((unhide HA).fs.below hb) hm hp)
  have HA0 : Hid (dyK bs 0 = []) := rfl
  clear hd
  rw [h6] at cS1
  rw [h6]
  go_wp2
  go_loopw [3, 4] (fun v i w' => ∃ k : Nat, k ≤ 6 ∧ i = .int .i64 ((k : Int) + 1) ∧ Rw w' (w.heap.size + 1) v (dyK bs k) ∧ CsAt w' w.heap.size [.slice fa bs.length fc, .slice (some ⟨db, dof, none⟩) 6 dc] ∧ Below w.heap.size w w' ∧ w.heap.size + 2 ≤ w'.heap.size) (fun _ i _ => 7 - (intOf i).toNat)
  case atStart => exact ⟨0, by omega, rfl, by rw [unhide HA0]; exact rN1, cS1, B1, s1⟩
  case round =>
    clear rN1 cS1 B1 s1
    obtain ⟨k, hk, rfl, hR, hC, hB, hS⟩ := hrel
    by_cases h0 : k = 6
    · subst h0
      have hn := (hR.mono (show w.heap.size ≤ w.heap.size + 1 by omega)).new
      go_wp2
      go_ret
      exact ⟨_, rfl, by rw [unhide HE]; exact hn, hB⟩
    · have hk6 : k < 6 := by omega
      have hlt : (k : Int) + 1 ≤ 6 := by omega
      have hlo : (0 : Int) ≤ (k : Int) := by omega
      have x0 := hC.cell 0 _ rfl
      have x1 := hC.cell 1 _ rfl
      have HKS := hide (dyK_succ bs k)
      have HKL := hide (dyK_len bs k)
      go_wp2_with fail
      refine (unhide HV k hk6 _ hB).mono ?_
      rintro e w2 ⟨rfl, b2⟩
      have hR2 := hR.below b2 (Nat.le_refl _)
      have hC2 := hC.below b2 (by omega)
      have hB2 := hB.trans (b2.mono hB.size)
      have hS2 := Nat.le_trans hS b2.size
      clear hR hC hB hS b2 x0 x1
      cases hz : dirtyB bs ((k : Int) + 1)
      · have HX : Hid (dyK bs (k + 1) = dyK bs k) := by show _ = _; rw [unhide HKS, hz]; simp
        go_wp2
        go_roundw
        case rel => exact ⟨k + 1, by omega, by first | rfl | go_num, by rw [unhide HX]; exact hR2, hC2, hB2, hS2⟩
        case measure => simp [intOf]; omega
      · have HX : Hid (dyK bs (k + 1) = dyK bs k ++ [(k : Int) + 1]) := by show _ = _; rw [unhide HKS, hz]; rfl
        generalize dyK bs k = L at *
        have hnw : ∀ j u, [Value.int .i64 ((k : Int) + 1)][j]? = some u → (w2.alloc (.cells #[.int .i64 ((k : Int) + 1)] 3)).cell? ((⟨w2.heap.size, 0, none⟩ : Addr).add j) = some u := src_mid (rangeAt_new w2 [.int .i64 ((k : Int) + 1)] 3)
        have bA : Below w2.heap.size w2 (w2.alloc (.cells #[.int .i64 ((k : Int) + 1)] 3)) := (Below.refl _ _).alloc (Nat.le_refl _) _
        have hR3 := hR2.below bA (Nat.le_refl _)
        have hC3 := hC2.below bA (by omega)
        have hB3 := hB2.trans (bA.mono (by omega))
        have hS3 := Nat.le_trans hS2 bA.size
        have hrow := hR3.row
        have hone : ∀ u ∈ [Value.int .i64 ((k : Int) + 1)], u.oneCell' = true := fun u hu => by simp at hu; subst hu; rfl
        clear hR2 hC2 hB2 hS2 bA
        go_upto_region 6 with (refine wpList_append_own _ rfl _ _ 24 rfl (w.heap.size + 1) 3 iI (.int .i64 0) 1 8 Tryz.underlying24 (unhide HI) hzI hsI hbI rfl (by omega) _ L.length (isC L) rfl hrow ⟨w2.heap.size, 0, none⟩ 1 1 [.int .i64 ((k : Int) + 1)] rfl rfl hnw hone (by have := unhide HKL; simp [maxLen]; omega) (by have := unhide HKL; omega) (by omega) ?_; intro v' w7 ho7 hg7 _)
        obtain ⟨hR7, b7⟩ := hR3.push (x := (k : Int) + 1) (by omega) ho7 hg7
        have hC7 := hC3.below b7 (by omega)
        have hB7 := hB3.trans (b7.mono (by omega))
        have hS7 := Nat.le_trans hS3 b7.size
        rw [← unhide HX] at hR7
        clear hR3 hC3 hB3 hS3 ho7 hg7 b7 hrow hnw
        generalize w2.alloc (.cells #[.int .i64 ((k : Int) + 1)] 3) = w3 at *
        go_wp2
        go_roundw
        case rel => exact ⟨k + 1, by omega, by first | rfl | go_num, hR7, hC7, hB7, hS7⟩
        case measure => simp [intOf]; omega
theorem here : True := trivial
end Go.Proofs.YtogfelpdgeionaaGreat.SpT

/-
  The laws' helpers over lists of numbers: how many; the same in memory of its own; whether two are the same; marks.
-/
namespace Go.Proofs.YtogfelpdgeionaaGreat.LawI
open Go.ChangeShapes Go.WideShapes Go.ChangeAt Go.RowKit Go.Shelf OkA Big Fl ImplB ImplF ImplS _root_.Go.Proofs.YtogfelpdgeionaaGreat.Own ImplT ImplU SpecA SpecB SpecC SpecD SpecW Ok2 Pl ImplL Kp StA StB StD StF StG LawsA LawsE LawV MarkB
set_option linter.unusedVariables false
set_option linter.unusedSimpArgs false
attribute [local go_sem ↓] Go.wp_at_zero Go.wp_at_succ

set_option maxHeartbeats 400000 in
theorem szIntS_any (a : Option Addr) (n cap : Nat) (l : Int) (w : World) (h0 : 0 ≤ l) (h1 : l ≤ 1048576) (hn : (n : Int) ≤ 9223372036854775807) :
    Calls Tryz.prog 125 #[.slice a n cap, .int .i64 l] w fun e w' => e = .returned (.int .i64 (szR l n)) ∧ w' = w := by
  by_cases h : l - n < 0
  · have HR : Hid (szR l n = -1) := if_pos h
    go_enter Tryz.func125, Tryz.ntmps125
    go_wp2
    go_ret
    exact ⟨by rw [unhide HR]; rfl, rfl⟩
  · have HR : Hid (szR l n = l - n) := if_neg h
    go_enter Tryz.func125, Tryz.ntmps125
    go_wp2
    go_ret
    exact ⟨by rw [unhide HR]; rfl, rfl⟩

theorem made_n (n : Nat) : madeCells (Value.int .i64 0).cells (n * 1) = (isC (List.replicate n 0)).toArray := by
  apply Array.ext'
  rw [show (Value.int .i64 0).cells = #[Value.int .i64 0] from rfl, toList_madeCells_one, Nat.mul_one]
  simp [isC]
theorem dk_cell {w : World} {a : Option Addr} {l : List Int} (h : DkAt w a l) (k : Nat) (hk : k < l.length) : ∃ b o, a = some ⟨b, o, none⟩ ∧ w.cell? ⟨b, o + k, none⟩ = some (.int .i64 l[k]) ∧ b < w.heap.size := by
  rcases h with rfl | ⟨b, o, rfl, h⟩
  · simp at hk
  · have := isC_at h k hk
    rw [List.getD_eq_getElem?_getD, List.getElem?_eq_getElem hk] at this
    exact ⟨b, o, rfl, this, cell_lt this⟩
def TiPost (w : World) (l : List Int) (e : Ending) (w' : World) : Prop := e = .returned (.slice (some ⟨w.heap.size, 0, none⟩) l.length l.length) ∧ CsAt w' w.heap.size (isC l) ∧ w.heap.size < w'.heap.size ∧ Below w.heap.size w w'

set_option maxHeartbeats 1000000 in
theorem toIntS_any (a : Option Addr) (cap : Nat) (l : List Int) (w : World) (h : DkAt w a l) (hl : l.length ≤ 1048576) :
    Calls Tryz.prog 128 #[.slice a l.length cap] w fun e w' => TiPost w l e w' := by
  have c0 := CsAt.new w (isC (List.replicate l.length 0)) 3
  have b0 : Below w.heap.size w (w.alloc (.cells (isC (List.replicate l.length 0)).toArray 3)) := (Below.refl _ _).alloc (Nat.le_refl _) _
  have s0 : w.heap.size < (w.alloc (.cells (isC (List.replicate l.length 0)).toArray 3)).heap.size := by simp
  have hli : (l.length : Int) ≤ 1048576 := by omega
  have HP := hide h
  have HM := hide (made_n l.length)
  have HL0 : Hid ((List.replicate l.length (0 : Int)).length = l.length) := by show _ = _; simp
  clear h
  generalize hz : List.replicate l.length (0 : Int) = z at *
  clear hz
  go_enter Tryz.func128, Tryz.ntmps128
  go_wp2_with (refine wpList_make_big rfl 24 _ _ rfl l.length rfl rfl 3 1 8 (.int .i64 0) Tryz.underlying24 made_int (by omega) (by omega) ?_; rw [unhide HM])
  generalize w.alloc (.cells (isC z).toArray 3) = w1 at *
  go_loopw [4] (fun i w' => ∃ (k : Nat) (m : List Int), k ≤ l.length ∧ i = .int .i64 k ∧ m.length = l.length ∧ Hid (∀ j, j < k → m[j]? = l[j]?) ∧ CsAt w' w.heap.size (isC m) ∧ w.heap.size < w'.heap.size ∧ Below w.heap.size w w') (fun i _ => l.length - (intOf i).toNat)
  case atStart => exact ⟨0, z, by omega, rfl, unhide HL0, (fun j hj => by omega), c0, s0, b0⟩
  case round =>
    clear c0 s0 b0
    obtain ⟨k, m, hk, rfl, hm, HI, hC, hs, hB⟩ := hrel
    by_cases h0 : k = l.length
    · subst h0
      have HE : Hid (m = l) := by
        show _ = _
        apply List.ext_getElem?
        intro j
        by_cases q : j < l.length
        · exact unhide HI j q
        · rw [List.getElem?_eq_none (by omega), List.getElem?_eq_none (by omega)]
      rw [unhide HE] at hC
      go_wp2
      go_ret
      exact ⟨rfl, hC, hs, hB⟩
    · have hlt : (k : Int) < (l.length : Int) := by omega
      have hkb : k < l.length := by omega
      have hlo : (0 : Int) ≤ (k : Int) := by omega
      obtain ⟨sb, so, rfl, hx, hsb⟩ := dk_cell ((unhide HP).below hB) k hkb
      have hkl : k < (isC m).length := by rw [len_isC]; omega
      have x0 := hC.cell k _ (List.getElem?_eq_getElem hkl)
      have f0 := hC.frozen k hkl
      have HI2 : Hid (∀ j, j < k + 1 → (m.set k l[k])[j]? = l[j]?) := fun j hj => by
        by_cases q : j = k
        · subst q; rw [List.getElem?_set_self (by omega), List.getElem?_eq_getElem hkb]
        · rw [List.getElem?_set_ne (fun e => q e.symm)]; exact unhide HI j (by omega)
      generalize (isC m)[k] = old at *
      generalize l[k] = v at *
      have hC2 := hC.setInt (k := k) (by omega) v
      have hB2 : Below w.heap.size w (wr.setCell ⟨w.heap.size, k, none⟩ (.int .i64 v)) := hB.setCell (Nat.le_refl _) _
      have hs2 : w.heap.size < (wr.setCell ⟨w.heap.size, k, none⟩ (.int .i64 v)).heap.size := by rw [World.size_setCell]; exact hs
      have hm2 : (m.set k v).length = l.length := by rw [List.length_set]; exact hm
      clear hC
      go_wp2
      go_roundw
      case rel => exact ⟨k + 1, m.set k v, by omega, by first | rfl | go_num, hm2, HI2, hC2, hs2, hB2⟩
      case measure => simp [intOf]; omega

set_option maxHeartbeats 1000000 in
theorem eqIntS_any (a1 a2 : Option Addr) (c1 c2 : Nat) (l : List Int) (w : World) (h1 : DkAt w a1 l) (h2 : DkAt w a2 l) (hl : l.length ≤ 1048576) :
    Calls Tryz.prog 76 #[.slice a1 l.length c1, .slice a2 l.length c2] w fun e w' => e = .returned (.bool true) ∧ Below w.heap.size w w' := by
  have hli : (l.length : Int) ≤ 1048576 := by omega
  have H1 := hide h1
  have H2 := hide h2
  clear h1 h2
  go_enter Tryz.func76, Tryz.ntmps76
  go_wp2
  go_loopw [5] (fun i w' => ∃ k : Nat, k ≤ l.length ∧ i = .int .i64 k ∧ Below w.heap.size w w') (fun i _ => l.length - (intOf i).toNat)
  case atStart => exact ⟨0, by omega, rfl, Below.refl _ _⟩
  case round =>
    obtain ⟨k, hk, rfl, bw⟩ := hrel
    by_cases h0 : k = l.length
    · subst h0
      go_wp2
      go_ret
      exact ⟨rfl, bw⟩
    · have hlt : (k : Int) < (l.length : Int) := by omega
      have hkb : k < l.length := by omega
      have hlo : (0 : Int) ≤ (k : Int) := by omega
      obtain ⟨b1, o1, rfl, x1, l1⟩ := dk_cell ((unhide H1).below bw) k hkb
      obtain ⟨b2, o2, rfl, x2, l2⟩ := dk_cell ((unhide H2).below bw) k hkb
      generalize l[k] = v at *
      go_wp2
      refine wp_region_noPanic ?_
      refine wp_region_held_drew (S := fun w' => w'.cell? ⟨b1, o1 + k, none⟩ = some (.int .i64 v) ∧ w'.cell? ⟨b2, o2 + k, none⟩ = some (.int .i64 v)) (by kernel_rfl) (⟨x1, x2⟩) (fun hHeld => ?_)
      refine takeL 0 (.slice (some ⟨b1, o1, none⟩) l.length c1) rfl (by kernel_rfl) (by kernel_rfl) (by kernel_rfl) (fun _ _ _ h => h) (Or.inl ⟨rfl, fun _ _ => rfl⟩) hHeld ?_
      try simp only [Act.put, List.setIfInBounds_toArray, List.set_cons_zero, List.set_cons_succ]
      refine takeL 1 (.int .i64 k) rfl (by kernel_rfl) (by kernel_rfl) (by kernel_rfl) (fun _ _ _ h => h) (Or.inl ⟨rfl, fun _ _ => rfl⟩) hHeld ?_
      try simp only [Act.put, List.setIfInBounds_toArray, List.set_cons_zero, List.set_cons_succ]
      refine takeL 2 (.pointer (some ⟨b1, o1 + k, none⟩)) rfl (by kernel_rfl) (by kernel_rfl) (by kernel_rfl) (fun _ _ _ h => h) (Or.inl ⟨rfl, fun w9 hSw => by go_simp⟩) hHeld ?_
      try simp only [Act.put, List.setIfInBounds_toArray, List.set_cons_zero, List.set_cons_succ]
      refine takeL 3 (.int .i64 v) rfl (by kernel_rfl) (by kernel_rfl) (by kernel_rfl) (fun _ _ _ h => h) (Or.inl ⟨rfl, fun w9 hSw => by have hc := hSw.1; go_simp⟩) hHeld ?_
      try simp only [Act.put, List.setIfInBounds_toArray, List.set_cons_zero, List.set_cons_succ]
      refine takeL 4 (.slice (some ⟨b2, o2, none⟩) l.length c2) rfl (by kernel_rfl) (by kernel_rfl) (by kernel_rfl) (fun _ _ _ h => h) (Or.inl ⟨rfl, fun _ _ => rfl⟩) hHeld ?_
      try simp only [Act.put, List.setIfInBounds_toArray, List.set_cons_zero, List.set_cons_succ]
      refine takeL 5 (.int .i64 k) rfl (by kernel_rfl) (by kernel_rfl) (by kernel_rfl) (fun _ _ _ h => h) (Or.inl ⟨rfl, fun _ _ => rfl⟩) hHeld ?_
      try simp only [Act.put, List.setIfInBounds_toArray, List.set_cons_zero, List.set_cons_succ]
      refine takeL 6 (.pointer (some ⟨b2, o2 + k, none⟩)) rfl (by kernel_rfl) (by kernel_rfl) (by kernel_rfl) (fun _ _ _ h => h) (Or.inl ⟨rfl, fun w9 hSw => by go_simp⟩) hHeld ?_
      try simp only [Act.put, List.setIfInBounds_toArray, List.set_cons_zero, List.set_cons_succ]
      refine takeL 7 (.int .i64 v) rfl (by kernel_rfl) (by kernel_rfl) (by kernel_rfl) (fun _ _ _ h => h) (Or.inl ⟨rfl, fun w9 hSw => by have hc := hSw.2; go_simp⟩) hHeld ?_
      try simp only [Act.put, List.setIfInBounds_toArray, List.set_cons_zero, List.set_cons_succ]
      refine takeL 8 (.bool false) rfl (by kernel_rfl) (by kernel_rfl) (by kernel_rfl) (fun _ _ _ h => h) (Or.inl ⟨rfl, fun w9 hSw => by go_simp⟩) hHeld ?_
      try simp only [Act.put, List.setIfInBounds_toArray, List.set_cons_zero, List.set_cons_succ]
      refine wpAnyH_done (by kernel_rfl) ?_ _
      refine NoPanic.normal ?_
      have B2 := bw.drew
      clear x1 x2 hHeld
      go_wp2
      go_roundw
      case rel => exact ⟨k + 1, by omega, by first | rfl | go_num, B2⟩
      case measure => simp [intOf]; omega

/-! Marks. -/
def mkI (n : Nat) (k : Int) : List Int := (List.range n).map fun i => k + (i : Nat)
theorem mkI_len (n : Nat) (k : Int) : (mkI n k).length = n := by simp [mkI]
theorem mkI_at (n : Nat) (k : Int) (j : Nat) (hj : j < n) : (mkI n k)[j]? = some (k + (j : Nat)) := by simp [mkI, hj]
def MiPost (w : World) (g n : Nat) (k : Int) (e : Ending) (w' : World) : Prop := e = .returned (.int .i64 (k + (n : Nat))) ∧ CsAt w' g (isC (mkI n k)) ∧ Only [g] w w' ∧ Kept [g] w w'
theorem Only.setInt {L : List Nat} {w w' : World} (h : Only L w w') {b : Nat} (hb : b ∈ L) (o : Nat) (v : Value) : Only L w (w'.setCell ⟨b, o, none⟩ v) := h.setCells hb o [v]

set_option maxHeartbeats 1000000 in
theorem markIntS_any (g cap : Nat) (l : List Int) (k : Int) (w : World) (hC : CsAt w g (isC l)) (hl : l.length ≤ 1048576) (hk0 : 0 ≤ k) (hk1 : k ≤ 6000000000000) :
    Calls Tryz.prog 79 #[.slice (some ⟨g, 0, none⟩) l.length cap, .int .i64 k] w fun e w' => MiPost w g l.length k e w' := by
  have hli : (l.length : Int) ≤ 1048576 := by omega
  have HC := hide hC
  clear hC
  generalize hn : l.length = n at *
  have HN := hide hn
  clear hn
  go_enter Tryz.func79, Tryz.ntmps79
  go_wp2
  go_loopw [5, 1] (fun i q w' => ∃ (j : Nat) (m : List Int), j ≤ n ∧ i = .int .i64 j ∧ q = .int .i64 (k + (j : Nat)) ∧ m.length = n ∧ Hid (∀ i, i < j → m[i]? = some (k + (i : Nat))) ∧ CsAt w' g (isC m) ∧ Only [g] w w' ∧ Kept [g] w w') (fun i _ _ => n - (intOf i).toNat)
  case atStart => exact ⟨0, l, by omega, rfl, by simp, unhide HN, (fun i hi => by omega), unhide HC, Only.refl _ _, Kept.refl _ _⟩
  case round =>
    obtain ⟨j, m, hj, rfl, rfl, hm, HI, hM, hO, hK⟩ := hrel
    by_cases h0 : j = n
    · subst h0
      have HE : Hid (m = mkI j k) := by
        show _ = _
        apply List.ext_getElem?
        intro i
        by_cases q : i < j
        · rw [unhide HI i q, mkI_at _ _ _ q]
        · rw [List.getElem?_eq_none (by omega), List.getElem?_eq_none (by rw [mkI_len]; omega)]
      rw [unhide HE] at hM
      go_wp2
      go_ret
      exact ⟨rfl, hM, hO, hK⟩
    · have hlt : (j : Int) < (n : Int) := by omega
      have hjn : j < n := by omega
      have hlo : (0 : Int) ≤ (j : Int) := by omega
      have hjl : j < (isC m).length := by rw [len_isC]; omega
      have x0 := hM.cell j _ (List.getElem?_eq_getElem hjl)
      have f0 := hM.frozen j hjl
      have hM2 := hM.setInt (k := j) (by omega) (k + (j : Nat))
      have hO2 := Only.setInt hO (show g ∈ [g] by simp) j (.int .i64 (k + (j : Nat)))
      have hK2 := hK.setCell (p := ⟨g, j, none⟩) (.inl (by simp)) (.int .i64 (k + (j : Nat)))
      have HI2 : Hid (∀ i, i < j + 1 → (m.set j (k + (j : Nat)))[i]? = some (k + (i : Nat))) := fun i hi => by
        by_cases q : i = j
        · subst q; rw [List.getElem?_set_self (by omega)]
        · rw [List.getElem?_set_ne (fun e => q e.symm)]; exact unhide HI i (by omega)
      have hm2 : (m.set j (k + (j : Nat))).length = n := by rw [List.length_set]; exact hm
      generalize m.set j (k + (j : Nat)) = m2 at *
      generalize (isC m)[j] = old at *
      clear hM hO hK
      go_wp2
      go_roundw
      case rel => exact ⟨j + 1, m2, by omega, by first | rfl | go_num, by rw [show k + ((j + 1 : Nat) : Int) = k + (j : Nat) + 1 by omega], hm2, HI2, hM2, hO2, hK2⟩
      case measure => simp [intOf]; omega

set_option maxHeartbeats 1000000 in
theorem heldIntS_any (a : Option Addr) (cap n : Nat) (k : Int) (w : World) (hn : n ≤ 1048576) (hk0 : 0 ≤ k) (hk1 : k ≤ 6000000000000) (h : DkAt w a (mkI n k)) :
    Calls Tryz.prog 80 #[.slice a n cap, .int .i64 k] w fun e w' => e = .returned (.int .i64 (k + (n : Nat))) ∧ w' = w := by
  have hni : (n : Int) ≤ 1048576 := by omega
  have HF := hide h
  clear h
  go_enter Tryz.func80, Tryz.ntmps80
  go_wp2
  go_loop [5, 1] (fun i m => ∃ (j : Nat), j ≤ n ∧ i = .int .i64 j ∧ m = .int .i64 (k + (j : Nat))) (fun i _ => n - (intOf i).toNat)
  case atStart => exact ⟨0, by omega, rfl, by simp⟩
  case round =>
    obtain ⟨j, hj, rfl, rfl⟩ := hrel
    by_cases h0 : j = n
    · subst h0
      go_wp2
      go_ret
      exact ⟨rfl, rfl⟩
    · have hlt : (j : Int) < (n : Int) := by omega
      have hlo : (0 : Int) ≤ (j : Int) := by omega
      have hjl : j < (mkI n k).length := by rw [mkI_len]; omega
      obtain ⟨b1, o1, rfl, x1, l1⟩ := dk_cell (unhide HF) j hjl
      have e : (mkI n k)[j] = k + (j : Nat) := by have := mkI_at n k j (by omega); rw [List.getElem?_eq_getElem hjl] at this; exact Option.some.inj this
      rw [e] at x1
      clear e
      go_wp2
      go_round
      case rel => exact ⟨j + 1, by omega, by first | rfl | go_num, by rw [show k + ((j + 1 : Nat) : Int) = k + (j : Nat) + 1 by omega]⟩
      case measure => simp [intOf]; omega
end Go.Proofs.YtogfelpdgeionaaGreat.LawI
