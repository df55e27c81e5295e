/-
  Texts that belong together, one behind the other: SpT, LawI, LawS, LawT.
-/
import Derived.Test.YtogfelpdgeionaaGreatHaX
import Derived.Test.YtogfelpdgeionaaGreatHaY
import Derived.Test.YtogfelpdgeionaaGreatHaI

/-
  The specification's StoreRead, StoreAll and StoreDirty; they are what the program answers.
-/
namespace Go.Proofs.YtogfelpdgeionaaGreat.SpT
open Go.ChangeShapes Go.WideShapes Go.ChangeAt Go.RowKit Go.Shelf OkA Big Fl ImplB ImplF ImplS _root_.Go.Proofs.YtogfelpdgeionaaGreat.Own ImplT ImplU SpecA SpecB SpecC SpecD SpecW SpecF SpecG SpecH Ok2 Pl FindP ImplO SpecX SpecO ImplQ ImplW ImplL FindN FindL FindV FindQ Kp Gd StA MpA StB StC StD StE StF StG SpS
set_option linter.unusedVariables false
set_option linter.unusedSimpArgs false
attribute [local go_sem ↓] Go.wp_at_zero Go.wp_at_succ

/-! Plain lists. -/
theorem noRc_eq {r : Rc} (h : noRc r = true) : r = zRc := by
  cases r; simp [noRc] at h; obtain ⟨⟨⟨rfl, rfl⟩, rfl⟩, rfl⟩ := h; rfl
theorem ord_ok {bs : List Bk} (h : ordR bs = true) : okB bs = true := by
  have : ordR bs = (okB bs && ordB bs) := rfl
  rw [this, Bool.and_eq_true] at h; exact h.1
theorem mp_get {bs : List Bk} {a : Int} (h : okB bs = true) (h1 : 1 ≤ a) (h6 : a ≤ 6) : (mpF bs a).getD zRc = lastR bs a ∧ (mpF bs a).isSome = lastO bs a := by
  have hl := lst_no (lastR_ok bs a h)
  unfold mpF mpK
  cases hn : noRc (lastR bs a)
  · rw [if_pos ⟨h1, by omega, rfl⟩]
    refine ⟨rfl, ?_⟩
    rw [hn] at hl
    unfold lastO; rw [← hl]; rfl
  · rw [if_neg (fun q => by cases q.2.2)]
    refine ⟨(noRc_eq hn).symm, ?_⟩
    rw [hn] at hl
    unfold lastO; rw [← hl]; rfl
theorem clean_last {bs : List Bk} {a : Int} (h : (lastR bs a).k = 2) (hok : okB bs = true) : lastO bs a = true := by
  rcases lastR_ok bs a hok with e | ⟨e, _⟩
  · rw [e] at h; simp [zRc] at h
  · unfold lastO
    simp [recB, numB, inB] at e
    simp; omega
theorem dkB_iff (dk : List Int) : dkB dk = true ↔ dk.length = 6 ∧ ∀ i, i < 6 → inB (dk.getD i 0) 0 9 = true := by
  unfold dkB
  rw [Bool.and_eq_true, beq_iff_eq, List.all_eq_true]
  constructor
  · rintro ⟨h1, h2⟩
    refine ⟨h1, fun i hi => ?_⟩
    rw [List.getD_eq_getElem?_getD, List.getElem?_eq_getElem (by omega)]
    exact h2 _ (List.getElem_mem _)
  · rintro ⟨h1, h2⟩
    refine ⟨h1, fun v hv => ?_⟩
    obtain ⟨j, hj, rfl⟩ := List.getElem_of_mem hv
    have := h2 j (by omega)
    rwa [List.getD_eq_getElem?_getD, List.getElem?_eq_getElem hj] at this
theorem st_eq (bs : List Bk) (dk : List Int) : stI bs dk = stB bs dk := by
  rw [Bool.eq_iff_iff]
  unfold stI stB
  rw [Bool.and_eq_true, Bool.and_eq_true, Bool.and_eq_true, Bool.and_eq_true, dkB_iff, beq_iff_eq]
  constructor
  · rintro ⟨⟨ho, h6, hd⟩, hc⟩
    have hok := ord_ok ho
    refine ⟨⟨ho, h6⟩, ?_⟩
    rw [List.all_eq_true]
    intro i hi
    simp at hi
    unfold hcB at hc
    rw [List.all_eq_true] at hc
    obtain ⟨g1, g2⟩ := mp_get (a := (i : Int) + 1) hok (by omega) (by omega)
    unfold badA
    rw [hd i hi]
    by_cases hk : (lastR bs ((i : Int) + 1)).k = 2
    · have := hc ((i : Int) + 1) (whK_mem.2 ⟨by omega, by rw [g1]; unfold kindC; simpa using hk⟩)
      rw [g1] at this
      unfold dkV at this
      rw [show ((i : Int) + 1 - 1).toNat = i by omega, beq_iff_eq] at this
      rw [this]; simp
    · simp [hk]
  · rintro ⟨⟨ho, h6⟩, hb⟩
    have hok := ord_ok ho
    rw [List.all_eq_true] at hb
    refine ⟨⟨ho, h6, fun i hi => ?_⟩, ?_⟩
    · have := hb i (by simpa using hi)
      unfold badA at this
      simp at this
      exact this.1
    · unfold hcB
      rw [List.all_eq_true]
      intro a ha
      obtain ⟨⟨h1, h2⟩, hk⟩ := whK_mem.1 ha
      obtain ⟨g1, g2⟩ := mp_get (a := a) hok (by omega) (by omega)
      rw [g1] at hk ⊢
      have hk2 : (lastR bs a).k = 2 := by unfold kindC at hk; simpa using hk
      have := hb (a - 1).toNat (by simp; omega)
      unfold badA at this
      rw [show (((a - 1).toNat : Nat) : Int) + 1 = a by omega, clean_last hk2 hok, hk2] at this
      simp at this
      unfold dkV
      rw [this.2]; simp
theorem st_parts {bs : List Bk} {dk : List Int} (h : stB bs dk = true) : okB bs = true ∧ dk.length = 6 := by
  unfold stB at h
  rw [Bool.and_eq_true, Bool.and_eq_true, beq_iff_eq] at h
  exact ⟨ord_ok h.1.1, h.1.2⟩
theorem mpV_eq {bs : List Bk} {dk : List Int} {a : Int} (hok : okB bs = true) (h1 : 1 ≤ a) (h6 : a ≤ 6) : mpV (mpF bs) dk a = readI bs dk a := by
  obtain ⟨g1, g2⟩ := mp_get (a := a) hok h1 h6
  unfold mpV readI dkV
  rw [g1, g2]
/-- What StoreRead answers. -/
def rdS (bs : List Bk) (dk : List Int) (addr : Int) : Int := if stB bs dk && inB addr 1 6 then readI bs dk addr else -1
theorem rd_eq (bs : List Bk) (dk : List Int) (addr : Int) : rdI bs dk addr = rdS bs dk addr := by
  unfold rdI rdS
  rw [st_eq]
  cases h : stB bs dk && inB addr 1 6
  · rfl
  · rw [Bool.and_eq_true] at h
    have ha : 1 ≤ addr ∧ addr ≤ 6 := by simpa [inB] using h.2
    simp only [if_true]
    exact mpV_eq (st_parts h.1).1 ha.1 ha.2
/-- The values of the first k addresses. -/
def alK (bs : List Bk) (dk : List Int) (k : Nat) : List Int := (List.range k).map fun i => readI bs dk ((i : Nat) + 1 : Int)
theorem alK_succ (bs : List Bk) (dk : List Int) (k : Nat) : alK bs dk (k + 1) = alK bs dk k ++ [readI bs dk ((k : Int) + 1)] := by unfold alK; rw [List.range_succ, List.map_append]; rfl
theorem alK_len (bs : List Bk) (dk : List Int) (k : Nat) : (alK bs dk k).length = k := by simp [alK]
def alS (bs : List Bk) (dk : List Int) : List Int := if stB bs dk then alK bs dk 6 else []
theorem al_eq (bs : List Bk) (dk : List Int) : alI bs dk = alS bs dk := by
  unfold alI alS
  rw [st_eq]
  cases h : stB bs dk
  · rfl
  · simp only [if_true]
    unfold alK
    apply List.map_congr_left
    intro i hi
    simp at hi
    exact mpV_eq (st_parts h).1 (by omega) (by omega)
/-- Of the first k addresses the dirty ones. -/
def dyK (bs : List Bk) (k : Nat) : List Int := ((List.range k).map fun i => ((i : Nat) : Int) + 1).filter fun i => dirtyB bs i
theorem dyK_succ (bs : List Bk) (k : Nat) : dyK bs (k + 1) = dyK bs k ++ (if dirtyB bs ((k : Int) + 1) then [(k : Int) + 1] else []) := by
  unfold dyK
  rw [List.range_succ, List.map_append, List.filter_append]
  congr 1
  simp only [List.map_cons, List.map_nil, List.filter_cons, List.filter_nil]
theorem dyK_len (bs : List Bk) (k : Nat) : (dyK bs k).length ≤ k := by
  unfold dyK
  exact Nat.le_trans (List.length_filter_le _ _) (by simp)
def dyS (bs : List Bk) (dk : List Int) : List Int := if stB bs dk then dyK bs 6 else []
theorem dy_eq (bs : List Bk) (dk : List Int) : dyI bs dk = dyS bs dk := by
  unfold dyI dyS
  rw [st_eq]
  cases h : stB bs dk
  · rfl
  · simp only [if_true]
    unfold dyK whK
    apply List.filter_congr
    intro a ha
    rw [List.mem_map] at ha
    obtain ⟨i, hi, rfl⟩ := ha
    simp at hi
    obtain ⟨g1, g2⟩ := mp_get (bs := bs) (a := (i : Int) + 1) (st_parts h).1 (by omega) (by omega)
    rw [g1]
    unfold kindD dirtyB
    cases ho : lastO bs ((i : Int) + 1)
    · rcases lastR_ok bs ((i : Int) + 1) (st_parts h).1 with e | ⟨e, _⟩
      · rw [e]; rfl
      · unfold lastO at ho
        simp [recB, numB, inB] at e
        simp at ho; omega
    · simp

/-! The specification's walks. -/
set_option maxRecDepth 100000 in
set_option maxHeartbeats 1000000 in
theorem specAll_any (fa : Option Addr) (fc : Nat) (bs : List Bk) (da : Option Addr) (dc : Nat) (dk : List Int) (w : World) (h : SAt w fa bs da dk) (hm : bs.length ≤ 1048576) (hp : ∀ b ∈ bs, b.ps.length ≤ 1048576) (hm2 : dk.length ≤ 1048576) :
    Calls Tryz.prog 146 #[.agg #[.slice fa bs.length fc, .slice da dk.length dc]] w fun e w' => IsPost w (alS bs dk) e w' := by
  have B0 : Below w.heap.size w ((w.alloc (.cells #[.slice fa bs.length fc, .slice da dk.length dc] 26)).alloc (.cells #[] 3)) := ((Below.refl _ _).alloc (Nat.le_refl _) _).alloc (by simp) _
  have cS := (store_box w (.slice fa bs.length fc) (.slice da dk.length dc)).alloc (by simp) (.cells #[] 3)
  have s0 : ((w.alloc (.cells #[.slice fa bs.length fc, .slice da dk.length dc] 26)).alloc (.cells #[] 3)).heap.size = w.heap.size + 2 := by simp
  have rN := Rw.nil' (w.alloc (.cells #[.slice fa bs.length fc, .slice da dk.length dc] 26)) (w.heap.size + 1) (by simp)
  rw [World.size_alloc] at rN
  have HA := hide h
  have HC := hide (specOk_st fa fc bs da dc dk _ (h.below B0) hm hp hm2)
  have HR : Hid (alS bs dk = if stB bs dk then alK bs dk 6 else []) := rfl
  obtain ⟨iI, hiI, hzI, hsI, hbI⟩ := infoI
  have HI := hide hiI
  clear h hiI
  have x0 := cS.cell 0 _ rfl
  have x1 := cS.cell 1 _ rfl
  generalize alS bs dk = R at *
  go_enter Tryz.func146, Tryz.ntmps146
  go_wp2_with fail
  generalize (w.alloc (.cells #[.slice fa bs.length fc, .slice da dk.length dc] 26)).alloc (.cells #[] 3) = w0 at *
  refine (unhide HC).mono ?_
  rintro e w1 ⟨rfl, b1⟩
  have cS1 := cS.below b1 (by omega)
  have rN1 := rN.below b1 (Nat.le_refl _)
  have B1 := B0.trans (b1.mono B0.size)
  have s1 : w.heap.size + 2 ≤ w1.heap.size := by have := b1.size; omega
  clear cS B0 b1 s0 x0 x1 rN HC
  cases hs : stB bs dk
  · have HE : Hid (R = []) := by show _ = _; rw [unhide HR, hs]; rfl
    go_wp2
    go_ret
    exact ⟨_, rfl, by rw [unhide HE]; exact .inl ⟨rfl, _, _, rfl⟩, B1⟩
  have HE : Hid (R = alK bs dk 6) := by show _ = _; rw [unhide HR, hs]; rfl
  have h6 := (st_parts hs).2
  obtain ⟨db, dof, rfl, hd⟩ : ∃ b o, da = some ⟨b, o, none⟩ ∧ w.rangeAt b o (isC dk) := by
    rcases (unhide HA).ds with rfl | h
    · simp at h6
    · exact h
  have hdl : db < w.heap.size := cell_lt (isC_at hd 0 (by omega))
  have HV := hide (fun (k : Nat) (hk : k < 6) (w' : World) (hb : Below w.heap.size w w') => read_any fa fc db dof dc dk h6 ((k : Int) + 1) (by omega) (by omega) bs w' ((unhide HA).fs.below hb) (rangeAt_below hd hb hdl) hm hp)
  have HA0 : Hid (alK bs dk 0 = []) := rfl
  clear hd
  rw [h6] at cS1
  rw [h6]
  go_wp2
  go_loopw [3, 4] (fun v i w' => ∃ k : Nat, k ≤ 6 ∧ i = .int .i64 ((k : Int) + 1) ∧ Rw w' (w.heap.size + 1) v (alK bs dk k) ∧ CsAt w' w.heap.size [.slice fa bs.length fc, .slice (some ⟨db, dof, none⟩) 6 dc] ∧ Below w.heap.size w w' ∧ w.heap.size + 2 ≤ w'.heap.size) (fun _ i _ => 7 - (intOf i).toNat)
  case atStart => exact ⟨0, by omega, rfl, by rw [unhide HA0]; exact rN1, cS1, B1, s1⟩
  case round =>
    clear rN1 cS1 B1 s1
    obtain ⟨k, hk, rfl, hR, hC, hB, hS⟩ := hrel
    by_cases h0 : k = 6
    · subst h0
      have hn := (hR.mono (show w.heap.size ≤ w.heap.size + 1 by omega)).new
      go_wp2
      go_ret
      exact ⟨_, rfl, by rw [unhide HE]; exact hn, hB⟩
    · have hk6 : k < 6 := by omega
      have hlt : (k : Int) + 1 ≤ 6 := by omega
      have hlo : (0 : Int) ≤ (k : Int) := by omega
      have x0 := hC.cell 0 _ rfl
      have x1 := hC.cell 1 _ rfl
      have HKS := hide (alK_succ bs dk k)
      have HKL := hide (alK_len bs dk k)
      go_wp2_with fail
      refine (unhide HV k hk6 _ hB).mono ?_
      rintro e w2 ⟨rfl, b2⟩
      have hR2 := hR.below b2 (Nat.le_refl _)
      have hC2 := hC.below b2 (by omega)
      have hB2 := hB.trans (b2.mono hB.size)
      have hS2 := Nat.le_trans hS b2.size
      clear hR hC hB hS b2 x0 x1
      generalize readI bs dk ((k : Int) + 1) = V at *
      have HX := HKS
      generalize alK bs dk k = L at *
      have hnw : ∀ j u, [Value.int .i64 V][j]? = some u → (w2.alloc (.cells #[.int .i64 V] 3)).cell? ((⟨w2.heap.size, 0, none⟩ : Addr).add j) = some u := src_mid (rangeAt_new w2 [.int .i64 V] 3)
      have bA : Below w2.heap.size w2 (w2.alloc (.cells #[.int .i64 V] 3)) := (Below.refl _ _).alloc (Nat.le_refl _) _
      have hR3 := hR2.below bA (Nat.le_refl _)
      have hC3 := hC2.below bA (by omega)
      have hB3 := hB2.trans (bA.mono (by omega))
      have hS3 := Nat.le_trans hS2 bA.size
      have hrow := hR3.row
      have hone : ∀ u ∈ [Value.int .i64 V], u.oneCell' = true := fun u hu => by simp at hu; subst hu; rfl
      clear hR2 hC2 hB2 hS2 bA
      go_upto_region 6 with (refine wpList_append_own _ rfl _ _ 24 rfl (w.heap.size + 1) 3 iI (.int .i64 0) 1 8 Tryz.underlying24 (unhide HI) hzI hsI hbI rfl (by omega) _ L.length (isC L) rfl hrow ⟨w2.heap.size, 0, none⟩ 1 1 [.int .i64 V] rfl rfl hnw hone (by have := unhide HKL; simp [maxLen]; omega) (by have := unhide HKL; omega) (by omega) ?_; intro v' w7 ho7 hg7 _)
      obtain ⟨hR7, b7⟩ := hR3.push (x := V) (by omega) ho7 hg7
      have hC7 := hC3.below b7 (by omega)
      have hB7 := hB3.trans (b7.mono (by omega))
      have hS7 := Nat.le_trans hS3 b7.size
      rw [← unhide HX] at hR7
      clear hR3 hC3 hB3 hS3 ho7 hg7 b7 hrow hnw
      generalize w2.alloc (.cells #[.int .i64 V] 3) = w3 at *
      go_wp2
      go_roundw
      case rel => exact ⟨k + 1, by omega, by first | rfl | go_num, hR7, hC7, hB7, hS7⟩
      case measure => simp [intOf]; omega

set_option maxRecDepth 100000 in
set_option maxHeartbeats 1000000 in
theorem specDirty_any (fa : Option Addr) (fc : Nat) (bs : List Bk) (da : Option Addr) (dc : Nat) (dk : List Int) (w : World) (h : SAt w fa bs da dk) (hm : bs.length ≤ 1048576) (hp : ∀ b ∈ bs, b.ps.length ≤ 1048576) (hm2 : dk.length ≤ 1048576) :
    Calls Tryz.prog 46 #[.agg #[.slice fa bs.length fc, .slice da dk.length dc]] w fun e w' => IsPost w (dyS bs dk) e w' := by
  have B0 : Below w.heap.size w ((w.alloc (.cells #[.slice fa bs.length fc, .slice da dk.length dc] 26)).alloc (.cells #[] 3)) := ((Below.refl _ _).alloc (Nat.le_refl _) _).alloc (by simp) _
  have cS := (store_box w (.slice fa bs.length fc) (.slice da dk.length dc)).alloc (by simp) (.cells #[] 3)
  have s0 : ((w.alloc (.cells #[.slice fa bs.length fc, .slice da dk.length dc] 26)).alloc (.cells #[] 3)).heap.size = w.heap.size + 2 := by simp
  have rN := Rw.nil' (w.alloc (.cells #[.slice fa bs.length fc, .slice da dk.length dc] 26)) (w.heap.size + 1) (by simp)
  rw [World.size_alloc] at rN
  have HA := hide h
  have HC := hide (specOk_st fa fc bs da dc dk _ (h.below B0) hm hp hm2)
  have HR : Hid (dyS bs dk = if stB bs dk then dyK bs 6 else []) := rfl
  obtain ⟨iI, hiI, hzI, hsI, hbI⟩ := infoI
  have HI := hide hiI
  clear h hiI
  have x0 := cS.cell 0 _ rfl
  have x1 := cS.cell 1 _ rfl
  generalize dyS bs dk = R at *
  go_enter Tryz.func46, Tryz.ntmps46
  go_wp2_with fail
  generalize (w.alloc (.cells #[.slice fa bs.length fc, .slice da dk.length dc] 26)).alloc (.cells #[] 3) = w0 at *
  refine (unhide HC).mono ?_
  rintro e w1 ⟨rfl, b1⟩
  have cS1 := cS.below b1 (by omega)
  have rN1 := rN.below b1 (Nat.le_refl _)
  have B1 := B0.trans (b1.mono B0.size)
  have s1 : w.heap.size + 2 ≤ w1.heap.size := by have := b1.size; omega
  clear cS B0 b1 s0 x0 x1 rN HC
  cases hs : stB bs dk
  · have HE : Hid (R = []) := by show _ = _; rw [unhide HR, hs]; rfl
    go_wp2
    go_ret
    exact ⟨_, rfl, by rw [unhide HE]; exact .inl ⟨rfl, _, _, rfl⟩, B1⟩
  have HE : Hid (R = dyK bs 6) := by show _ = _; rw [unhide HR, hs]; rfl
  have h6 := (st_parts hs).2
  obtain ⟨db, dof, rfl, hd⟩ : ∃ b o, da = some ⟨b, o, none⟩ ∧ w.rangeAt b o (isC dk) := by
    rcases (unhide HA).ds with rfl | h
    · simp at h6
    · exact h
  have hdl : db < w.heap.size := cell_lt (isC_at hd 0 (by omega))
  have HV := hide (fun (k : Nat) (hk : k < 6) (w' : World) (hb : Below w.heap.size w w') => dirty_any fa fc (.slice (some ⟨db, dof, none⟩) 6 dc) ((k : Int) + 1) bs w' ((unhide HA).fs.below hb) hm hp)
  have HA0 : Hid (dyK bs 0 = []) := rfl
  clear hd
  rw [h6] at cS1
  rw [h6]
  go_wp2
  go_loopw [3, 4] (fun v i w' => ∃ k : Nat, k ≤ 6 ∧ i = .int .i64 ((k : Int) + 1) ∧ Rw w' (w.heap.size + 1) v (dyK bs k) ∧ CsAt w' w.heap.size [.slice fa bs.length fc, .slice (some ⟨db, dof, none⟩) 6 dc] ∧ Below w.heap.size w w' ∧ w.heap.size + 2 ≤ w'.heap.size) (fun _ i _ => 7 - (intOf i).toNat)
  case atStart => exact ⟨0, by omega, rfl, by rw [unhide HA0]; exact rN1, cS1, B1, s1⟩
  case round =>
    clear rN1 cS1 B1 s1
    obtain ⟨k, hk, rfl, hR, hC, hB, hS⟩ := hrel
    by_cases h0 : k = 6
    · subst h0
      have hn := (hR.mono (show w.heap.size ≤ w.heap.size + 1 by omega)).new
      go_wp2
      go_ret
      exact ⟨_, rfl, by rw [unhide HE]; exact hn, hB⟩
    · have hk6 : k < 6 := by omega
      have hlt : (k : Int) + 1 ≤ 6 := by omega
      have hlo : (0 : Int) ≤ (k : Int) := by omega
      have x0 := hC.cell 0 _ rfl
      have x1 := hC.cell 1 _ rfl
      have HKS := hide (dyK_succ bs k)
      have HKL := hide (dyK_len bs k)
      go_wp2_with fail
      refine (unhide HV k hk6 _ hB).mono ?_
      rintro e w2 ⟨rfl, b2⟩
      have hR2 := hR.below b2 (Nat.le_refl _)
      have hC2 := hC.below b2 (by omega)
      have hB2 := hB.trans (b2.mono hB.size)
      have hS2 := Nat.le_trans hS b2.size
      clear hR hC hB hS b2 x0 x1
      cases hz : dirtyB bs ((k : Int) + 1)
      · have HX : Hid (dyK bs (k + 1) = dyK bs k) := by show _ = _; rw [unhide HKS, hz]; simp
        go_wp2
        go_roundw
        case rel => exact ⟨k + 1, by omega, by first | rfl | go_num, by rw [unhide HX]; exact hR2, hC2, hB2, hS2⟩
        case measure => simp [intOf]; omega
      · have HX : Hid (dyK bs (k + 1) = dyK bs k ++ [(k : Int) + 1]) := by show _ = _; rw [unhide HKS, hz]; rfl
        generalize dyK bs k = L at *
        have hnw : ∀ j u, [Value.int .i64 ((k : Int) + 1)][j]? = some u → (w2.alloc (.cells #[.int .i64 ((k : Int) + 1)] 3)).cell? ((⟨w2.heap.size, 0, none⟩ : Addr).add j) = some u := src_mid (rangeAt_new w2 [.int .i64 ((k : Int) + 1)] 3)
        have bA : Below w2.heap.size w2 (w2.alloc (.cells #[.int .i64 ((k : Int) + 1)] 3)) := (Below.refl _ _).alloc (Nat.le_refl _) _
        have hR3 := hR2.below bA (Nat.le_refl _)
        have hC3 := hC2.below bA (by omega)
        have hB3 := hB2.trans (bA.mono (by omega))
        have hS3 := Nat.le_trans hS2 bA.size
        have hrow := hR3.row
        have hone : ∀ u ∈ [Value.int .i64 ((k : Int) + 1)], u.oneCell' = true := fun u hu => by simp at hu; subst hu; rfl
        clear hR2 hC2 hB2 hS2 bA
        go_upto_region 6 with (refine wpList_append_own _ rfl _ _ 24 rfl (w.heap.size + 1) 3 iI (.int .i64 0) 1 8 Tryz.underlying24 (unhide HI) hzI hsI hbI rfl (by omega) _ L.length (isC L) rfl hrow ⟨w2.heap.size, 0, none⟩ 1 1 [.int .i64 ((k : Int) + 1)] rfl rfl hnw hone (by have := unhide HKL; simp [maxLen]; omega) (by have := unhide HKL; omega) (by omega) ?_; intro v' w7 ho7 hg7 _)
        obtain ⟨hR7, b7⟩ := hR3.push (x := (k : Int) + 1) (by omega) ho7 hg7
        have hC7 := hC3.below b7 (by omega)
        have hB7 := hB3.trans (b7.mono (by omega))
        have hS7 := Nat.le_trans hS3 b7.size
        rw [← unhide HX] at hR7
        clear hR3 hC3 hB3 hS3 ho7 hg7 b7 hrow hnw
        generalize w2.alloc (.cells #[.int .i64 ((k : Int) + 1)] 3) = w3 at *
        go_wp2
        go_roundw
        case rel => exact ⟨k + 1, by omega, by first | rfl | go_num, hR7, hC7, hB7, hS7⟩
        case measure => simp [intOf]; omega
theorem here : True := trivial
end Go.Proofs.YtogfelpdgeionaaGreat.SpT

/-
  The laws' helpers over lists of numbers: how many; the same in memory of its own; whether two are the same; marks.
-/
namespace Go.Proofs.YtogfelpdgeionaaGreat.LawI
open Go.ChangeShapes Go.WideShapes Go.ChangeAt Go.RowKit Go.Shelf OkA Big Fl ImplB ImplF ImplS _root_.Go.Proofs.YtogfelpdgeionaaGreat.Own ImplT ImplU SpecA SpecB SpecC SpecD SpecW Ok2 Pl ImplL Kp StA StB StD StF StG LawsA LawsE LawV MarkB
set_option linter.unusedVariables false
set_option linter.unusedSimpArgs false
attribute [local go_sem ↓] Go.wp_at_zero Go.wp_at_succ

set_option maxHeartbeats 400000 in
theorem szIntS_any (a : Option Addr) (n cap : Nat) (l : Int) (w : World) (h0 : 0 ≤ l) (h1 : l ≤ 1048576) (hn : (n : Int) ≤ 9223372036854775807) :
    Calls Tryz.prog 125 #[.slice a n cap, .int .i64 l] w fun e w' => e = .returned (.int .i64 (szR l n)) ∧ w' = w := by
  by_cases h : l - n < 0
  · have HR : Hid (szR l n = -1) := if_pos h
    go_enter Tryz.func125, Tryz.ntmps125
    go_wp2
    go_ret
    exact ⟨by rw [unhide HR]; rfl, rfl⟩
  · have HR : Hid (szR l n = l - n) := if_neg h
    go_enter Tryz.func125, Tryz.ntmps125
    go_wp2
    go_ret
    exact ⟨by rw [unhide HR]; rfl, rfl⟩

theorem made_n (n : Nat) : madeCells (Value.int .i64 0).cells (n * 1) = (isC (List.replicate n 0)).toArray := by
  apply Array.ext'
  rw [show (Value.int .i64 0).cells = #[Value.int .i64 0] from rfl, toList_madeCells_one, Nat.mul_one]
  simp [isC]
theorem dk_cell {w : World} {a : Option Addr} {l : List Int} (h : DkAt w a l) (k : Nat) (hk : k < l.length) : ∃ b o, a = some ⟨b, o, none⟩ ∧ w.cell? ⟨b, o + k, none⟩ = some (.int .i64 l[k]) ∧ b < w.heap.size := by
  rcases h with rfl | ⟨b, o, rfl, h⟩
  · simp at hk
  · have := isC_at h k hk
    rw [List.getD_eq_getElem?_getD, List.getElem?_eq_getElem hk] at this
    exact ⟨b, o, rfl, this, cell_lt this⟩
def TiPost (w : World) (l : List Int) (e : Ending) (w' : World) : Prop := e = .returned (.slice (some ⟨w.heap.size, 0, none⟩) l.length l.length) ∧ CsAt w' w.heap.size (isC l) ∧ w.heap.size < w'.heap.size ∧ Below w.heap.size w w'

set_option maxHeartbeats 1000000 in
theorem toIntS_any (a : Option Addr) (cap : Nat) (l : List Int) (w : World) (h : DkAt w a l) (hl : l.length ≤ 1048576) :
    Calls Tryz.prog 128 #[.slice a l.length cap] w fun e w' => TiPost w l e w' := by
  have c0 := CsAt.new w (isC (List.replicate l.length 0)) 3
  have b0 : Below w.heap.size w (w.alloc (.cells (isC (List.replicate l.length 0)).toArray 3)) := (Below.refl _ _).alloc (Nat.le_refl _) _
  have s0 : w.heap.size < (w.alloc (.cells (isC (List.replicate l.length 0)).toArray 3)).heap.size := by simp
  have hli : (l.length : Int) ≤ 1048576 := by omega
  have HP := hide h
  have HM := hide (made_n l.length)
  have HL0 : Hid ((List.replicate l.length (0 : Int)).length = l.length) := by show _ = _; simp
  clear h
  generalize hz : List.replicate l.length (0 : Int) = z at *
  clear hz
  go_enter Tryz.func128, Tryz.ntmps128
  go_wp2_with (refine wpList_make_big rfl 24 _ _ rfl l.length rfl rfl 3 1 8 (.int .i64 0) Tryz.underlying24 made_int (by omega) (by omega) ?_; rw [unhide HM])
  generalize w.alloc (.cells (isC z).toArray 3) = w1 at *
  go_loopw [4] (fun i w' => ∃ (k : Nat) (m : List Int), k ≤ l.length ∧ i = .int .i64 k ∧ m.length = l.length ∧ Hid (∀ j, j < k → m[j]? = l[j]?) ∧ CsAt w' w.heap.size (isC m) ∧ w.heap.size < w'.heap.size ∧ Below w.heap.size w w') (fun i _ => l.length - (intOf i).toNat)
  case atStart => exact ⟨0, z, by omega, rfl, unhide HL0, (fun j hj => by omega), c0, s0, b0⟩
  case round =>
    clear c0 s0 b0
    obtain ⟨k, m, hk, rfl, hm, HI, hC, hs, hB⟩ := hrel
    by_cases h0 : k = l.length
    · subst h0
      have HE : Hid (m = l) := by
        show _ = _
        apply List.ext_getElem?
        intro j
        by_cases q : j < l.length
        · exact unhide HI j q
        · rw [List.getElem?_eq_none (by omega), List.getElem?_eq_none (by omega)]
      rw [unhide HE] at hC
      go_wp2
      go_ret
      exact ⟨rfl, hC, hs, hB⟩
    · have hlt : (k : Int) < (l.length : Int) := by omega
      have hkb : k < l.length := by omega
      have hlo : (0 : Int) ≤ (k : Int) := by omega
      obtain ⟨sb, so, rfl, hx, hsb⟩ := dk_cell ((unhide HP).below hB) k hkb
      have hkl : k < (isC m).length := by rw [len_isC]; omega
      have x0 := hC.cell k _ (List.getElem?_eq_getElem hkl)
      have f0 := hC.frozen k hkl
      have HI2 : Hid (∀ j, j < k + 1 → (m.set k l[k])[j]? = l[j]?) := fun j hj => by
        by_cases q : j = k
        · subst q; rw [List.getElem?_set_self (by omega), List.getElem?_eq_getElem hkb]
        · rw [List.getElem?_set_ne (fun e => q e.symm)]; exact unhide HI j (by omega)
      generalize (isC m)[k] = old at *
      generalize l[k] = v at *
      have hC2 := hC.setInt (k := k) (by omega) v
      have hB2 : Below w.heap.size w (wr.setCell ⟨w.heap.size, k, none⟩ (.int .i64 v)) := hB.setCell (Nat.le_refl _) _
      have hs2 : w.heap.size < (wr.setCell ⟨w.heap.size, k, none⟩ (.int .i64 v)).heap.size := by rw [World.size_setCell]; exact hs
      have hm2 : (m.set k v).length = l.length := by rw [List.length_set]; exact hm
      clear hC
      go_wp2
      go_roundw
      case rel => exact ⟨k + 1, m.set k v, by omega, by first | rfl | go_num, hm2, HI2, hC2, hs2, hB2⟩
      case measure => simp [intOf]; omega

set_option maxHeartbeats 1000000 in
theorem eqIntS_any (a1 a2 : Option Addr) (c1 c2 : Nat) (l : List Int) (w : World) (h1 : DkAt w a1 l) (h2 : DkAt w a2 l) (hl : l.length ≤ 1048576) :
    Calls Tryz.prog 76 #[.slice a1 l.length c1, .slice a2 l.length c2] w fun e w' => e = .returned (.bool true) ∧ Below w.heap.size w w' := by
  have hli : (l.length : Int) ≤ 1048576 := by omega
  have H1 := hide h1
  have H2 := hide h2
  clear h1 h2
  go_enter Tryz.func76, Tryz.ntmps76
  go_wp2
  go_loopw [5] (fun i w' => ∃ k : Nat, k ≤ l.length ∧ i = .int .i64 k ∧ Below w.heap.size w w') (fun i _ => l.length - (intOf i).toNat)
  case atStart => exact ⟨0, by omega, rfl, Below.refl _ _⟩
  case round =>
    obtain ⟨k, hk, rfl, bw⟩ := hrel
    by_cases h0 : k = l.length
    · subst h0
      go_wp2
      go_ret
      exact ⟨rfl, bw⟩
    · have hlt : (k : Int) < (l.length : Int) := by omega
      have hkb : k < l.length := by omega
      have hlo : (0 : Int) ≤ (k : Int) := by omega
      obtain ⟨b1, o1, rfl, x1, l1⟩ := dk_cell ((unhide H1).below bw) k hkb
      obtain ⟨b2, o2, rfl, x2, l2⟩ := dk_cell ((unhide H2).below bw) k hkb
      generalize l[k] = v at *
      go_wp2
      refine wp_region_noPanic ?_
      refine wp_region_held_drew (S := fun w' => w'.cell? ⟨b1, o1 + k, none⟩ = some (.int .i64 v) ∧ w'.cell? ⟨b2, o2 + k, none⟩ = some (.int .i64 v)) (by kernel_rfl) (⟨x1, x2⟩) (fun hHeld => ?_)
      refine takeL 0 (.slice (some ⟨b1, o1, none⟩) l.length c1) rfl (by kernel_rfl) (by kernel_rfl) (by kernel_rfl) (fun _ _ _ h => h) (Or.inl ⟨rfl, fun _ _ => rfl⟩) hHeld ?_
      try simp only [Act.put, List.setIfInBounds_toArray, List.set_cons_zero, List.set_cons_succ]
      refine takeL 1 (.int .i64 k) rfl (by kernel_rfl) (by kernel_rfl) (by kernel_rfl) (fun _ _ _ h => h) (Or.inl ⟨rfl, fun _ _ => rfl⟩) hHeld ?_
      try simp only [Act.put, List.setIfInBounds_toArray, List.set_cons_zero, List.set_cons_succ]
      refine takeL 2 (.pointer (some ⟨b1, o1 + k, none⟩)) rfl (by kernel_rfl) (by kernel_rfl) (by kernel_rfl) (fun _ _ _ h => h) (Or.inl ⟨rfl, fun w9 hSw => by go_simp⟩) hHeld ?_
      try simp only [Act.put, List.setIfInBounds_toArray, List.set_cons_zero, List.set_cons_succ]
      refine takeL 3 (.int .i64 v) rfl (by kernel_rfl) (by kernel_rfl) (by kernel_rfl) (fun _ _ _ h => h) (Or.inl ⟨rfl, fun w9 hSw => by have hc := hSw.1; go_simp⟩) hHeld ?_
      try simp only [Act.put, List.setIfInBounds_toArray, List.set_cons_zero, List.set_cons_succ]
      refine takeL 4 (.slice (some ⟨b2, o2, none⟩) l.length c2) rfl (by kernel_rfl) (by kernel_rfl) (by kernel_rfl) (fun _ _ _ h => h) (Or.inl ⟨rfl, fun _ _ => rfl⟩) hHeld ?_
      try simp only [Act.put, List.setIfInBounds_toArray, List.set_cons_zero, List.set_cons_succ]
      refine takeL 5 (.int .i64 k) rfl (by kernel_rfl) (by kernel_rfl) (by kernel_rfl) (fun _ _ _ h => h) (Or.inl ⟨rfl, fun _ _ => rfl⟩) hHeld ?_
      try simp only [Act.put, List.setIfInBounds_toArray, List.set_cons_zero, List.set_cons_succ]
      refine takeL 6 (.pointer (some ⟨b2, o2 + k, none⟩)) rfl (by kernel_rfl) (by kernel_rfl) (by kernel_rfl) (fun _ _ _ h => h) (Or.inl ⟨rfl, fun w9 hSw => by go_simp⟩) hHeld ?_
      try simp only [Act.put, List.setIfInBounds_toArray, List.set_cons_zero, List.set_cons_succ]
      refine takeL 7 (.int .i64 v) rfl (by kernel_rfl) (by kernel_rfl) (by kernel_rfl) (fun _ _ _ h => h) (Or.inl ⟨rfl, fun w9 hSw => by have hc := hSw.2; go_simp⟩) hHeld ?_
      try simp only [Act.put, List.setIfInBounds_toArray, List.set_cons_zero, List.set_cons_succ]
      refine takeL 8 (.bool false) rfl (by kernel_rfl) (by kernel_rfl) (by kernel_rfl) (fun _ _ _ h => h) (Or.inl ⟨rfl, fun w9 hSw => by go_simp⟩) hHeld ?_
      try simp only [Act.put, List.setIfInBounds_toArray, List.set_cons_zero, List.set_cons_succ]
      refine wpAnyH_done (by kernel_rfl) ?_ _
      refine NoPanic.normal ?_
      have B2 := bw.drew
      clear x1 x2 hHeld
      go_wp2
      go_roundw
      case rel => exact ⟨k + 1, by omega, by first | rfl | go_num, B2⟩
      case measure => simp [intOf]; omega

/-! Marks. -/
def mkI (n : Nat) (k : Int) : List Int := (List.range n).map fun i => k + (i : Nat)
theorem mkI_len (n : Nat) (k : Int) : (mkI n k).length = n := by simp [mkI]
theorem mkI_at (n : Nat) (k : Int) (j : Nat) (hj : j < n) : (mkI n k)[j]? = some (k + (j : Nat)) := by simp [mkI, hj]
def MiPost (w : World) (g n : Nat) (k : Int) (e : Ending) (w' : World) : Prop := e = .returned (.int .i64 (k + (n : Nat))) ∧ CsAt w' g (isC (mkI n k)) ∧ Only [g] w w' ∧ Kept [g] w w'
theorem Only.setInt {L : List Nat} {w w' : World} (h : Only L w w') {b : Nat} (hb : b ∈ L) (o : Nat) (v : Value) : Only L w (w'.setCell ⟨b, o, none⟩ v) := h.setCells hb o [v]

set_option maxHeartbeats 1000000 in
theorem markIntS_any (g cap : Nat) (l : List Int) (k : Int) (w : World) (hC : CsAt w g (isC l)) (hl : l.length ≤ 1048576) (hk0 : 0 ≤ k) (hk1 : k ≤ 6000000000000) :
    Calls Tryz.prog 79 #[.slice (some ⟨g, 0, none⟩) l.length cap, .int .i64 k] w fun e w' => MiPost w g l.length k e w' := by
  have hli : (l.length : Int) ≤ 1048576 := by omega
  have HC := hide hC
  clear hC
  generalize hn : l.length = n at *
  have HN := hide hn
  clear hn
  go_enter Tryz.func79, Tryz.ntmps79
  go_wp2
  go_loopw [5, 1] (fun i q w' => ∃ (j : Nat) (m : List Int), j ≤ n ∧ i = .int .i64 j ∧ q = .int .i64 (k + (j : Nat)) ∧ m.length = n ∧ Hid (∀ i, i < j → m[i]? = some (k + (i : Nat))) ∧ CsAt w' g (isC m) ∧ Only [g] w w' ∧ Kept [g] w w') (fun i _ _ => n - (intOf i).toNat)
  case atStart => exact ⟨0, l, by omega, rfl, by simp, unhide HN, (fun i hi => by omega), unhide HC, Only.refl _ _, Kept.refl _ _⟩
  case round =>
    obtain ⟨j, m, hj, rfl, rfl, hm, HI, hM, hO, hK⟩ := hrel
    by_cases h0 : j = n
    · subst h0
      have HE : Hid (m = mkI j k) := by
        show _ = _
        apply List.ext_getElem?
        intro i
        by_cases q : i < j
        · rw [unhide HI i q, mkI_at _ _ _ q]
        · rw [List.getElem?_eq_none (by omega), List.getElem?_eq_none (by rw [mkI_len]; omega)]
      rw [unhide HE] at hM
      go_wp2
      go_ret
      exact ⟨rfl, hM, hO, hK⟩
    · have hlt : (j : Int) < (n : Int) := by omega
      have hjn : j < n := by omega
      have hlo : (0 : Int) ≤ (j : Int) := by omega
      have hjl : j < (isC m).length := by rw [len_isC]; omega
      have x0 := hM.cell j _ (List.getElem?_eq_getElem hjl)
      have f0 := hM.frozen j hjl
      have hM2 := hM.setInt (k := j) (by omega) (k + (j : Nat))
      have hO2 := Only.setInt hO (show g ∈ [g] by simp) j (.int .i64 (k + (j : Nat)))
      have hK2 := hK.setCell (p := ⟨g, j, none⟩) (.inl (by simp)) (.int .i64 (k + (j : Nat)))
      have HI2 : Hid (∀ i, i < j + 1 → (m.set j (k + (j : Nat)))[i]? = some (k + (i : Nat))) := fun i hi => by
        by_cases q : i = j
        · subst q; rw [List.getElem?_set_self (by omega)]
        · rw [List.getElem?_set_ne (fun e => q e.symm)]; exact unhide HI i (by omega)
      have hm2 : (m.set j (k + (j : Nat))).length = n := by rw [List.length_set]; exact hm
      generalize m.set j (k + (j : Nat)) = m2 at *
      generalize (isC m)[j] = old at *
      clear hM hO hK
      go_wp2
      go_roundw
      case rel => exact ⟨j + 1, m2, by omega, by first | rfl | go_num, by rw [show k + ((j + 1 : Nat) : Int) = k + (j : Nat) + 1 by omega], hm2, HI2, hM2, hO2, hK2⟩
      case measure => simp [intOf]; omega

set_option maxHeartbeats 1000000 in
theorem heldIntS_any (a : Option Addr) (cap n : Nat) (k : Int) (w : World) (hn : n ≤ 1048576) (hk0 : 0 ≤ k) (hk1 : k ≤ 6000000000000) (h : DkAt w a (mkI n k)) :
    Calls Tryz.prog 80 #[.slice a n cap, .int .i64 k] w fun e w' => e = .returned (.int .i64 (k + (n : Nat))) ∧ w' = w := by
  have hni : (n : Int) ≤ 1048576 := by omega
  have HF := hide h
  clear h
  go_enter Tryz.func80, Tryz.ntmps80
  go_wp2
  go_loop [5, 1] (fun i m => ∃ (j : Nat), j ≤ n ∧ i = .int .i64 j ∧ m = .int .i64 (k + (j : Nat))) (fun i _ => n - (intOf i).toNat)
  case atStart => exact ⟨0, by omega, rfl, by simp⟩
  case round =>
    obtain ⟨j, hj, rfl, rfl⟩ := hrel
    by_cases h0 : j = n
    · subst h0
      go_wp2
      go_ret
      exact ⟨rfl, rfl⟩
    · have hlt : (j : Int) < (n : Int) := by omega
      have hlo : (0 : Int) ≤ (j : Int) := by omega
      have hjl : j < (mkI n k).length := by rw [mkI_len]; omega
      obtain ⟨b1, o1, rfl, x1, l1⟩ := dk_cell (unhide HF) j hjl
      have e : (mkI n k)[j] = k + (j : Nat) := by have := mkI_at n k j (by omega); rw [List.getElem?_eq_getElem hjl] at this; exact Option.some.inj this
      rw [e] at x1
      clear e
      go_wp2
      go_round
      case rel => exact ⟨j + 1, by omega, by first | rfl | go_num, by rw [show k + ((j + 1 : Nat) : Int) = k + (j : Nat) + 1 by omega]⟩
      case measure => simp [intOf]; omega
end Go.Proofs.YtogfelpdgeionaaGreat.LawI

/-
  The laws' helpers over stores: how much there is; the same in memory of its own; whether two are the same; marks. A law's argument that is a store, opened.
-/
namespace Go.Proofs.YtogfelpdgeionaaGreat.LawS
open Go.ChangeShapes Go.WideShapes Go.ChangeAt Go.RowKit Go.Shelf Go.Joins OkA Big Fl ImplB ImplF ImplS _root_.Go.Proofs.YtogfelpdgeionaaGreat.Own ImplT ImplU SpecA SpecB SpecC SpecD SpecW Ok2 Pl ImplL Kp StA StB StD StF StG LawsA LawsB LawsE LawV LawI OpenF MarkB
set_option linter.unusedVariables false
set_option linter.unusedSimpArgs false
attribute [local go_sem ↓] Go.wp_at_zero Go.wp_at_succ

/-- A store's lists are no longer than memory. -/
def FitS (z : List Bk) (dk : List Int) : Prop := Fit z ∧ (dk.length : Int) ≤ 9223372036854775807
def SsPost (w : World) (z : List Bk) (dk : List Int) (e : Ending) (w' : World) : Prop := ∃ r : Int, e = .returned (.int .i64 r) ∧ -1 ≤ r ∧ r ≤ 1048576 ∧ (0 ≤ r → z.length ≤ 1048576 ∧ (∀ b ∈ z, b.ps.length ≤ 1048576) ∧ dk.length ≤ 1048576) ∧ Below w.heap.size w w'

set_option maxHeartbeats 1000000 in
theorem szStore_any (fa : Option Addr) (fc : Nat) (z : List Bk) (da : Option Addr) (dc : Nat) (dk : List Int) (w : World) (h : SAt w fa z da dk) (fit : FitS z dk) :
    Calls Tryz.prog 50 #[.agg #[.slice fa z.length fc, .slice da dk.length dc], .int .i64 1048576] w fun e w' => SsPost w z dk e w' := by
  have B0 : Below w.heap.size w (w.alloc (.cells #[.slice fa z.length fc, .slice da dk.length dc] 56)) := (Below.refl _ _).alloc (Nat.le_refl _) _
  have cS := CsAt.new w [.slice fa z.length fc, .slice da dk.length dc] 56
  have s0 : w.heap.size < (w.alloc (.cells #[.slice fa z.length fc, .slice da dk.length dc] 56)).heap.size := by simp
  have HC := hide (szBlockS_any fa fc z _ (h.below B0).fs fit.1)
  have hd := fit.2
  clear h fit
  go_enter Tryz.func50, Tryz.ntmps50
  go_wp2_with fail
  refine (unhide HC).mono ?_
  rintro e w1 ⟨r, rfl, r0, r1, hr, b1⟩
  have B1 := B0.trans (b1.mono B0.size)
  have x1 := (cS.below b1 s0).cell 1 _ rfl
  clear cS B0 HC b1
  by_cases hneg : r < 0
  · clear hr
    go_wp2
    go_ret
    exact ⟨-1, rfl, by omega, by omega, (fun h => by omega), B1⟩
  have HR := hide (hr (by omega))
  clear hr
  have HI := hide (fun (w' : World) => szIntS_any da dk.length dc r w' (by omega) r1 hd)
  by_cases h2 : r - dk.length < 0
  · have hR : szR r dk.length = -1 := if_pos h2
    rw [hR] at HI
    clear hR
    go_wp2_with (go_at_call 125; refine (unhide HI _).mono ?_; rintro e w' ⟨rfl, rfl⟩)
    go_ret
    exact ⟨-1, rfl, by omega, by omega, (fun h => by omega), B1⟩
  · have hR : szR r dk.length = r - dk.length := if_neg h2
    rw [hR] at HI
    clear hR
    go_wp2_with (go_at_call 125; refine (unhide HI _).mono ?_; rintro e w' ⟨rfl, rfl⟩)
    go_ret
    exact ⟨r - dk.length, rfl, by omega, by omega, (fun h => ⟨(unhide HR).1, (unhide HR).2, by omega⟩), B1⟩

/-- A store in rows of its own. -/
structure OwnS (w : World) (lo g : Nat) (G : List Nat) (d : Nat) (z : List Bk) (dk : List Int) : Prop where
  own : Own.Own w lo g G z z.length
  ds : CsAt w d (isC dk)
  dlo : lo ≤ d
  dhi : d < w.heap.size
  dne : d ∉ g :: G
theorem OwnS.sat {w : World} {lo g d : Nat} {G : List Nat} {z : List Bk} {dk : List Int} (h : OwnS w lo g G d z dk) : SAt w (some ⟨g, 0, none⟩) z (some ⟨d, 0, none⟩) dk := ⟨h.own.fs, .inr ⟨d, 0, rfl, h.ds.cells⟩⟩
theorem OwnS.below {w w' : World} {lo g d : Nat} {G : List Nat} {z : List Bk} {dk : List Int} (h : OwnS w lo g G d z dk) {B : Nat} (hb : Below B w w') (hB : w.heap.size ≤ B) : OwnS w' lo g G d z dk :=
  ⟨h.own.below hb hB, h.ds.below hb (Nat.lt_of_lt_of_le h.dhi hB), h.dlo, Nat.lt_of_lt_of_le h.dhi hb.size, h.dne⟩
theorem OwnS.mono {w : World} {lo g d : Nat} {G : List Nat} {z : List Bk} {dk : List Int} (h : OwnS w lo g G d z dk) {lo' : Nat} (hl : lo' ≤ lo) : OwnS w lo' g G d z dk := ⟨h.own.mono hl, h.ds, Nat.le_trans hl h.dlo, h.dhi, h.dne⟩
def TsPost (w : World) (z : List Bk) (dk : List Int) (e : Ending) (w' : World) : Prop := ∃ g G d, e = .returned (.agg #[.slice (some ⟨g, 0, none⟩) z.length z.length, .slice (some ⟨d, 0, none⟩) dk.length dk.length]) ∧ OwnS w' w.heap.size g G d z dk ∧ Below w.heap.size w w'
theorem size_st (x y : Value) : (Tryz.prog.info? 26).map (·.size) = some [x, y].length := by show _ = some 2; kernel_rfl
theorem keptS {w w' : World} {lo g d : Nat} {G : List Nat} {z : List Bk} {dk : List Int} (h : OwnS w lo g G d z dk) {L : List Nat} (ho : Only L w w') (hs : w.heap.size ≤ w'.heap.size) (hL : ∀ x ∈ d :: g :: G, x ∉ L) : OwnS w' lo g G d z dk :=
  ⟨LawV.Own.only h.own ho (fun x hx => hL x (List.mem_cons_of_mem _ hx)), ⟨fun j v hv => by rw [ho.cell d _ (hL d (by simp))]; exact h.ds.cells j v hv, fun j hj => by rw [ho.cell d _ (hL d (by simp)), ho.frozen d _ (hL d (by simp))]; exact h.ds.free j hj⟩, h.dlo, Nat.lt_of_lt_of_le h.dhi hs, h.dne⟩

set_option maxHeartbeats 1000000 in
theorem toStore_any (fa : Option Addr) (fc : Nat) (z : List Bk) (da : Option Addr) (dc : Nat) (dk : List Int) (w : World) (h : SAt w fa z da dk) (hl : z.length ≤ 1048576) (hp : ∀ b ∈ z, b.ps.length ≤ 1048576) (hd : dk.length ≤ 1048576) :
    Calls Tryz.prog 52 #[.agg #[.slice fa z.length fc, .slice da dk.length dc]] w fun e w' => TsPost w z dk e w' := by
  have B0 : Below w.heap.size w (((w.alloc (.cells #[.slice fa z.length fc, .slice da dk.length dc] 56)).alloc (.cells #[.slice none 0 0, .slice none 0 0] 26)).alloc (.cells #[.slice none 0 0, .slice none 0 0] 26)) := (((Below.refl _ _).alloc (Nat.le_refl _) _).alloc (by simp) _).alloc (by simp; omega) _
  have cA := ((CsAt.new w [.slice fa z.length fc, .slice da dk.length dc] 56).alloc (by simp) (.cells #[.slice none 0 0, .slice none 0 0] 26)).alloc (by simp; omega) (.cells #[.slice none 0 0, .slice none 0 0] 26)
  have cR := (CsAt.new (w.alloc (.cells #[.slice fa z.length fc, .slice da dk.length dc] 56)) [.slice none 0 0, .slice none 0 0] 26).alloc (by simp) (.cells #[.slice none 0 0, .slice none 0 0] 26)
  have cO := CsAt.new ((w.alloc (.cells #[.slice fa z.length fc, .slice da dk.length dc] 56)).alloc (.cells #[.slice none 0 0, .slice none 0 0] 26)) [.slice none 0 0, .slice none 0 0] 26
  rw [World.size_alloc] at cR cO
  rw [World.size_alloc] at cO
  have s0 : (((w.alloc (.cells #[.slice fa z.length fc, .slice da dk.length dc] 56)).alloc (.cells #[.slice none 0 0, .slice none 0 0] 26)).alloc (.cells #[.slice none 0 0, .slice none 0 0] 26)).heap.size = w.heap.size + 3 := by simp
  have HA := hide h
  have HT := hide (toBlockS_any fa fc z _ (h.below B0).fs hl hp)
  have x0 := cA.cell 0 _ rfl
  clear h
  go_enter Tryz.func52, Tryz.ntmps52
  go_wp2_with fail
  generalize ((w.alloc (.cells #[.slice fa z.length fc, .slice da dk.length dc] 56)).alloc (.cells #[.slice none 0 0, .slice none 0 0] 26)).alloc (.cells #[.slice none 0 0, .slice none 0 0] 26) = w0 at *
  refine (unhide HT).mono ?_
  rintro e w1 ⟨g, G, rfl, o1, b1⟩
  have q1 := b1.size
  have cA1 := cA.below b1 (by omega)
  have cR1 := cR.below b1 (by omega)
  have cO1 := cO.below b1 (by omega)
  have B1 := B0.trans (b1.mono B0.size)
  have hg : ∀ x ∈ g :: G, w.heap.size + 3 ≤ x := fun x hx => by have := o1.lo x hx; omega
  clear cA cR cO B0 x0 HT b1
  have u0 := cO1.cell 0 _ rfl
  have f0 := cO1.frozen 0 (by simp)
  have e0 : w1.setCell ⟨w.heap.size + 1 + 1, 0, none⟩ (Value.slice (some ⟨g, 0, none⟩) z.length z.length) = w1.setCells (w.heap.size + 1 + 1) 0 [(Value.slice (some ⟨g, 0, none⟩) z.length z.length)] := rfl
  have kz := keptC w1 (w.heap.size + 1 + 1) 0 [(Value.slice (some ⟨g, 0, none⟩) z.length z.length)]
  have cA2 := cA1.other (show w.heap.size ≠ w.heap.size + 1 + 1 by omega) 0 [(Value.slice (some ⟨g, 0, none⟩) z.length z.length)]
  have cR2 := cR1.other (show w.heap.size + 1 ≠ w.heap.size + 1 + 1 by omega) 0 [(Value.slice (some ⟨g, 0, none⟩) z.length z.length)]
  have cO2 : CsAt (w1.setCells (w.heap.size + 1 + 1) 0 [(Value.slice (some ⟨g, 0, none⟩) z.length z.length)]) (w.heap.size + 1 + 1) [(Value.slice (some ⟨g, 0, none⟩) z.length z.length), .slice none 0 0] := by
    have := cO1.put [(Value.slice (some ⟨g, 0, none⟩) z.length z.length), .slice none 0 0] rfl
    refine ⟨fun j v hv => ?_, World.there_setCells cO1.free _ _ _⟩
    match j, hv with
    | 0, hv => (obtain rfl : v = (Value.slice (some ⟨g, 0, none⟩) z.length z.length) := by simpa using hv.symm); exact cell_setCells_eq (vs := [(Value.slice (some ⟨g, 0, none⟩) z.length z.length)]) (there_sub cO1.free 0 1 (by simp)) 0 (by simp)
    | 1, hv => (obtain rfl : v = .slice none 0 0 := by simpa using hv.symm); rw [cell_setCells_ne (.inr (by simp))]; exact cO1.cells 1 _ rfl
    | n + 2, hv => simp at hv
  have o2 := LawV.Own.only o1 (L := [w.heap.size + 1 + 1]) (show Only _ w1 (w1.setCells (w.heap.size + 1 + 1) 0 [(Value.slice (some ⟨g, 0, none⟩) z.length z.length)]) from (Only.refl _ _).setCells (by simp) 0 [(Value.slice (some ⟨g, 0, none⟩) z.length z.length)]) (fun x hx => by have := hg x hx; simp; omega)
  have B2 := below_setCells (w.heap.size + 1 + 1) (show w.heap.size ≤ w.heap.size + 1 + 1 by omega) [(Value.slice (some ⟨g, 0, none⟩) z.length z.length)] 0 _ B1
  have s2 : (w1.setCells (w.heap.size + 1 + 1) 0 [(Value.slice (some ⟨g, 0, none⟩) z.length z.length)]).heap.size ≥ w1.heap.size := by rw [size_setCells]; exact Nat.le_refl _
  have HI := hide (toIntS_any da dc dk _ ((unhide HA).below B2).ds hd)
  have x1 := cA2.cell 1 _ rfl
  clear cA1 cR1 cO1 o1 B1 kz
  go_wp2_with fail
  try rw [e0]
  clear e0 u0 f0
  generalize w1.setCells (w.heap.size + 1 + 1) 0 [(Value.slice (some ⟨g, 0, none⟩) z.length z.length)] = w2 at *
  refine (unhide HI).mono ?_
  rintro e w3 ⟨rfl, c3, s3, b3⟩
  have cR3 := cR2.below b3 (by omega)
  have cO3 := cO2.below b3 (by omega)
  have o3 := o2.below b3 (Nat.le_refl _)
  have B3 := B2.trans (b3.mono B2.size)
  have hdg : w2.heap.size ∉ g :: G := fun hm => by have := o2.hi _ hm; omega
  generalize hd' : w2.heap.size = d at *
  clear cR2 cO2 o2 B2 x1 HI b3 cA2
  have u1 := cO3.cell 1 _ rfl
  have u0 := cO3.cell 0 _ rfl
  have f1 := cO3.frozen 1 (by simp)
  have v0 := cR3.cell 0 _ rfl
  have v1 := cR3.cell 1 _ rfl
  have h0 := cR3.frozen 0 (by simp)
  have h1 := cR3.frozen 1 (by simp)
  have ne1 : ∀ x ∈ d :: g :: G, x ∉ [w.heap.size + 1, w.heap.size + 1 + 1] := fun x hx => by
    rcases List.mem_cons.1 hx with rfl | hx
    · simp; omega
    · have := hg x hx; simp; omega
  have S3 : OwnS w3 w.heap.size g G d z dk := ⟨o3.mono (by omega), c3, by omega, by omega, hdg⟩
  have oN : Only [w.heap.size + 1, w.heap.size + 1 + 1] w3 (((w3.setCells (w.heap.size + 1 + 1) 1 [(Value.slice (some ⟨d, 0, none⟩) dk.length dk.length)]).setCells (w.heap.size + 1) 0 [(Value.slice (some ⟨g, 0, none⟩) z.length z.length), (Value.slice (some ⟨d, 0, none⟩) dk.length dk.length)])) := ((Only.refl _ _).setCells (by simp) 1 [(Value.slice (some ⟨d, 0, none⟩) dk.length dk.length)]).setCells (by simp) 0 [(Value.slice (some ⟨g, 0, none⟩) z.length z.length), (Value.slice (some ⟨d, 0, none⟩) dk.length dk.length)]
  have SZ := keptS S3 oN (by rw [size_setCells, size_setCells]; omega) ne1
  have BZ := below_setCells (w.heap.size + 1) (show w.heap.size ≤ w.heap.size + 1 by omega) [(Value.slice (some ⟨g, 0, none⟩) z.length z.length), (Value.slice (some ⟨d, 0, none⟩) dk.length dk.length)] 0 _ (below_setCells (w.heap.size + 1 + 1) (show w.heap.size ≤ w.heap.size + 1 + 1 by omega) [(Value.slice (some ⟨d, 0, none⟩) dk.length dk.length)] 1 _ B3)
  have rZ := ((cR3.other (show w.heap.size + 1 ≠ w.heap.size + 1 + 1 by omega) 1 [(Value.slice (some ⟨d, 0, none⟩) dk.length dk.length)]).put [(Value.slice (some ⟨g, 0, none⟩) z.length z.length), (Value.slice (some ⟨d, 0, none⟩) dk.length dk.length)] rfl).cells
  clear cR3 cO3 o3 S3 oN c3 B3
  go_wp2
  refine bodyPost_ret (res_cell_mid Tryz.results52 _ _ (w.heap.size + 1) [(Value.slice (some ⟨g, 0, none⟩) z.length z.length), (Value.slice (some ⟨d, 0, none⟩) dk.length dk.length)] _ rfl rZ Tryz.underlying26 rfl (size_st (Value.slice (some ⟨g, 0, none⟩) z.length z.length) (Value.slice (some ⟨d, 0, none⟩) dk.length dk.length))) rfl ?_
  exact ⟨g, G, d, rfl, SZ, BZ⟩

set_option maxHeartbeats 1000000 in
theorem eqStore_any (f1 f2 d1 d2 : Option Addr) (c1 c2 e1 e2 : Nat) (z : List Bk) (dk : List Int) (w : World) (h1 : SAt w f1 z d1 dk) (h2 : SAt w f2 z d2 dk) (hl : z.length ≤ 1048576) (hp : ∀ b ∈ z, b.ps.length ≤ 1048576) (hd : dk.length ≤ 1048576) :
    Calls Tryz.prog 56 #[.agg #[.slice f1 z.length c1, .slice d1 dk.length e1], .agg #[.slice f2 z.length c2, .slice d2 dk.length e2]] w fun e w' => e = .returned (.bool true) ∧ Below w.heap.size w w' := by
  have B0 : Below w.heap.size w ((w.alloc (.cells #[.slice f1 z.length c1, .slice d1 dk.length e1] 26)).alloc (.cells #[.slice f2 z.length c2, .slice d2 dk.length e2] 26)) := ((Below.refl _ _).alloc (Nat.le_refl _) _).alloc (by simp) _
  have cA := (store_box w (.slice f1 z.length c1) (.slice d1 dk.length e1)).alloc (by simp) (.cells #[.slice f2 z.length c2, .slice d2 dk.length e2] 26)
  have cB := store_box (w.alloc (.cells #[.slice f1 z.length c1, .slice d1 dk.length e1] 26)) (.slice f2 z.length c2) (.slice d2 dk.length e2)
  rw [World.size_alloc] at cB
  have s0 : ((w.alloc (.cells #[.slice f1 z.length c1, .slice d1 dk.length e1] 26)).alloc (.cells #[.slice f2 z.length c2, .slice d2 dk.length e2] 26)).heap.size = w.heap.size + 2 := by simp
  have H1 := hide (h1.below B0)
  have H2 := hide (h2.below B0)
  have x0 := cA.cell 0 _ rfl
  have y0 := cB.cell 0 _ rfl
  clear h1 h2
  go_enter Tryz.func56, Tryz.ntmps56
  go_wp2_with fail
  generalize (w.alloc (.cells #[.slice f1 z.length c1, .slice d1 dk.length e1] 26)).alloc (.cells #[.slice f2 z.length c2, .slice d2 dk.length e2] 26) = w0 at *
  refine (eqBlockS_any f1 f2 c1 c2 z w0 (unhide H1).fs (unhide H2).fs hl hp).mono ?_
  rintro e w1 ⟨rfl, b1⟩
  have x1 := (cA.below b1 (by omega)).cell 1 _ rfl
  have y1 := (cB.below b1 (by omega)).cell 1 _ rfl
  have B1 := B0.trans (b1.mono B0.size)
  have H3 := hide ((unhide H1).below b1).ds
  have H4 := hide ((unhide H2).below b1).ds
  clear cA cB x0 y0 B0 b1
  go_wp2_with fail
  refine (eqIntS_any d1 d2 e1 e2 dk w1 (unhide H3) (unhide H4) hd).mono ?_
  rintro e w2 ⟨rfl, b2⟩
  have B2 := B1.trans (b2.mono B1.size)
  clear x1 y1 B1 b2
  go_wp2
  go_ret
  exact ⟨rfl, B2⟩

variable {H : Type} {enc : TypeId × Value → H} {w : World}
theorem open_intS {fuel : Nat} {V : Value} {x : DataW H × List MemPlace} (h : DataW.trod enc Tryz.prog w 0 (fun _ => true) true fuel 24 [V] = some x) :
    ∃ a l cap, V = .slice a (l : List Int).length cap ∧ DkAt w a l ∧ l.length ≤ 9223372036854775807 := by
  rcases open_ints Tryz.underlying24 Tryz.underlying3 (by kernel_rfl) h with ⟨hcs, _⟩ | ⟨a, len, c, zs, hcs, _, hl, hm, hz, _, hcell, hwz⟩
  · simp at hcs; subst hcs; exact ⟨none, [], 0, rfl, .inl rfl, by simp⟩
  · simp at hcs
    subst hcs
    simp only [if_true] at hz
    have hlen : (zs.take len).length = len := by rw [List.length_take]; omega
    refine ⟨some a, zs.take len, c, by rw [hlen], ?_, ?_⟩
    · by_cases h0 : len = 0
      · subst h0; exact .inl (by simp)
      · obtain ⟨b, o, s⟩ := a
        have c0 := hcell 0 (by omega)
        have hs : s = none := by
          have : w.cell? ⟨b, o, s⟩ = some (.int .i64 (zs.getD 0 0)) := by simpa [Addr.add] using c0
          exact spot_none this
        subst hs
        refine .inr ⟨b, o, rfl, fun j v hv => ?_⟩
        have hj : j < len := by have := (List.getElem?_eq_some_iff.1 hv).1; rw [len_isC, hlen] at this; exact this
        have := hcell j (by omega)
        rw [Addr.add_mid] at this
        rw [this]
        simp only [isC, List.getElem?_map, List.getElem?_take, if_pos hj] at hv
        rw [List.getD_eq_getElem?_getD]
        rw [List.getElem?_eq_getElem (show j < zs.length by omega)] at hv ⊢
        simpa using hv
    · rw [hlen]
      unfold maxLen at hm
      omega
theorem open_store {fuel : Nat} {cs : List Value} {x : DataW H × List MemPlace} (h : DataW.trod enc Tryz.prog w 0 (fun _ => true) true fuel 56 cs = some x) :
    ∃ fa fc z da dc dk, cs = [.slice fa (z : List Bk).length fc, .slice da (dk : List Int).length dc] ∧ SAt w fa z da dk ∧ FitS z dk := by
  obtain ⟨y0, y1, n, _, hl, h0, h1⟩ := trod_struct2 Tryz.underlying56 h
  rw [show Tryz.prog.cellsOf 56 = 2 by kernel_rfl] at hl
  obtain ⟨c0, c1, rfl⟩ := list2 hl
  rw [show Tryz.prog.cellsOf 24 = 1 by kernel_rfl] at h1
  rw [show Tryz.prog.cellsOf 54 = 1 by kernel_rfl] at h0
  obtain ⟨fa, z, fc, e0, hz, fit⟩ := open_flash h0
  obtain ⟨da, dk, dc, e1, hd, hle⟩ := open_intS h1
  subst e0 e1
  exact ⟨fa, fc, z, da, dc, dk, rfl, ⟨hz, hd⟩, fit, by omega⟩
end Go.Proofs.YtogfelpdgeionaaGreat.LawS

/-
  What a call has answered, a list of numbers: whether two are the same, marks, and what marks on a store leave as it was.
-/
namespace Go.Proofs.YtogfelpdgeionaaGreat.LawT
open Go.ChangeShapes Go.WideShapes Go.ChangeAt Go.RowKit Go.Shelf Go.Joins OkA Big Fl ImplB ImplF ImplS _root_.Go.Proofs.YtogfelpdgeionaaGreat.Own ImplT ImplU SpecA SpecB SpecC SpecD SpecW Ok2 Pl ImplL Kp StA StB StD StF StG LawsA LawsB LawsE LawV LawI LawS OpenF MarkB
set_option linter.unusedVariables false
set_option linter.unusedSimpArgs false
attribute [local go_sem ↓] Go.wp_at_zero Go.wp_at_succ

/-- All blocks that were there, but for those of L, read as they read. -/
structure OnlyG (L : List Nat) (w w' : World) : Prop where
  size : w.heap.size ≤ w'.heap.size
  cell : ∀ x p, x < w.heap.size → x ∉ L → w'.cell? ⟨x, p, none⟩ = w.cell? ⟨x, p, none⟩
  frozen : ∀ x p, x < w.heap.size → x ∉ L → w'.frozen? ⟨x, p, none⟩ = w.frozen? ⟨x, p, none⟩
variable {w w' w'' : World} {L : List Nat}
theorem OnlyG.of (h : Below w.heap.size w w') : OnlyG L w w' := ⟨h.size, fun x p hx _ => h.cell (p := ⟨x, p, none⟩) hx, fun x p hx _ => h.frozen (p := ⟨x, p, none⟩) hx⟩
theorem OnlyG.only (h : Only L w w') : OnlyG L w w' := ⟨by rw [h.size]; exact Nat.le_refl _, fun x p _ hx => h.cell x p hx, fun x p _ hx => h.frozen x p hx⟩
theorem OnlyG.kept (h : Kept L w w') : OnlyG L w w' := ⟨h.size, fun x p hx hn => h.cell p hx hn, fun x p hx hn => h.frozen p hx hn⟩
theorem OnlyG.trans (h : OnlyG L w w') (g : OnlyG L w' w'') : OnlyG L w w'' :=
  ⟨Nat.le_trans h.size g.size, fun x p hx hn => (g.cell x p (Nat.lt_of_lt_of_le hx h.size) hn).trans (h.cell x p hx hn), fun x p hx hn => (g.frozen x p (Nat.lt_of_lt_of_le hx h.size) hn).trans (h.frozen x p hx hn)⟩
theorem OnlyG.sub {M : List Nat} (h : OnlyG L w w') (hs : ∀ x ∈ L, x ∈ M ∨ w.heap.size ≤ x) : OnlyG M w w' :=
  ⟨h.size, fun x p hx hn => h.cell x p hx (fun hm => (hs x hm).elim hn (fun q => by omega)), fun x p hx hn => h.frozen x p hx (fun hm => (hs x hm).elim hn (fun q => by omega))⟩

/-- A list of numbers: empty, or a row of its own from lo to hi. -/
def InI (w : World) (lo hi : Nat) (v : Value) (l : List Int) : Prop := (l = [] ∧ ∃ a c, v = .slice a 0 c) ∨ ∃ g cap, v = .slice (some ⟨g, 0, none⟩) l.length cap ∧ lo ≤ g ∧ g < hi ∧ CsAt w g (isC l)
theorem InI.of {lo : Nat} {v : Value} {l : List Int} (h : NewIs w lo v l) : InI w lo w.heap.size v l := by
  rcases h with h | ⟨g, cap, e, h1, h2, h⟩
  · exact .inl h
  · exact .inr ⟨g, cap, e, h1, h2, h⟩
theorem InI.only {lo hi : Nat} {v : Value} {l : List Int} (h : InI w lo hi v l) (ho : OnlyG L w w') (hh : hi ≤ w.heap.size) (hL : ∀ x ∈ L, x < lo ∨ hi ≤ x) : InI w' lo hi v l := by
  rcases h with h | ⟨g, cap, e, h1, h2, h⟩
  · exact .inl h
  · have hg : g ∉ L := fun hm => by have := hL g hm; omega
    exact .inr ⟨g, cap, e, h1, h2, fun j u hu => by rw [ho.cell g _ (by omega) hg]; exact h.cells j u hu, fun j hj => by rw [ho.cell g _ (by omega) hg, ho.frozen g _ (by omega) hg]; exact h.free j hj⟩
theorem InI.below {lo hi : Nat} {v : Value} {l : List Int} (h : InI w lo hi v l) (hb : Below w.heap.size w w') (hh : hi ≤ w.heap.size) : InI w' lo hi v l := h.only (L := []) (OnlyG.of hb) hh (fun x hx => by simp at hx)
theorem InI.form {lo hi : Nat} {v : Value} {l : List Int} (h : InI w lo hi v l) : ∃ a cap, v = .slice a l.length cap ∧ DkAt w a l := by
  rcases h with ⟨rfl, a, c, rfl⟩ | ⟨g, cap, rfl, _, _, h⟩
  · exact ⟨a, c, rfl, .inl rfl⟩
  · exact ⟨_, cap, rfl, .inr ⟨g, 0, rfl, h.cells⟩⟩
theorem eqI {l1 h1 l2 h2 : Nat} {v1 v2 : Value} {l : List Int} (hl : l.length ≤ 6) (g1 : InI w l1 h1 v1 l) (g2 : InI w l2 h2 v2 l) :
    Calls Tryz.prog 76 #[v1, v2] w fun e w' => e = .returned (.bool true) ∧ Below w.heap.size w w' := by
  obtain ⟨a1, c1, rfl, d1⟩ := g1.form
  obtain ⟨a2, c2, rfl, d2⟩ := g2.form
  exact eqIntS_any a1 a2 c1 c2 l w d1 d2 (by omega)
theorem markI_nil (a : Option Addr) (cap : Nat) (w : World) : Calls Tryz.prog 79 #[.slice a 0 cap, .int .i64 1] w fun e w' => e = .returned (.int .i64 1) ∧ w' = w := by
  go_enter Tryz.func79, Tryz.ntmps79
  go_wp2
  go_loop [5, 1] (fun i m => i = .int .i64 0 ∧ m = .int .i64 1) (fun _ _ => 0)
  case atStart => exact ⟨rfl, rfl⟩
  case round =>
    obtain ⟨rfl, rfl⟩ := hrel
    go_wp2
    go_ret
    exact ⟨rfl, rfl⟩
def MvI (w : World) (lo hi : Nat) (v : Value) (n : Nat) (e : Ending) (w' : World) : Prop := e = .returned (.int .i64 (1 + (n : Nat))) ∧ InI w' lo hi v (mkI n 1) ∧ ∃ M : List Nat, OnlyG M w w' ∧ Below lo w w' ∧ ∀ x ∈ M, lo ≤ x ∧ x < hi
theorem markI {lo hi : Nat} {v : Value} {l : List Int} (hl : l.length ≤ 6) (hlo : lo ≤ w.heap.size) (h : InI w lo hi v l) :
    Calls Tryz.prog 79 #[v, .int .i64 1] w fun e w' => MvI w lo hi v l.length e w' := by
  rcases h with ⟨rfl, a, c, rfl⟩ | ⟨g, cap, rfl, h1, h2, h⟩
  · refine (markI_nil a c w).mono ?_
    rintro e w' ⟨rfl, rfl⟩
    exact ⟨rfl, .inl ⟨rfl, a, c, rfl⟩, [], OnlyG.of (Below.refl _ _), Below.refl _ _, fun x hx => by simp at hx⟩
  · refine (markIntS_any g cap l 1 w h (by omega) (by omega) (by omega)).mono ?_
    rintro e w' ⟨rfl, c, o, k⟩
    exact ⟨rfl, .inr ⟨g, cap, by rw [mkI_len], h1, h2, c⟩, [g], OnlyG.only o, k.below (fun x hx => by simp at hx; subst hx; exact h1) hlo, fun x hx => by simp at hx; subst hx; exact ⟨h1, h2⟩⟩
theorem heldI {lo hi : Nat} {v : Value} {n : Nat} (hn : n ≤ 6) (h : InI w lo hi v (mkI n 1)) :
    Calls Tryz.prog 80 #[v, .int .i64 1] w fun e w' => e = .returned (.int .i64 (1 + (n : Nat))) ∧ w' = w := by
  obtain ⟨a, c, rfl, f⟩ := h.form
  rw [mkI_len]
  exact heldIntS_any a c n 1 w (by omega) (by omega) (by omega) f

/-- Marks on a store of any shape. -/
def MsPost (w : World) (lo g : Nat) (G : List Nat) (d : Nat) (e : Ending) (w' : World) : Prop := ∃ m : Int, e = .returned (.int .i64 m) ∧ 0 ≤ m ∧ OnlyG (d :: g :: G) w w' ∧ Below lo w w'
set_option maxHeartbeats 1000000 in
theorem markS_any (lo g d c1 c2 : Nat) (G : List Nat) (z : List Bk) (dk : List Int) (w : World) (hlo : lo ≤ w.heap.size) (o : OwnS w lo g G d z dk) (hl : z.length ≤ 1048576) (hp : ∀ b ∈ z, b.ps.length ≤ 1048576) (hd : dk.length ≤ 1048576) :
    Calls Tryz.prog 57 #[.agg #[.slice (some ⟨g, 0, none⟩) z.length c1, .slice (some ⟨d, 0, none⟩) dk.length c2], .int .i64 1] w fun e w' => MsPost w lo g G d e w' := by
  have B0 : Below w.heap.size w (w.alloc (.cells #[.slice (some ⟨g, 0, none⟩) z.length c1, .slice (some ⟨d, 0, none⟩) dk.length c2] 26)) := (Below.refl _ _).alloc (Nat.le_refl _) _
  have cS := store_box w (.slice (some ⟨g, 0, none⟩) z.length c1) (.slice (some ⟨d, 0, none⟩) dk.length c2)
  have s0 : (w.alloc (.cells #[.slice (some ⟨g, 0, none⟩) z.length c1, .slice (some ⟨d, 0, none⟩) dk.length c2] 26)).heap.size = w.heap.size + 1 := by simp
  have o0 := o.below B0 (Nat.le_refl _)
  have hhi : ∀ x ∈ d :: g :: G, x < w.heap.size := fun x hx => by
    rcases List.mem_cons.1 hx with rfl | hx
    · exact o.dhi
    · exact o.own.hi x hx
  have x0 := cS.cell 0 _ rfl
  have hdn := o.dne
  have HP : Hid (Sized z) := hp
  clear o
  go_enter Tryz.func57, Tryz.ntmps57
  go_wp2_with fail
  generalize w.alloc (.cells #[.slice (some ⟨g, 0, none⟩) z.length c1, .slice (some ⟨d, 0, none⟩) dk.length c2] 26) = w0 at *
  refine (markL_any lo g c1 z.length G z w0 o0.own hl (unhide HP)).mono ?_
  rintro e w1 ⟨m, rfl, m0, m1, y1, b1⟩
  have g1 : OnlyG (d :: g :: G) w w1 := (OnlyG.of B0).trans ((OnlyG.only y1).sub (fun x hx => .inl (List.mem_cons_of_mem _ hx)))
  have z1 := y1.size
  have hSn : w.heap.size ∉ g :: G := fun hm => by have := hhi _ (List.mem_cons_of_mem _ hm); omega
  have x1 : w1.cell? ⟨w.heap.size, 1, none⟩ = some (.slice (some ⟨d, 0, none⟩) dk.length c2) := by rw [y1.cell _ _ hSn]; exact cS.cell 1 _ rfl
  have c1' : CsAt w1 d (isC dk) := ⟨fun j v hv => by rw [y1.cell d _ hdn]; exact o0.ds.cells j v hv, fun j hj => by rw [y1.cell d _ hdn, y1.frozen d _ hdn]; exact o0.ds.free j hj⟩
  have B1 := (B0.mono hlo).trans b1
  have hdl := o0.dlo
  have hdh := hhi d (by simp)
  clear cS x0 o0 y1 b1 B0
  go_wp2_with fail
  refine (markIntS_any d c2 dk m w1 c1' hd m0 m1).mono ?_
  rintro e w2 ⟨rfl, _, y2, k2⟩
  have g2 : OnlyG (d :: g :: G) w w2 := g1.trans ((OnlyG.only y2).sub (fun x hx => by simp at hx; subst hx; exact .inl (by simp)))
  have B2 := B1.trans (k2.below (B := lo) (fun x hx => by simp at hx; subst hx; exact hdl) (by omega))
  clear x1 y2 k2 g1 B1
  have hm : 0 ≤ m + (dk.length : Nat) := by omega
  go_wp2
  go_ret
  exact ⟨m + (dk.length : Nat), rfl, hm, g2, B2⟩
end Go.Proofs.YtogfelpdgeionaaGreat.LawT
