/-
  Texts that belong together, one behind the other: QuC, DoA.
-/
import Derived.Test.YtcmklcfedeeahaaGreatQ18
import Derived.Deep.Cut

/-
  Steps that wait in a queue; the store in memory of its own.
-/
namespace Go.Proofs.YtcmklcfedeeahaaGreat.QuC
open Go.ChangeShapes Go.WideShapes Go.ChangeAt Go.RowKit Go.Shelf OkA Big Fl ImplB ImplF ImplS _root_.Go.Proofs.YtcmklcfedeeahaaGreat.Own ImplT ImplU SpecA SpecB SpecC SpecD SpecW SpecF SpecG SpecH Ok2 Pl FindP SpecX SpecY ImplW ImplX ImplL Kp StA MpA StB StC StD StE StF StG FindL Gd LawU LawS LawV LawI QuA QuB
set_option linter.unusedVariables false
set_option linter.unusedSimpArgs false
attribute [local go_sem ↓] Go.wp_at_zero Go.wp_at_succ

theorem _root_.Go.Proofs.YtcmklcfedeeahaaGreat.QuB.DoAt.int {w : World} {lo hi : Nat} {x : Stp} {v : Value} (h : DoAt w lo hi x v) {w' : World} {L : List Nat} (k : Kept L w w') (hh : hi ≤ w.heap.size) (hL : ∀ y ∈ L, ∀ z, w.cell? ⟨y, 0, none⟩ ≠ some (.int .i64 z)) : DoAt w' lo hi x v := by
  rcases h with ⟨hk, p, q, e, hp, hq, cp, cq⟩ | ⟨hk, p, e, hp, cp⟩ | ⟨hk, p, q, e, hp, hq, cp, cq⟩
  · exact .inl ⟨hk, p, q, e, hp, hq, by rw [k.cell 0 (by omega) (fun hm => hL p hm _ cp)]; exact cp, by rw [k.cell 0 (by omega) (fun hm => hL q hm _ cq)]; exact cq⟩
  · exact .inr (.inl ⟨hk, p, e, hp, by rw [k.cell 0 (by omega) (fun hm => hL p hm _ cp)]; exact cp⟩)
  · exact .inr (.inr ⟨hk, p, q, e, hp, hq, by rw [k.cell 0 (by omega) (fun hm => hL p hm _ cp)]; exact cp, k.range cq (by omega) (fun hm => hL q hm _ (cq 0 _ rfl))⟩)
theorem _root_.Go.Proofs.YtcmklcfedeeahaaGreat.QuB.DoAt.func {w : World} {lo hi : Nat} {x : Stp} {v : Value} (h : DoAt w lo hi x v) : ∃ f c, v = .func f #[] c := by
  rcases h with ⟨_, p, q, rfl, _⟩ | ⟨_, p, rfl, _⟩ | ⟨_, p, q, rfl, _⟩ <;> exact ⟨_, _, rfl⟩

theorem cs_kept {w w' : World} {b : Nat} {cs : List Value} (h : CsAt w b cs) {L : List Nat} (k : Kept L w w') (hb : b < w.heap.size) (hL : b ∉ L) : CsAt w' b cs := ⟨k.range h.cells hb hL, k.there h.free hb hL⟩
/-- A row of functions that wait, which grows. -/
structure Fr (w : World) (lo : Nat) (v : Value) (L : List Stp) (vs : List Value) : Prop where
  row : w.ownsRow lo 83 1 v L.length vs
  len : vs.length = L.length
  lt : ∀ g, v.ownBlock = some g → lo ≤ g ∧ g < w.heap.size
  dos : ∀ i (hi : i < L.length), DoAt w lo w.heap.size L[i] (vs[i]'(by omega))
  nil : L = [] → v = .slice none 0 0
theorem Fr.start (w : World) (lo : Nat) : Fr w lo (.slice none 0 0) [] [] :=
  ⟨⟨by simp [maxLen], .inl ⟨rfl, rfl⟩⟩, rfl, fun g hg => by simp [Value.ownBlock] at hg, fun i hi => by simp at hi, fun _ => rfl⟩
theorem Fr.below {w w' : World} {lo : Nat} {v : Value} {L : List Stp} {vs : List Value} (h : Fr w lo v L vs) (hb : Below w.heap.size w w') : Fr w' lo v L vs :=
  ⟨ownsRow_below h.row hb (fun g hg => (h.lt g hg).2), h.len, fun g hg => ⟨(h.lt g hg).1, Nat.lt_of_lt_of_le (h.lt g hg).2 hb.size⟩, fun i hi => ((h.dos i hi).kept (L := []) (Kept.of hb) (Nat.le_refl _) (fun y hy => by simp at hy)).mono (Nat.le_refl _) hb.size, h.nil⟩
theorem Fr.form {w : World} {lo : Nat} {v : Value} {L : List Stp} {vs : List Value} (h : Fr w lo v L vs) : ∃ a cap, v = .slice a L.length cap ∧ L.length ≤ cap ∧ (L = [] ∨ ∃ g, a = some ⟨g, 0, none⟩ ∧ lo ≤ g ∧ g < w.heap.size ∧ w.rangeAt g 0 vs) := by
  obtain ⟨h1, h2⟩ := h.row
  rcases h2 with ⟨e, hn⟩ | ⟨g, cap, cur, e, hb, hh, hc, r⟩
  · exact ⟨none, 0, by rw [e, hn], by omega, .inl (List.eq_nil_of_length_eq_zero hn)⟩
  · refine ⟨_, cap, e, hc, ?_⟩
    cases L with
    | nil => exact .inl rfl
    | cons x r' =>
      subst e
      have hl := h.lt g rfl
      exact .inr ⟨g, rfl, hl.1, hl.2, (row_pages (by simp) h.row).1⟩
theorem Fr.push {w w' : World} {lo : Nat} {v v' : Value} {L : List Stp} {vs : List Value} {x : Stp} {fv : Value} (h : Fr w lo v L vs) (hlo : lo ≤ w.heap.size) (hd : DoAt w lo w.heap.size x fv) (ho : w'.ownsRow lo 83 1 v' (L.length + 1) (vs ++ [fv])) (hg : w.grownBy w' v.ownBlock) : Fr w' lo v' (L ++ [x]) (vs ++ [fv]) ∧ Below lo w w' := by
  have kp : Kept v.ownBlock.toList w w' := (Kept.refl _ w).grown hg (fun k e => .inl (by rw [e]; simp))
  have hno : ∀ y ∈ v.ownBlock.toList, ∀ z, w.cell? ⟨y, 0, none⟩ ≠ some (.int .i64 z) := fun y hy z hc => by
    obtain ⟨a, cap, e, _, hf⟩ := h.form
    rcases hf with rfl | ⟨g, rfl, _, _, hr⟩
    · rw [h.nil rfl] at hy; simp [Value.ownBlock] at hy
    · rw [e] at hy
      simp [Value.ownBlock] at hy
      subst hy
      have hl : 0 < L.length := by
        cases L with
        | nil => rw [h.nil rfl] at e; cases e
        | cons _ _ => simp
      have hv : 0 < vs.length := by rw [h.len]; exact hl
      obtain ⟨f, c, ef⟩ := (h.dos 0 hl).func
      have := hr 0 _ (List.getElem?_eq_getElem hv)
      rw [Nat.zero_add, hc, ef] at this
      cases this
  refine ⟨⟨by rw [List.length_append]; exact ho, by rw [List.length_append, List.length_append, h.len]; rfl, fun g e => ?_, fun i hi => ?_, fun e => by simp at e⟩, (Below.refl _ _).grown hg hlo (fun k e => (h.lt k e).1)⟩
  · obtain ⟨_, h2⟩ := ho
    rcases h2 with ⟨_, h2⟩ | ⟨g', cap, cur, rfl, hb, hh, _⟩
    · omega
    · simp [Value.ownBlock] at e
      subst e
      refine ⟨hb, ?_⟩
      by_cases hlt : g' < w'.heap.size
      · exact hlt
      · have : w'.heap[g']? = none := by simp; omega
        rw [this] at hh; cases hh
  · rw [List.length_append, List.length_singleton] at hi
    by_cases q : i < L.length
    · have := ((h.dos i q).int kp (Nat.le_refl _) hno).mono (Nat.le_refl lo) kp.size
      rw [List.getElem_append_left q, List.getElem_append_left (by rw [h.len]; exact q)]
      exact this
    · obtain rfl : i = L.length := by omega
      have := (hd.int kp (Nat.le_refl _) hno).mono (Nat.le_refl lo) kp.size
      have e1 : (L ++ [x])[L.length]'(by simp) = x := by rw [List.getElem_append_right (Nat.le_refl _)]; simp
      have e2 : (vs ++ [fv])[L.length]'(by simp [h.len]) = fv := by rw [List.getElem_append_right (by rw [h.len]; exact Nat.le_refl _)]; simp [h.len]
      rw [e1, e2]; exact this

/-- Steps that wait there, their functions and what these hold from lo to hi. -/
def QAt (w : World) (lo hi : Nat) (a : Option Addr) (L : List Stp) : Prop := L = [] ∨ ∃ g o, a = some ⟨g, o, none⟩ ∧ lo ≤ g ∧ g < hi ∧ ∀ i (h : i < L.length), ∃ v, w.cell? ⟨g, o + i, none⟩ = some v ∧ DoAt w lo hi L[i] v
theorem QAt.kept {w w' : World} {lo hi : Nat} {a : Option Addr} {L : List Stp} (h : QAt w lo hi a L) {M : List Nat} (k : Kept M w w') (hh : hi ≤ w.heap.size) (hM : ∀ y ∈ M, y < lo ∨ hi ≤ y) : QAt w' lo hi a L := by
  rcases h with h | ⟨g, o, rfl, h1, h2, h⟩
  · exact .inl h
  · refine .inr ⟨g, o, rfl, h1, h2, fun i hi' => ?_⟩
    obtain ⟨v, hv, hd⟩ := h i hi'
    exact ⟨v, by rw [k.cell _ (by omega) (fun hm => by have := hM g hm; omega)]; exact hv, hd.kept k hh hM⟩
theorem Fr.queue {w : World} {lo : Nat} {v : Value} {L : List Stp} {vs : List Value} (h : Fr w lo v L vs) : ∃ a cap, v = .slice a L.length cap ∧ L.length ≤ cap ∧ QAt w lo w.heap.size a L := by
  obtain ⟨a, cap, e, hc, hf⟩ := h.form
  refine ⟨a, cap, e, hc, ?_⟩
  rcases hf with hf | ⟨g, rfl, h1, h2, hr⟩
  · exact .inl hf
  · refine .inr ⟨g, 0, rfl, h1, h2, fun i hi => ⟨vs[i]'(by rw [h.len]; exact hi), ?_, h.dos i hi⟩⟩
    exact hr i _ (List.getElem?_eq_getElem _)
theorem made_do : (Tryz.prog.info? 83).map (fun i => (i.zero, i.size, i.bytes)) = some (some .nilFunc, 1, 8) := by kernel_rfl
theorem infoD : ∃ i, Tryz.prog.info? 83 = some i ∧ i.zero = some .nilFunc ∧ i.size = 1 ∧ i.bytes = 8 := by
  have h := made_do
  cases hq : Tryz.prog.info? 83 with
  | none => rw [hq] at h; cases h
  | some i => rw [hq] at h; simp at h; exact ⟨i, rfl, h.1, h.2.1, h.2.2⟩
/-- A queue's own cell is written. -/
theorem Fr.keptQ {w w' : World} {lo q : Nat} {v : Value} {L : List Stp} {vs : List Value} (h : Fr w lo v L vs) (k : Kept [q] w w') (hq : q < lo) (hlo : lo ≤ w.heap.size) : Fr w' lo v L vs :=
  ⟨k.row h.row (fun b hb => by have := (h.lt b hb).1; simp; omega), h.len, fun g hg => ⟨(h.lt g hg).1, Nat.lt_of_lt_of_le (h.lt g hg).2 k.size⟩, fun i hi => ((h.dos i hi).kept k (Nat.le_refl _) (fun y hy => by simp at hy; subst hy; exact .inl hq)).mono (Nat.le_refl _) k.size, h.nil⟩
def QfPost (w : World) (L : List Stp) (e : Ending) (w' : World) : Prop := ∃ a n cap, e = .returned (.tuple #[.agg #[.slice a n cap], .bool (L.all stkB)]) ∧ (L.all stkB = true → n = L.length ∧ n ≤ cap ∧ QAt w' w.heap.size w'.heap.size a L) ∧ Below w.heap.size w w'

set_option maxRecDepth 100000 in
set_option maxHeartbeats 4000000 in
theorem queueOf_any (sa : Option Addr) (sc : Nat) (L : List Stp) (w : World) (hS : SsAt w sa L) (hlen : L.length ≤ 1048576) :
    Calls Tryz.prog 25 #[.slice sa L.length sc] w fun e w' => QfPost w L e w' := by
  have cR := (CsAt.new w [.slice none 0 0] 76).alloc (by simp) (.cells #[.slice none 0 0] 76)
  have cQ := CsAt.new (w.alloc (.cells #[.slice none 0 0] 76)) [.slice none 0 0] 76
  rw [World.size_alloc] at cQ
  have B0 : Below w.heap.size w ((w.alloc (.cells #[.slice none 0 0] 76)).alloc (.cells #[.slice none 0 0] 76)) := ((Below.refl _ _).alloc (Nat.le_refl _) _).alloc (by simp) _
  have s0 : w.heap.size + 2 ≤ ((w.alloc (.cells #[.slice none 0 0] 76)).alloc (.cells #[.slice none 0 0] 76)).heap.size := by simp
  have HSA := hide hS
  have hli : (L.length : Int) ≤ 1048576 := by omega
  clear hS
  go_enter Tryz.func25, Tryz.ntmps25
  go_wp2
  generalize (w.alloc (.cells #[.slice none 0 0] 76)).alloc (.cells #[.slice none 0 0] 76) = w1 at *
  go_loopw [9] (fun i w' => ∃ (k : Nat) (v : Value) (vs : List Value), k ≤ L.length ∧ i = .int .i64 k ∧ Hid (∀ j (hj : j < L.length), j < k → stkB L[j] = true) ∧ Fr w' (w.heap.size + 2) v (L.take k) vs ∧ CsAt w' (w.heap.size + 1) [v] ∧ CsAt w' w.heap.size [.slice none 0 0] ∧ w.heap.size + 2 ≤ w'.heap.size ∧ Below w.heap.size w w') (fun i _ => L.length - (intOf i).toNat)
  case atStart => exact ⟨0, _, [], by omega, rfl, (fun j hj h => by omega), Fr.start _ _, cQ, cR, s0, B0⟩
  case round =>
    clear cR cQ B0 s0
    obtain ⟨k, v, vs, hk, rfl, HI, hF, hQ, hR, hs, hB⟩ := hrel
    by_cases h0 : k = L.length
    · subst h0
      rw [List.take_of_length_le (Nat.le_refl _)] at hF
      have HT : Hid (L.all stkB = true) := by
        show _ = _
        rw [List.all_eq_true]
        intro x hx
        obtain ⟨j, hj, rfl⟩ := List.getElem_of_mem hx
        exact unhide HI j hj hj
      obtain ⟨a, cap, rfl, hc, hA⟩ := hF.queue
      have q0 := hQ.cell 0 _ rfl
      have r0 := hR.cell 0 _ rfl
      have f0 := hR.frozen 0 (by simp)
      have p1 := hR.put [.slice a L.length cap] rfl
      have kz := keptC wr w.heap.size 0 [.slice a L.length cap]
      have hA2 := hA.kept kz (Nat.le_refl _) (fun y hy => by simp at hy; subst hy; omega)
      have BZ := below_setCells w.heap.size (Nat.le_refl _) [.slice a L.length cap] 0 _ hB
      have sz : (wr.setCells w.heap.size 0 [.slice a L.length cap]).heap.size = wr.heap.size := size_setCells _ _ _ _
      have HP : Hid (QfPost w L (.returned (.tuple #[.agg #[.slice a L.length cap], .bool true])) (wr.setCells w.heap.size 0 [.slice a L.length cap])) := by
        refine ⟨a, L.length, cap, by rw [unhide HT], fun _ => ⟨rfl, hc, ?_⟩, BZ⟩
        rcases hA2 with h | ⟨g, o, rfl, h1, h2, h⟩
        · exact .inl h
        · exact .inr ⟨g, o, rfl, by omega, by omega, fun i hi => by obtain ⟨u, hu, hd⟩ := h i hi; exact ⟨u, hu, hd.mono (by omega) (by omega)⟩⟩
      clear hA hA2 hF hQ hR BZ kz hB
      go_wp2
      exact bodyPost_ret (res_cell_tmp Tryz.results25 _ _ w.heap.size [.slice a L.length cap] _ rfl p1.cells Tryz.underlying76 rfl (by kernel_rfl)) rfl (unhide HP)
    · have hlt : (k : Int) < (L.length : Int) := by omega
      have hkb : k < L.length := by omega
      have hlo : (0 : Int) ≤ (k : Int) := by omega
      obtain ⟨sb, so, rfl, rX, lX⟩ := ((unhide HSA).below hB).at k hkb
      have HT := hide (List.take_succ_eq_append_getElem hkb)
      have HIN : Hid (∀ b, stkB L[k] = b → (b = true → ∀ j (hj : j < L.length), j < k + 1 → stkB L[j] = true) ∧ (b = false → L.all stkB = false)) := fun b hb => ⟨fun e j hj h => by
          by_cases q : j = k
          · subst q; rw [hb]; exact e
          · exact unhide HI j hj (by omega), fun e => by
          cases q : L.all stkB
          · rfl
          · rw [List.all_eq_true] at q
            have := q L[k] (List.getElem_mem hkb)
            rw [hb, e] at this; cases this⟩
      have htl : (L.take k).length = k := by simp; omega
      generalize L[k] = x at *
      have HS8 := hide (size_s8 x)
      have HOK := hide (stepOk_any x)
      have bn : Below wr.heap.size wr (wr.alloc (.cells (stC x).toArray 48)) := (Below.refl _ _).alloc (Nat.le_refl _) _
      have cX := CsAt.new wr (stC x) 48
      have hF2 := hF.below bn
      have hQ2 := hQ.below bn (by omega)
      have hR2 := hR.below bn (by omega)
      have hB2 := hB.trans (bn.mono hB.size)
      have hs2 : wr.heap.size + 1 ≤ (wr.alloc (.cells (stC x).toArray 48)).heap.size := by simp
      have hsw := hB.size
      obtain ⟨zt, hzt, hz8⟩ : ∃ z : Array Value, (Tryz.prog.info? 48).bind (·.zero) = some (.agg z) ∧ z.size = (stC x).toArray.size := ⟨(stC zSt).toArray, by kernel_rfl, rfl⟩
      have HZT := hide hzt
      have rXX := cX.cells
      clear hF hQ hR bn hzt
      go_wp2_with (first | (refine wpList_load_mid rfl 48 _ rfl sb (so + k * 8) rfl (stC x) _ rX Tryz.underlying48 rfl (unhide HS8) ?_) | (refine wpList_alloc_big rfl 48 rfl zt (unhide HZT) ?_) | (refine wpList_store_new rfl 48 _ _ rfl wr zt (stC x).toArray rfl rfl rfl (by rw [List.size_toArray]; exact unhide HS8) hz8 (all_oneCell_toArray (RmA.one_stC x)) ?_) | (refine wpList_load_mid rfl 48 _ rfl wr.heap.size 0 rfl (stC x) _ rXX Tryz.underlying48 rfl (unhide HS8) ?_))
      clear rX rXX lX
      generalize wr.alloc (.cells (stC x).toArray 48) = w4 at *
      generalize hbx : wr.heap.size = bx at *
      refine (unhide HOK _).mono ?_
      rintro e w5 ⟨rfl, b5⟩
      have hF5 := hF2.below b5
      have hQ5 := hQ2.below b5 (by omega)
      have hR5 := hR2.below b5 (by omega)
      have cX5 := cX.below b5 (by omega)
      have hB5 := hB2.trans (b5.mono hB2.size)
      have hs5 : bx + 1 ≤ w5.heap.size := by have := b5.size; omega
      clear hF2 hQ2 hR2 cX hB2 b5 HOK
      cases hx : stkB x
      · have HE := hide ((unhide HIN false hx).2 rfl)
        have r0 := hR5.cell 0 _ rfl
        have f0 := hR5.frozen 0 (by simp)
        have p1 := hR5.put [.slice none 0 0] rfl
        have BZ := below_setCells w.heap.size (Nat.le_refl _) [.slice none 0 0] 0 _ hB5
        have HP : Hid (QfPost w L (.returned (.tuple #[.agg #[.slice none 0 0], .bool false])) (w5.setCells w.heap.size 0 [.slice none 0 0])) := ⟨none, 0, 0, by rw [unhide HE], (fun h => by rw [unhide HE] at h; cases h), BZ⟩
        clear hF5 hQ5 hR5 BZ hB5 cX5
        go_wp2
        exact bodyPost_ret (res_cell_tmp Tryz.results25 _ _ w.heap.size [.slice none 0 0] _ rfl p1.cells Tryz.underlying76 rfl (by kernel_rfl)) rfl (unhide HP)
      have HI2 := hide ((unhide HIN true hx).1 rfl)
      have HDO := hide (doOf_any x hx)
      have q0 := hQ5.cell 0 _ rfl
      obtain ⟨a0, cap0, ev, _, _⟩ := hF5.form
      rw [htl] at ev
      subst ev
      obtain ⟨iD, hiD, hzD, hsD, hbD⟩ := infoD
      clear HIN
      go_wp2_with fail
      clear q0
      refine wp_region_noPanic ?_
      refine wp_region_held_drew (S := fun w' => CsAt w' w.heap.size [.slice none 0 0] ∧ (∃ u : Value, CsAt w' (w.heap.size + 1) [u]) ∧ CsAt w' bx (stC x) ∧ bx + 1 ≤ w'.heap.size) (by kernel_rfl) (⟨⟨fun j u hu => hR5.cells j u hu, fun j hj => hR5.free j hj⟩, ⟨_, ⟨fun j u hu => hQ5.cells j u hu, fun j hj => hQ5.free j hj⟩⟩, ⟨fun j u hu => cX5.cells j u hu, fun j hj => cX5.free j hj⟩, hs5⟩) (fun hHeld => ?_)
      refine takeL 0 (.pointer (some ⟨w.heap.size + 1, 0, none⟩)) rfl (by kernel_rfl) (by kernel_rfl) (by kernel_rfl) (fun _ _ _ h => h) (Or.inl ⟨rfl, fun w9 hSw => by go_simp⟩) hHeld ?_
      try simp only [Act.put, List.setIfInBounds_toArray, List.set_cons_zero, List.set_cons_succ]
      refine takeL 2 (_) rfl (by kernel_rfl) (by kernel_rfl) (by kernel_rfl) (fun _ _ _ h => h) (yieldsIf_load_mid rfl 48 _ rfl bx 0 rfl (stC x) _ (fun _ h => h.2.2.1.cells) Tryz.underlying48 rfl (unhide HS8)) hHeld ?_
      try simp only [Act.put, List.setIfInBounds_toArray, List.set_cons_zero, List.set_cons_succ]
      refine twoL 1 3 rfl rfl (by kernel_rfl) rfl rfl (fun K hK => ?_) (fun K hK => ?_)
      · have hFd : Fr w5.drew (w.heap.size + 2) (.slice a0 k cap0) (L.take k) vs := hF5.below ((Below.refl _ _).drew)
        have hQd : CsAt w5.drew (w.heap.size + 1) [.slice a0 k cap0] := ⟨fun j u hu => hQ5.cells j u hu, fun j hj => hQ5.free j hj⟩
        have hBd := hB5.drew
        have hsd : bx + 1 ≤ w5.drew.heap.size := hs5
        have hq9 := hQd.cell 0 _ rfl
        go_simp
        clear hq9
        refine hK.out _ _ hHeld (fun _ => ?_)
        clear hK K
        try simp only [Act.put, List.setIfInBounds_toArray, List.set_cons_zero, List.set_cons_succ]
        refine oneL 3 rfl (by kernel_rfl) rfl (fun K hK => ?_)
        go_simp
        refine (unhide HDO _).mono ?_
        rintro e w6 ⟨fvv, rfl, hD6, b6⟩
        obtain ⟨ff, fc, rfl⟩ := hD6.func
        go_wp2_with fail
        refine hK.out _ _ ⟨hHeld.1.below b6 (by have := hHeld.2.2.2; omega), (by obtain ⟨u, hu⟩ := hHeld.2.1; exact ⟨u, hu.below b6 (by have := hHeld.2.2.2; omega)⟩), hHeld.2.2.1.below b6 (by have := hHeld.2.2.2; omega), Nat.le_trans hHeld.2.2.2 b6.size⟩ (fun hHeld => ?_)
        clear hK K
        try simp only [Act.put, List.setIfInBounds_toArray, List.set_cons_zero, List.set_cons_succ]
        refine oneL 4 rfl (by kernel_rfl) rfl (fun K hK => ?_)
        go_simp
        have bA : Below w6.heap.size w6 (w6.alloc (.cells #[(Value.func ff #[] fc)] 83)) := (Below.refl _ _).alloc (Nat.le_refl _) _
        have HA : CsAt (w6.alloc (.cells #[(Value.func ff #[] fc)] 83)) w.heap.size [.slice none 0 0] ∧ (∃ u : Value, CsAt (w6.alloc (.cells #[(Value.func ff #[] fc)] 83)) (w.heap.size + 1) [u]) ∧ CsAt (w6.alloc (.cells #[(Value.func ff #[] fc)] 83)) bx (stC x) ∧ bx + 1 ≤ (w6.alloc (.cells #[(Value.func ff #[] fc)] 83)).heap.size := ⟨hHeld.1.below bA (by have := hHeld.2.2.2; omega), (by obtain ⟨u, hu⟩ := hHeld.2.1; exact ⟨u, hu.below bA (by have := hHeld.2.2.2; omega)⟩), hHeld.2.2.1.below bA (by have := hHeld.2.2.2; omega), Nat.le_trans hHeld.2.2.2 bA.size⟩
        clear hHeld
        refine hK.out _ _ HA (fun hHeld => ?_)
        clear hK K HA
        try simp only [Act.put, List.setIfInBounds_toArray, List.set_cons_zero, List.set_cons_succ]
        have nw := CsAt.new w6 [(Value.func ff #[] fc)] 83
        have q6 := b6.size
        have hF7 := (hFd.below b6).below bA
        have hD7 : DoAt (w6.alloc (.cells #[(Value.func ff #[] fc)] 83)) (w.heap.size + 2) (w6.alloc (.cells #[(Value.func ff #[] fc)] 83)).heap.size x (Value.func ff #[] fc) := (hD6.kept (L := []) (Kept.of bA) (Nat.le_refl _) (fun y hy => by simp at hy)).mono (by omega) (by simp)
        have hQ7 := (hQd.below b6 (by omega)).below bA (by omega)
        have hB7 := (hBd.trans (b6.mono hBd.size)).trans (bA.mono (by omega))
        have hone : ∀ u ∈ [(Value.func ff #[] fc)], u.oneCell' = true := fun u hu => by simp at hu; subst hu; exact hD6.one
        have hs7 : w6.heap.size + 1 ≤ (w6.alloc (.cells #[(Value.func ff #[] fc)] 83)).heap.size := by simp
        generalize w6.alloc (.cells #[(Value.func ff #[] fc)] 83) = w7 at *
        generalize hb7 : w6.heap.size = b7 at *
        refine oneL 5 rfl (by kernel_rfl) rfl (fun K hK => ?_)
        refine wp_append_own w7 _ _ 74 rfl (w.heap.size + 2) 83 iD .nilFunc 1 8 Tryz.underlying74 hiD hzD hsD hbD rfl (by omega) (.slice a0 k cap0) (L.take k).length vs rfl hF7.row ⟨b7, 0, none⟩ 1 1 [(Value.func ff #[] fc)] rfl rfl (src_mid nw.cells) hone (by simp [maxLen]; omega) (by omega) (by omega) ?_
        intro v' w8 ho8 hg8 _
        obtain ⟨F8, b8⟩ := hF7.push (by omega) hD7 ho8 hg8
        have hB8 := hB7.trans (b8.mono (by omega))
        have hs8 := b8.size
        have kg : Kept (Value.slice a0 k cap0).ownBlock.toList w7 w8 := (Kept.refl _ w7).grown hg8 (fun k e => .inl (by rw [e]; simp))
        have hX8 : CsAt w8 bx (stC x) := by
          refine cs_kept hHeld.2.2.1 kg (by omega) (fun hm => ?_)
          obtain ⟨a1, c1, e1, _, hf⟩ := hF7.form
          rcases hf with hf | ⟨g, rfl, _, _, hr⟩
          · rw [hF7.nil hf] at hm; simp [Value.ownBlock] at hm
          · rw [e1] at hm
            simp [Value.ownBlock] at hm
            subst hm
            have hl : 0 < (L.take k).length := by
              rcases Nat.eq_zero_or_pos (L.take k).length with h | h
              · have := hF7.nil (List.eq_nil_of_length_eq_zero h); rw [this] at e1; cases e1
              · exact h
            have hv : 0 < vs.length := by rw [hF7.len]; exact hl
            obtain ⟨f, c, ef⟩ := (hF7.dos 0 hl).func
            have h1 := hr 0 _ (List.getElem?_eq_getElem hv)
            have h2 := hHeld.2.2.1.cell 0 _ rfl
            rw [Nat.zero_add, h2, ef] at h1
            cases h1
        refine hK.out _ _ ⟨hHeld.1.below b8 (by omega), (by obtain ⟨u, hu⟩ := hHeld.2.1; exact ⟨u, hu.below b8 (by omega)⟩), hX8, by omega⟩ (fun hHeld => ?_)
        clear hK K hX8 kg
        try simp only [Act.put, List.setIfInBounds_toArray, List.set_cons_zero, List.set_cons_succ]
        have hQ8 := hQ7.below b8 (by omega)
        obtain ⟨a8, c8, e8, _, _⟩ := F8.form
        rw [show (L.take k ++ [x]).length = k + 1 by rw [List.length_append, htl]; rfl] at e8
        subst e8
        refine takeL 6 (.pointer (some ⟨w.heap.size + 1, 0, none⟩)) rfl (by kernel_rfl) (by kernel_rfl) (by kernel_rfl) (fun _ _ _ h => h) (Or.inl ⟨rfl, fun w9 hSw => by go_simp⟩) hHeld ?_
        try simp only [Act.put, List.setIfInBounds_toArray, List.set_cons_zero, List.set_cons_succ]
        have q8 := hQ8.cell 0 _ rfl
        have f8 := hQ8.frozen 0 (by simp)
        have kz := keptC w8 (w.heap.size + 1) 0 [.slice a8 (k + 1) c8]
        have hQ9 := hQ8.put [.slice a8 (k + 1) c8] rfl
        have hR9 := hHeld.1.other (show w.heap.size ≠ w.heap.size + 1 by omega) 0 [.slice a8 (k + 1) c8]
        have hX9 := hHeld.2.2.1.other (show bx ≠ w.heap.size + 1 by omega) 0 [.slice a8 (k + 1) c8]
        have B9 := below_setCells (w.heap.size + 1) (show w.heap.size ≤ w.heap.size + 1 by omega) [.slice a8 (k + 1) c8] 0 _ hB8
        have s9 : (w8.setCells (w.heap.size + 1) 0 [.slice a8 (k + 1) c8]).heap.size = w8.heap.size := size_setCells _ _ _ _
        have F9 := F8.keptQ kz (by omega) (by omega)
        refine oneL 7 rfl (by kernel_rfl) rfl (fun K hK => ?_)
        go_simp
        refine hK.out _ _ ⟨hR9, ⟨_, hQ9⟩, hX9, by rw [show (w8.setCell ⟨w.heap.size + 1, 0, none⟩ (.slice a8 (k + 1) c8)).heap.size = w8.heap.size from s9]; omega⟩ (fun hHeld => ?_)
        clear hK K
        try simp only [Act.put, List.setIfInBounds_toArray, List.set_cons_zero, List.set_cons_succ]
        refine wpAnyH_done (by kernel_rfl) ?_ _
        refine NoPanic.normal ?_
        have s9' : w.heap.size + 2 ≤ (w8.setCell ⟨w.heap.size + 1, 0, none⟩ (.slice a8 (k + 1) c8)).heap.size := by rw [show (w8.setCell ⟨w.heap.size + 1, 0, none⟩ (.slice a8 (k + 1) c8)).heap.size = w8.heap.size from s9]; omega
        have hR9' : CsAt (w8.setCell ⟨w.heap.size + 1, 0, none⟩ (.slice a8 (k + 1) c8)) w.heap.size [.slice none 0 0] := hR9
        have hQ9' : CsAt (w8.setCell ⟨w.heap.size + 1, 0, none⟩ (.slice a8 (k + 1) c8)) (w.heap.size + 1) [.slice a8 (k + 1) c8] := hQ9
        have B9' : Below w.heap.size w (w8.setCell ⟨w.heap.size + 1, 0, none⟩ (.slice a8 (k + 1) c8)) := B9
        have F9' : Fr (w8.setCell ⟨w.heap.size + 1, 0, none⟩ (.slice a8 (k + 1) c8)) (w.heap.size + 2) (.slice a8 (k + 1) c8) (L.take k ++ [x]) (vs ++ [(Value.func ff #[] fc)]) := F9
        clear hR9 hQ9 hX9 B9 F9 kz q8 f8 hHeld s9 F8 hQ8 hB8
        generalize w8.setCell ⟨w.heap.size + 1, 0, none⟩ (.slice a8 (k + 1) c8) = w9 at *
        clear hQ5 hR5 cX5
        go_wp2
        go_roundw
        case rel => exact ⟨k + 1, _, vs ++ [(Value.func ff #[] fc)], by omega, by first | rfl | go_num, HI2, by rw [unhide HT]; exact F9', hQ9', hR9', s9', B9'⟩
        case measure => simp [intOf]; omega
      · have hFd : Fr w5.drew (w.heap.size + 2) (.slice a0 k cap0) (L.take k) vs := hF5.below ((Below.refl _ _).drew)
        have hQd : CsAt w5.drew (w.heap.size + 1) [.slice a0 k cap0] := ⟨fun j u hu => hQ5.cells j u hu, fun j hj => hQ5.free j hj⟩
        have hBd := hB5.drew
        have hsd : bx + 1 ≤ w5.drew.heap.size := hs5
        go_simp
        refine (unhide HDO _).mono ?_
        rintro e w6 ⟨fvv, rfl, hD6, b6⟩
        obtain ⟨ff, fc, rfl⟩ := hD6.func
        go_wp2_with fail
        refine hK.out _ _ ⟨hHeld.1.below b6 (by have := hHeld.2.2.2; omega), (by obtain ⟨u, hu⟩ := hHeld.2.1; exact ⟨u, hu.below b6 (by have := hHeld.2.2.2; omega)⟩), hHeld.2.2.1.below b6 (by have := hHeld.2.2.2; omega), Nat.le_trans hHeld.2.2.2 b6.size⟩ (fun hHeld => ?_)
        clear hK K
        try simp only [Act.put, List.setIfInBounds_toArray, List.set_cons_zero, List.set_cons_succ]
        refine twoL 1 4 rfl rfl (by kernel_rfl) rfl rfl (fun K hK => ?_) (fun K hK => ?_)
        · have hq9 := (hQd.below b6 (by omega)).cell 0 _ rfl
          go_simp
          clear hq9
          refine hK.out _ _ hHeld (fun _ => ?_)
          clear hK K
          try simp only [Act.put, List.setIfInBounds_toArray, List.set_cons_zero, List.set_cons_succ]
          refine oneL 4 rfl (by kernel_rfl) rfl (fun K hK => ?_)
          go_simp
          have bA : Below w6.heap.size w6 (w6.alloc (.cells #[(Value.func ff #[] fc)] 83)) := (Below.refl _ _).alloc (Nat.le_refl _) _
          have HA : CsAt (w6.alloc (.cells #[(Value.func ff #[] fc)] 83)) w.heap.size [.slice none 0 0] ∧ (∃ u : Value, CsAt (w6.alloc (.cells #[(Value.func ff #[] fc)] 83)) (w.heap.size + 1) [u]) ∧ CsAt (w6.alloc (.cells #[(Value.func ff #[] fc)] 83)) bx (stC x) ∧ bx + 1 ≤ (w6.alloc (.cells #[(Value.func ff #[] fc)] 83)).heap.size := ⟨hHeld.1.below bA (by have := hHeld.2.2.2; omega), (by obtain ⟨u, hu⟩ := hHeld.2.1; exact ⟨u, hu.below bA (by have := hHeld.2.2.2; omega)⟩), hHeld.2.2.1.below bA (by have := hHeld.2.2.2; omega), Nat.le_trans hHeld.2.2.2 bA.size⟩
          clear hHeld
          refine hK.out _ _ HA (fun hHeld => ?_)
          clear hK K HA
          try simp only [Act.put, List.setIfInBounds_toArray, List.set_cons_zero, List.set_cons_succ]
          have nw := CsAt.new w6 [(Value.func ff #[] fc)] 83
          have q6 := b6.size
          have hF7 := (hFd.below b6).below bA
          have hD7 : DoAt (w6.alloc (.cells #[(Value.func ff #[] fc)] 83)) (w.heap.size + 2) (w6.alloc (.cells #[(Value.func ff #[] fc)] 83)).heap.size x (Value.func ff #[] fc) := (hD6.kept (L := []) (Kept.of bA) (Nat.le_refl _) (fun y hy => by simp at hy)).mono (by omega) (by simp)
          have hQ7 := (hQd.below b6 (by omega)).below bA (by omega)
          have hB7 := (hBd.trans (b6.mono hBd.size)).trans (bA.mono (by omega))
          have hone : ∀ u ∈ [(Value.func ff #[] fc)], u.oneCell' = true := fun u hu => by simp at hu; subst hu; exact hD6.one
          have hs7 : w6.heap.size + 1 ≤ (w6.alloc (.cells #[(Value.func ff #[] fc)] 83)).heap.size := by simp
          generalize w6.alloc (.cells #[(Value.func ff #[] fc)] 83) = w7 at *
          generalize hb7 : w6.heap.size = b7 at *
          refine oneL 5 rfl (by kernel_rfl) rfl (fun K hK => ?_)
          refine wp_append_own w7 _ _ 74 rfl (w.heap.size + 2) 83 iD .nilFunc 1 8 Tryz.underlying74 hiD hzD hsD hbD rfl (by omega) (.slice a0 k cap0) (L.take k).length vs rfl hF7.row ⟨b7, 0, none⟩ 1 1 [(Value.func ff #[] fc)] rfl rfl (src_mid nw.cells) hone (by simp [maxLen]; omega) (by omega) (by omega) ?_
          intro v' w8 ho8 hg8 _
          obtain ⟨F8, b8⟩ := hF7.push (by omega) hD7 ho8 hg8
          have hB8 := hB7.trans (b8.mono (by omega))
          have hs8 := b8.size
          have kg : Kept (Value.slice a0 k cap0).ownBlock.toList w7 w8 := (Kept.refl _ w7).grown hg8 (fun k e => .inl (by rw [e]; simp))
          have hX8 : CsAt w8 bx (stC x) := by
            refine cs_kept hHeld.2.2.1 kg (by omega) (fun hm => ?_)
            obtain ⟨a1, c1, e1, _, hf⟩ := hF7.form
            rcases hf with hf | ⟨g, rfl, _, _, hr⟩
            · rw [hF7.nil hf] at hm; simp [Value.ownBlock] at hm
            · rw [e1] at hm
              simp [Value.ownBlock] at hm
              subst hm
              have hl : 0 < (L.take k).length := by
                rcases Nat.eq_zero_or_pos (L.take k).length with h | h
                · have := hF7.nil (List.eq_nil_of_length_eq_zero h); rw [this] at e1; cases e1
                · exact h
              have hv : 0 < vs.length := by rw [hF7.len]; exact hl
              obtain ⟨f, c, ef⟩ := (hF7.dos 0 hl).func
              have h1 := hr 0 _ (List.getElem?_eq_getElem hv)
              have h2 := hHeld.2.2.1.cell 0 _ rfl
              rw [Nat.zero_add, h2, ef] at h1
              cases h1
          refine hK.out _ _ ⟨hHeld.1.below b8 (by omega), (by obtain ⟨u, hu⟩ := hHeld.2.1; exact ⟨u, hu.below b8 (by omega)⟩), hX8, by omega⟩ (fun hHeld => ?_)
          clear hK K hX8 kg
          try simp only [Act.put, List.setIfInBounds_toArray, List.set_cons_zero, List.set_cons_succ]
          have hQ8 := hQ7.below b8 (by omega)
          obtain ⟨a8, c8, e8, _, _⟩ := F8.form
          rw [show (L.take k ++ [x]).length = k + 1 by rw [List.length_append, htl]; rfl] at e8
          subst e8
          refine takeL 6 (.pointer (some ⟨w.heap.size + 1, 0, none⟩)) rfl (by kernel_rfl) (by kernel_rfl) (by kernel_rfl) (fun _ _ _ h => h) (Or.inl ⟨rfl, fun w9 hSw => by go_simp⟩) hHeld ?_
          try simp only [Act.put, List.setIfInBounds_toArray, List.set_cons_zero, List.set_cons_succ]
          have q8 := hQ8.cell 0 _ rfl
          have f8 := hQ8.frozen 0 (by simp)
          have kz := keptC w8 (w.heap.size + 1) 0 [.slice a8 (k + 1) c8]
          have hQ9 := hQ8.put [.slice a8 (k + 1) c8] rfl
          have hR9 := hHeld.1.other (show w.heap.size ≠ w.heap.size + 1 by omega) 0 [.slice a8 (k + 1) c8]
          have hX9 := hHeld.2.2.1.other (show bx ≠ w.heap.size + 1 by omega) 0 [.slice a8 (k + 1) c8]
          have B9 := below_setCells (w.heap.size + 1) (show w.heap.size ≤ w.heap.size + 1 by omega) [.slice a8 (k + 1) c8] 0 _ hB8
          have s9 : (w8.setCells (w.heap.size + 1) 0 [.slice a8 (k + 1) c8]).heap.size = w8.heap.size := size_setCells _ _ _ _
          have F9 := F8.keptQ kz (by omega) (by omega)
          refine oneL 7 rfl (by kernel_rfl) rfl (fun K hK => ?_)
          go_simp
          refine hK.out _ _ ⟨hR9, ⟨_, hQ9⟩, hX9, by rw [show (w8.setCell ⟨w.heap.size + 1, 0, none⟩ (.slice a8 (k + 1) c8)).heap.size = w8.heap.size from s9]; omega⟩ (fun hHeld => ?_)
          clear hK K
          try simp only [Act.put, List.setIfInBounds_toArray, List.set_cons_zero, List.set_cons_succ]
          refine wpAnyH_done (by kernel_rfl) ?_ _
          refine NoPanic.normal ?_
          have s9' : w.heap.size + 2 ≤ (w8.setCell ⟨w.heap.size + 1, 0, none⟩ (.slice a8 (k + 1) c8)).heap.size := by rw [show (w8.setCell ⟨w.heap.size + 1, 0, none⟩ (.slice a8 (k + 1) c8)).heap.size = w8.heap.size from s9]; omega
          have hR9' : CsAt (w8.setCell ⟨w.heap.size + 1, 0, none⟩ (.slice a8 (k + 1) c8)) w.heap.size [.slice none 0 0] := hR9
          have hQ9' : CsAt (w8.setCell ⟨w.heap.size + 1, 0, none⟩ (.slice a8 (k + 1) c8)) (w.heap.size + 1) [.slice a8 (k + 1) c8] := hQ9
          have B9' : Below w.heap.size w (w8.setCell ⟨w.heap.size + 1, 0, none⟩ (.slice a8 (k + 1) c8)) := B9
          have F9' : Fr (w8.setCell ⟨w.heap.size + 1, 0, none⟩ (.slice a8 (k + 1) c8)) (w.heap.size + 2) (.slice a8 (k + 1) c8) (L.take k ++ [x]) (vs ++ [(Value.func ff #[] fc)]) := F9
          clear hR9 hQ9 hX9 B9 F9 kz q8 f8 hHeld s9 F8 hQ8 hB8
          generalize w8.setCell ⟨w.heap.size + 1, 0, none⟩ (.slice a8 (k + 1) c8) = w9 at *
          clear hQ5 hR5 cX5
          go_wp2
          go_roundw
          case rel => exact ⟨k + 1, _, vs ++ [(Value.func ff #[] fc)], by omega, by first | rfl | go_num, HI2, by rw [unhide HT]; exact F9', hQ9', hR9', s9', B9'⟩
          case measure => simp [intOf]; omega
        · go_simp
          have bA : Below w6.heap.size w6 (w6.alloc (.cells #[(Value.func ff #[] fc)] 83)) := (Below.refl _ _).alloc (Nat.le_refl _) _
          have HA : CsAt (w6.alloc (.cells #[(Value.func ff #[] fc)] 83)) w.heap.size [.slice none 0 0] ∧ (∃ u : Value, CsAt (w6.alloc (.cells #[(Value.func ff #[] fc)] 83)) (w.heap.size + 1) [u]) ∧ CsAt (w6.alloc (.cells #[(Value.func ff #[] fc)] 83)) bx (stC x) ∧ bx + 1 ≤ (w6.alloc (.cells #[(Value.func ff #[] fc)] 83)).heap.size := ⟨hHeld.1.below bA (by have := hHeld.2.2.2; omega), (by obtain ⟨u, hu⟩ := hHeld.2.1; exact ⟨u, hu.below bA (by have := hHeld.2.2.2; omega)⟩), hHeld.2.2.1.below bA (by have := hHeld.2.2.2; omega), Nat.le_trans hHeld.2.2.2 bA.size⟩
          clear hHeld
          refine hK.out _ _ HA (fun hHeld => ?_)
          clear hK K HA
          try simp only [Act.put, List.setIfInBounds_toArray, List.set_cons_zero, List.set_cons_succ]
          have nw := CsAt.new w6 [(Value.func ff #[] fc)] 83
          have q6 := b6.size
          have hF7 := (hFd.below b6).below bA
          have hD7 : DoAt (w6.alloc (.cells #[(Value.func ff #[] fc)] 83)) (w.heap.size + 2) (w6.alloc (.cells #[(Value.func ff #[] fc)] 83)).heap.size x (Value.func ff #[] fc) := (hD6.kept (L := []) (Kept.of bA) (Nat.le_refl _) (fun y hy => by simp at hy)).mono (by omega) (by simp)
          have hQ7 := (hQd.below b6 (by omega)).below bA (by omega)
          have hB7 := (hBd.trans (b6.mono hBd.size)).trans (bA.mono (by omega))
          have hone : ∀ u ∈ [(Value.func ff #[] fc)], u.oneCell' = true := fun u hu => by simp at hu; subst hu; exact hD6.one
          have hs7 : w6.heap.size + 1 ≤ (w6.alloc (.cells #[(Value.func ff #[] fc)] 83)).heap.size := by simp
          generalize w6.alloc (.cells #[(Value.func ff #[] fc)] 83) = w7 at *
          generalize hb7 : w6.heap.size = b7 at *
          refine oneL 1 rfl (by kernel_rfl) rfl (fun K hK => ?_)
          have hq9 := hQ7.cell 0 _ rfl
          go_simp
          clear hq9
          refine hK.out _ _ hHeld (fun _ => ?_)
          clear hK K
          try simp only [Act.put, List.setIfInBounds_toArray, List.set_cons_zero, List.set_cons_succ]
          refine oneL 5 rfl (by kernel_rfl) rfl (fun K hK => ?_)
          refine wp_append_own w7 _ _ 74 rfl (w.heap.size + 2) 83 iD .nilFunc 1 8 Tryz.underlying74 hiD hzD hsD hbD rfl (by omega) (.slice a0 k cap0) (L.take k).length vs rfl hF7.row ⟨b7, 0, none⟩ 1 1 [(Value.func ff #[] fc)] rfl rfl (src_mid nw.cells) hone (by simp [maxLen]; omega) (by omega) (by omega) ?_
          intro v' w8 ho8 hg8 _
          obtain ⟨F8, b8⟩ := hF7.push (by omega) hD7 ho8 hg8
          have hB8 := hB7.trans (b8.mono (by omega))
          have hs8 := b8.size
          have kg : Kept (Value.slice a0 k cap0).ownBlock.toList w7 w8 := (Kept.refl _ w7).grown hg8 (fun k e => .inl (by rw [e]; simp))
          have hX8 : CsAt w8 bx (stC x) := by
            refine cs_kept hHeld.2.2.1 kg (by omega) (fun hm => ?_)
            obtain ⟨a1, c1, e1, _, hf⟩ := hF7.form
            rcases hf with hf | ⟨g, rfl, _, _, hr⟩
            · rw [hF7.nil hf] at hm; simp [Value.ownBlock] at hm
            · rw [e1] at hm
              simp [Value.ownBlock] at hm
              subst hm
              have hl : 0 < (L.take k).length := by
                rcases Nat.eq_zero_or_pos (L.take k).length with h | h
                · have := hF7.nil (List.eq_nil_of_length_eq_zero h); rw [this] at e1; cases e1
                · exact h
              have hv : 0 < vs.length := by rw [hF7.len]; exact hl
              obtain ⟨f, c, ef⟩ := (hF7.dos 0 hl).func
              have h1 := hr 0 _ (List.getElem?_eq_getElem hv)
              have h2 := hHeld.2.2.1.cell 0 _ rfl
              rw [Nat.zero_add, h2, ef] at h1
              cases h1
          refine hK.out _ _ ⟨hHeld.1.below b8 (by omega), (by obtain ⟨u, hu⟩ := hHeld.2.1; exact ⟨u, hu.below b8 (by omega)⟩), hX8, by omega⟩ (fun hHeld => ?_)
          clear hK K hX8 kg
          try simp only [Act.put, List.setIfInBounds_toArray, List.set_cons_zero, List.set_cons_succ]
          have hQ8 := hQ7.below b8 (by omega)
          obtain ⟨a8, c8, e8, _, _⟩ := F8.form
          rw [show (L.take k ++ [x]).length = k + 1 by rw [List.length_append, htl]; rfl] at e8
          subst e8
          refine takeL 6 (.pointer (some ⟨w.heap.size + 1, 0, none⟩)) rfl (by kernel_rfl) (by kernel_rfl) (by kernel_rfl) (fun _ _ _ h => h) (Or.inl ⟨rfl, fun w9 hSw => by go_simp⟩) hHeld ?_
          try simp only [Act.put, List.setIfInBounds_toArray, List.set_cons_zero, List.set_cons_succ]
          have q8 := hQ8.cell 0 _ rfl
          have f8 := hQ8.frozen 0 (by simp)
          have kz := keptC w8 (w.heap.size + 1) 0 [.slice a8 (k + 1) c8]
          have hQ9 := hQ8.put [.slice a8 (k + 1) c8] rfl
          have hR9 := hHeld.1.other (show w.heap.size ≠ w.heap.size + 1 by omega) 0 [.slice a8 (k + 1) c8]
          have hX9 := hHeld.2.2.1.other (show bx ≠ w.heap.size + 1 by omega) 0 [.slice a8 (k + 1) c8]
          have B9 := below_setCells (w.heap.size + 1) (show w.heap.size ≤ w.heap.size + 1 by omega) [.slice a8 (k + 1) c8] 0 _ hB8
          have s9 : (w8.setCells (w.heap.size + 1) 0 [.slice a8 (k + 1) c8]).heap.size = w8.heap.size := size_setCells _ _ _ _
          have F9 := F8.keptQ kz (by omega) (by omega)
          refine oneL 7 rfl (by kernel_rfl) rfl (fun K hK => ?_)
          go_simp
          refine hK.out _ _ ⟨hR9, ⟨_, hQ9⟩, hX9, by rw [show (w8.setCell ⟨w.heap.size + 1, 0, none⟩ (.slice a8 (k + 1) c8)).heap.size = w8.heap.size from s9]; omega⟩ (fun hHeld => ?_)
          clear hK K
          try simp only [Act.put, List.setIfInBounds_toArray, List.set_cons_zero, List.set_cons_succ]
          refine wpAnyH_done (by kernel_rfl) ?_ _
          refine NoPanic.normal ?_
          have s9' : w.heap.size + 2 ≤ (w8.setCell ⟨w.heap.size + 1, 0, none⟩ (.slice a8 (k + 1) c8)).heap.size := by rw [show (w8.setCell ⟨w.heap.size + 1, 0, none⟩ (.slice a8 (k + 1) c8)).heap.size = w8.heap.size from s9]; omega
          have hR9' : CsAt (w8.setCell ⟨w.heap.size + 1, 0, none⟩ (.slice a8 (k + 1) c8)) w.heap.size [.slice none 0 0] := hR9
          have hQ9' : CsAt (w8.setCell ⟨w.heap.size + 1, 0, none⟩ (.slice a8 (k + 1) c8)) (w.heap.size + 1) [.slice a8 (k + 1) c8] := hQ9
          have B9' : Below w.heap.size w (w8.setCell ⟨w.heap.size + 1, 0, none⟩ (.slice a8 (k + 1) c8)) := B9
          have F9' : Fr (w8.setCell ⟨w.heap.size + 1, 0, none⟩ (.slice a8 (k + 1) c8)) (w.heap.size + 2) (.slice a8 (k + 1) c8) (L.take k ++ [x]) (vs ++ [(Value.func ff #[] fc)]) := F9
          clear hR9 hQ9 hX9 B9 F9 kz q8 f8 hHeld s9 F8 hQ8 hB8
          generalize w8.setCell ⟨w.heap.size + 1, 0, none⟩ (.slice a8 (k + 1) c8) = w9 at *
          clear hQ5 hR5 cX5
          go_wp2
          go_roundw
          case rel => exact ⟨k + 1, _, vs ++ [(Value.func ff #[] fc)], by omega, by first | rfl | go_num, HI2, by rw [unhide HT]; exact F9', hQ9', hR9', s9', B9'⟩
          case measure => simp [intOf]; omega
end Go.Proofs.YtcmklcfedeeahaaGreat.QuC

/-
  The specification's doing of a step, in place, on a store that it owns.
-/
namespace Go.Proofs.YtcmklcfedeeahaaGreat.DoA
open Go.ChangeShapes Go.WideShapes Go.ChangeAt Go.RowKit Go.Shelf OkA Big Fl ImplB ImplF ImplS _root_.Go.Proofs.YtcmklcfedeeahaaGreat.Own ImplT ImplU SpecA SpecB SpecC SpecD SpecW SpecF SpecG SpecH Ok2 Pl FindP SpecX ImplL FindN FindL FindV Kp StA RmA WrA FlA
set_option linter.unusedVariables false
set_option linter.unusedSimpArgs false
attribute [local go_sem ↓] Go.wp_at_zero Go.wp_at_succ

/-- A store in rows of its own. -/
structure St (w : World) (lo g d : Nat) (G : List Nat) (bs : List Bk) (dk : List Int) : Prop where
  own : Own.Own w lo g G bs 4
  disk : CsAt w d (isC dk)
  dlo : lo ≤ d
  dhi : d < w.heap.size
  dn : d ∉ g :: G
  six : dk.length = 6
theorem own_kept {w w' : World} {lo g n : Nat} {G : List Nat} {bs : List Bk} (h : Own.Own w lo g G bs n) {L : List Nat} (k : Kept L w w') (hL : ∀ x ∈ g :: G, x ∉ L) : Own.Own w' lo g G bs n := by
  have hg := h.hi g (by simp)
  have gL := hL g (by simp)
  have hG : ∀ i (hi : i < bs.length), G[i]'(by have := h.len; omega) < w.heap.size ∧ G[i]'(by have := h.len; omega) ∉ L := fun i hi => ⟨h.hi _ (by simp), hL _ (by simp)⟩
  refine ⟨h.len, h.nd, h.lo, fun x hx => Nat.lt_of_lt_of_le (h.hi x hx) k.size, h.fit, k.there h.room hg gL, fun i hi => ?_, fun i hi => ?_, fun i hi => k.range (h.pgs i hi) (hG i hi).1 (hG i hi).2, fun i hi => k.there (h.free i hi) (hG i hi).1 (hG i hi).2⟩
  · obtain ⟨cap, hc⟩ := h.out i hi
    exact ⟨cap, by rw [k.cell _ hg gL]; exact hc⟩
  · rw [k.cell _ hg gL]; exact h.worn i hi
theorem csAt_kept {w w' : World} {b : Nat} {cs : List Value} (h : CsAt w b cs) {L : List Nat} (k : Kept L w w') (hb : b < w.heap.size) (hL : b ∉ L) : CsAt w' b cs := ⟨k.range h.cells hb hL, k.there h.free hb hL⟩
theorem St.kept {w w' : World} {lo g d : Nat} {G : List Nat} {bs : List Bk} {dk : List Int} (h : St w lo g d G bs dk) {L : List Nat} (k : Kept L w w') (hL : ∀ x ∈ d :: g :: G, x ∉ L) : St w' lo g d G bs dk :=
  ⟨own_kept h.own k (fun x hx => hL x (by simp [hx])), csAt_kept h.disk k h.dhi (hL d (by simp)), h.dlo, Nat.lt_of_lt_of_le h.dhi k.size, h.dn, h.six⟩
theorem St.below {w w' : World} {lo g d : Nat} {G : List Nat} {bs : List Bk} {dk : List Int} (h : St w lo g d G bs dk) (hb : Below w.heap.size w w') : St w' lo g d G bs dk := h.kept (L := []) (Kept.of hb) (fun _ _ => by simp)
theorem St.all {w : World} {lo g d : Nat} {G : List Nat} {bs : List Bk} {dk : List Int} (h : St w lo g d G bs dk) : ∀ x ∈ d :: g :: G, lo ≤ x ∧ x < w.heap.size := fun x hx => by
  rcases List.mem_cons.1 hx with rfl | hx
  · exact ⟨h.dlo, h.dhi⟩
  · exact ⟨h.own.lo x hx, h.own.hi x hx⟩
/-- Blocks that were made later are none of a store's. -/
theorem St.late {w : World} {lo g d : Nat} {G : List Nat} {bs : List Bk} {dk : List Int} (h : St w lo g d G bs dk) {L : List Nat} (hL : ∀ x ∈ L, w.heap.size ≤ x) : ∀ x ∈ d :: g :: G, x ∉ L := fun x hx hm => by
  have h1 := (h.all x hx).2
  have h2 := hL x hm
  omega
theorem kept_cells (w : World) (b o : Nat) (vs : List Value) : Kept [b] w (w.setCells b o vs) := (Kept.refl [b] w).setCells (.inl (by simp)) o vs
theorem kept_cell (w : World) (b o : Nat) (v : Value) : Kept [b] w (w.setCell ⟨b, o, none⟩ v) := (Kept.refl [b] w).setCell (p := ⟨b, o, none⟩) (.inl (by simp)) v
theorem there_cell {w : World} {b o n : Nat} (h : w.there b o n) (b' o' : Nat) (v : Value) : (w.setCell ⟨b', o', none⟩ v).there b o n := by
  have := World.there_setCells h b' o' [v]
  exact this
def sV (g d cap dcap : Nat) : Value := .agg #[.slice (some ⟨g, 0, none⟩) 4 cap, .slice (some ⟨d, 0, none⟩) 6 dcap]
def DoPost (w : World) (lo g d cap dcap : Nat) (G : List Nat) (bs : List Bk) (dk : List Int) (e : Ending) (w' : World) : Prop :=
  e = .returned (.agg #[.slice (some ⟨g, 0, none⟩) 4 cap, .slice (some ⟨d, 0, none⟩) 6 dcap]) ∧ St w' lo g d G bs dk ∧ Kept (d :: g :: G) w w'

set_option maxRecDepth 100000 in
set_option maxHeartbeats 2000000 in
theorem do_any (lo g d cap dcap : Nat) (G : List Nat) (bs : List Bk) (dk : List Int) (x : Stp) (torn : Bool) (w : World) (hS : St w lo g d G bs dk) (hok : okB bs = true) (hx : stpB x = true) :
    Calls Tryz.prog 41 #[.agg #[.slice (some ⟨g, 0, none⟩) 4 cap, .slice (some ⟨d, 0, none⟩) 6 dcap], .agg #[.int .i64 x.kind, .int .i64 x.addr, .int .i64 x.val, .int .i64 x.blk, .int .i64 x.r.k, .int .i64 x.r.s, .int .i64 x.r.a, .int .i64 x.r.v], .bool torn] w fun e w' => DoPost w lo g d cap dcap G (doF bs x torn) (doD dk x torn) e w' := by
  have b1 : Below w.heap.size w (((w.alloc (.cells #[.slice (some ⟨g, 0, none⟩) 4 cap, .slice (some ⟨d, 0, none⟩) 6 dcap] 31)).alloc (.cells (stC x).toArray 48)).alloc (.cells #[.slice none 0 0, .slice none 0 0] 31)) := (((Below.refl _ _).alloc (Nat.le_refl _) _).alloc (by simp) _).alloc (by simp; omega) _
  have cS : CsAt (((w.alloc (.cells #[.slice (some ⟨g, 0, none⟩) 4 cap, .slice (some ⟨d, 0, none⟩) 6 dcap] 31)).alloc (.cells (stC x).toArray 48)).alloc (.cells #[.slice none 0 0, .slice none 0 0] 31)) w.heap.size [.slice (some ⟨g, 0, none⟩) 4 cap, .slice (some ⟨d, 0, none⟩) 6 dcap] :=
    ((store_box w (.slice (some ⟨g, 0, none⟩) 4 cap) (.slice (some ⟨d, 0, none⟩) 6 dcap)).alloc (by simp) _).alloc (by simp; omega) _
  have cX : CsAt (((w.alloc (.cells #[.slice (some ⟨g, 0, none⟩) 4 cap, .slice (some ⟨d, 0, none⟩) 6 dcap] 31)).alloc (.cells (stC x).toArray 48)).alloc (.cells #[.slice none 0 0, .slice none 0 0] 31)) (w.heap.size + 1) (stC x) := by
    have := (CsAt.new (w.alloc (.cells #[.slice (some ⟨g, 0, none⟩) 4 cap, .slice (some ⟨d, 0, none⟩) 6 dcap] 31)) (stC x) 48).alloc (by simp) (.cells #[.slice none 0 0, .slice none 0 0] 31)
    rwa [World.size_alloc] at this
  have cR : CsAt (((w.alloc (.cells #[.slice (some ⟨g, 0, none⟩) 4 cap, .slice (some ⟨d, 0, none⟩) 6 dcap] 31)).alloc (.cells (stC x).toArray 48)).alloc (.cells #[.slice none 0 0, .slice none 0 0] 31)) (w.heap.size + 1 + 1) [.slice none 0 0, .slice none 0 0] := by
    have := CsAt.new ((w.alloc (.cells #[.slice (some ⟨g, 0, none⟩) 4 cap, .slice (some ⟨d, 0, none⟩) 6 dcap] 31)).alloc (.cells (stC x).toArray 48)) [.slice none 0 0, .slice none 0 0] 31
    rwa [World.size_alloc, World.size_alloc] at this
  have s1 : (((w.alloc (.cells #[.slice (some ⟨g, 0, none⟩) 4 cap, .slice (some ⟨d, 0, none⟩) 6 dcap] 31)).alloc (.cells (stC x).toArray 48)).alloc (.cells #[.slice none 0 0, .slice none 0 0] 31)).heap.size = w.heap.size + 3 := by simp
  rw [show (stC x).toArray = #[.int .i64 x.kind, .int .i64 x.addr, .int .i64 x.val, .int .i64 x.blk, .int .i64 x.r.k, .int .i64 x.r.s, .int .i64 x.r.a, .int .i64 x.r.v] from rfl] at b1 cS cX cR s1
  have S1 := hS.below b1
  have HF : Hid (doF bs x torn = if x.kind = 2 then wiF bs x.blk.toNat torn else if x.kind = 3 then wrF bs x.blk.toNat x.r torn else bs) := rfl
  have HD : Hid (doD dk x torn = if x.kind = 1 then (if torn then dk else dk.set (x.addr - 1).toNat x.val) else dk) := rfl
  have k1 : Kept [] w (((w.alloc (.cells #[.slice (some ⟨g, 0, none⟩) 4 cap, .slice (some ⟨d, 0, none⟩) 6 dcap] 31)).alloc (.cells #[.int .i64 x.kind, .int .i64 x.addr, .int .i64 x.val, .int .i64 x.blk, .int .i64 x.r.k, .int .i64 x.r.s, .int .i64 x.r.a, .int .i64 x.r.v] 48)).alloc (.cells #[.slice none 0 0, .slice none 0 0] 31)) := Kept.of b1
  have hall := hS.all
  go_enter Tryz.func41, Tryz.ntmps41
  go_upto_region 1 with fail
  generalize ((w.alloc (.cells #[.slice (some ⟨g, 0, none⟩) 4 cap, .slice (some ⟨d, 0, none⟩) 6 dcap] 31)).alloc (.cells #[.int .i64 x.kind, .int .i64 x.addr, .int .i64 x.val, .int .i64 x.blk, .int .i64 x.r.k, .int .i64 x.r.s, .int .i64 x.r.a, .int .i64 x.r.v] 48)).alloc (.cells #[.slice none 0 0, .slice none 0 0] 31) = w1 at *
  have z0 := cX.cell 0 _ rfl
  have z1 := cX.cell 1 _ rfl
  have z2 := cX.cell 2 _ rfl
  have z3 := cX.cell 3 _ rfl
  have z4 := cX.cell 4 _ rfl
  have z5 := cX.cell 5 _ rfl
  have z6 := cX.cell 6 _ rfl
  have z7 := cX.cell 7 _ rfl
  have HX := hide hx
  have HOK := hide hok
  clear hx hok b1 hS
  by_cases t1 : x.kind = 1
  · have q1 : (x.kind == 1) = true := by simpa using t1
    have HE1 : Hid (doF bs x torn = bs) := by show _ = _; rw [unhide HF, if_neg (by omega), if_neg (by omega)]
    have hx1 : 1 ≤ x.addr ∧ x.addr ≤ 6 := by have hx := unhide HX; unfold stpB at hx; rw [if_pos t1] at hx; simpa [inB] using hx
    cases torn
    · obtain ⟨n, hn⟩ : ∃ n : Nat, x.addr = (n : Int) + 1 := ⟨(x.addr - 1).toNat, by omega⟩
      have hn6 : n < 6 := by omega
      have HE2 : Hid (doD dk x false = dk.set n x.val) := by
        show _ = _
        rw [unhide HD, if_pos t1, if_neg (by simp), show (x.addr - 1).toNat = n by omega]
      rw [hn] at z1
      clear t1 hx1 hn z3 z4 z5 z6 z7
      have a1 := cS.cell 1 _ rfl
      have hnl : n < (isC dk).length := by rw [len_isC, S1.six]; exact hn6
      obtain ⟨vo, hvo⟩ : ∃ v, w1.cell? ⟨d, n, none⟩ = some v := ⟨_, S1.disk.cell n _ (List.getElem?_eq_getElem hnl)⟩
      have fo := S1.disk.frozen n hnl
      have hn0 : (0 : Int) ≤ (n : Int) := by omega
      have hnk : (n : Int) < 6 := by omega
      have e2 : ((n : Int) + 1 - 1) = (n : Int) := by omega
      have S2 : St (w1.setCell ⟨d, n, none⟩ (.int .i64 x.val)) lo g d G bs (dk.set n x.val) := by
        have kd := kept_cell w1 d n (.int .i64 x.val)
        refine ⟨own_kept S1.own kd (fun y hy => by simp; exact fun e => S1.dn (e ▸ hy)), ?_, S1.dlo, Nat.lt_of_lt_of_le S1.dhi kd.size, S1.dn, by rw [List.length_set]; exact S1.six⟩
        refine ⟨fun j v hv => ?_, fun j hj => ?_⟩
        · rw [Nat.zero_add]
          have hjl : j < dk.length := by
            have := (List.getElem?_eq_some_iff.1 hv).1
            rw [len_isC, List.length_set] at this; exact this
          by_cases e : j = n
          · subst e
            have : v = .int .i64 x.val := by simp [isC, hjl] at hv; exact hv.symm
            rw [this]
            exact World.cell?_setCell_same' _ _ _ (by rw [hvo]; rfl)
          · rw [World.cell?_setCell_other _ _ _ _ (by intro q; cases q; exact e rfl)]
            have hv' : (isC dk)[j]? = some v := by
              unfold isC at hv ⊢
              rw [List.getElem?_map] at hv ⊢
              rw [List.getElem?_set_ne (by omega)] at hv
              exact hv
            exact S1.disk.cell j v hv'
        · have hj' : j < (isC dk).length := by rw [len_isC] at hj ⊢; rw [List.length_set] at hj; exact hj
          have := S1.disk.free j hj'
          exact there_cell S1.disk.free d n (.int .i64 x.val) j hj'
      have kd : Kept (d :: g :: G) w (w1.setCell ⟨d, n, none⟩ (.int .i64 x.val)) := (k1.sub (fun _ h => by cases h)).then (kept_cell w1 d n (.int .i64 x.val)) (fun y hy => by simp at hy; subst hy; left; simp)
      have cS2 := csAt_kept cS (kept_cell w1 d n (.int .i64 x.val)) (by omega) (by simp; have := (hall d (by simp)).2; omega)
      have cR2 := csAt_kept cR (kept_cell w1 d n (.int .i64 x.val)) (by omega) (by simp; have := (hall d (by simp)).2; omega)
      have s2 : (w1.setCell ⟨d, n, none⟩ (.int .i64 x.val)).heap.size = w.heap.size + 3 := by rw [← s1]; simp [World.setCell]
      go_upto_region 9 with fail
      generalize w1.setCell ⟨d, n, none⟩ (.int .i64 x.val) = w2 at *
      clear hvo fo a1
      have d0 := cR2.cell 0 _ rfl
      have d1 := cR2.cell 1 _ rfl
      have f0 := cR2.frozen 0 (by simp)
      have f1 := cR2.frozen 1 (by simp)
      have y0 := cS2.cell 0 _ rfl
      have y1 := cS2.cell 1 _ rfl
      have p1 := cR2.put [.slice (some ⟨g, 0, none⟩) 4 cap, .slice (some ⟨d, 0, none⟩) 6 dcap] rfl
      have kz := kept_cells w2 (w.heap.size + 1 + 1) 0 [.slice (some ⟨g, 0, none⟩) 4 cap, .slice (some ⟨d, 0, none⟩) 6 dcap]
      have SZ := (S2).kept kz (fun y hy => by have := (hall y hy).2; simp; omega)
      have KZ : Kept (d :: g :: G) w (w2.setCells (w.heap.size + 1 + 1) 0 [.slice (some ⟨g, 0, none⟩) 4 cap, .slice (some ⟨d, 0, none⟩) 6 dcap]) := (kd).then kz (fun y hy => by simp at hy; subst hy; right; omega)
      go_wp2
      refine bodyPost_ret (res_cell_mid Tryz.results41 _ _ (w.heap.size + 1 + 1) [.slice (some ⟨g, 0, none⟩) 4 cap, .slice (some ⟨d, 0, none⟩) 6 dcap] _ rfl p1.cells Tryz.underlying31 rfl (by kernel_rfl)) rfl ?_
      exact ⟨rfl, by rw [unhide HE1, unhide HE2]; exact SZ, KZ⟩
    · have HE2 : Hid (doD dk x true = dk) := by show _ = _; rw [unhide HD, if_pos t1, if_pos rfl]
      clear t1 hx1 z1 z2 z3 z4 z5 z6 z7
      have d0 := cR.cell 0 _ rfl
      have d1 := cR.cell 1 _ rfl
      have f0 := cR.frozen 0 (by simp)
      have f1 := cR.frozen 1 (by simp)
      have y0 := cS.cell 0 _ rfl
      have y1 := cS.cell 1 _ rfl
      have p1 := cR.put [.slice (some ⟨g, 0, none⟩) 4 cap, .slice (some ⟨d, 0, none⟩) 6 dcap] rfl
      have kz := kept_cells w1 (w.heap.size + 1 + 1) 0 [.slice (some ⟨g, 0, none⟩) 4 cap, .slice (some ⟨d, 0, none⟩) 6 dcap]
      have SZ := (S1).kept kz (fun y hy => by have := (hall y hy).2; simp; omega)
      have KZ : Kept (d :: g :: G) w (w1.setCells (w.heap.size + 1 + 1) 0 [.slice (some ⟨g, 0, none⟩) 4 cap, .slice (some ⟨d, 0, none⟩) 6 dcap]) := (k1.sub (fun _ h => by cases h)).then kz (fun y hy => by simp at hy; subst hy; right; omega)
      go_wp2
      refine bodyPost_ret (res_cell_mid Tryz.results41 _ _ (w.heap.size + 1 + 1) [.slice (some ⟨g, 0, none⟩) 4 cap, .slice (some ⟨d, 0, none⟩) 6 dcap] _ rfl p1.cells Tryz.underlying31 rfl (by kernel_rfl)) rfl ?_
      exact ⟨rfl, by rw [unhide HE1, unhide HE2]; exact SZ, KZ⟩
  · have q1 : (x.kind == 1) = false := by simpa using t1
    have HE2 : Hid (doD dk x torn = dk) := by show _ = _; rw [unhide HD, if_neg t1]
    by_cases t2 : x.kind = 2
    · have q2 : (x.kind == 2) = true := by simpa using t2
      have hx1 : 0 ≤ x.blk ∧ x.blk ≤ 3 := by have hx := unhide HX; unfold stpB at hx; rw [if_neg t1, if_pos t2] at hx; simpa [inB] using hx
      obtain ⟨k, hk⟩ : ∃ k : Nat, x.blk = (k : Int) := ⟨x.blk.toNat, by omega⟩
      have hk4 : k < 4 := by omega
      have HE1 : Hid (doF bs x torn = wiF bs k torn) := by show _ = _; rw [unhide HF, if_pos t2, show x.blk.toNat = k by omega]
      rw [hk] at z3
      clear t1 t2 hx1 hk z1 z2 z4 z5 z6 z7
      have a0 := cS.cell 0 _ rfl
      go_wp2_with fail
      refine (wipe_any lo g cap G bs k torn w1 S1.own (unhide HOK) hk4).mono ?_
      rintro e w2 ⟨rfl, o2, k2⟩
      have o2' : Own.Own w2 lo g G (wiF bs k torn) 4 := by unfold wiF; exact o2
      have hd2 : d ∉ g :: G := S1.dn
      have S2 : St w2 lo g d G (wiF bs k torn) dk := ⟨o2', csAt_kept S1.disk k2 S1.dhi hd2, S1.dlo, Nat.lt_of_lt_of_le S1.dhi k2.size, hd2, S1.six⟩
      have cS2 := csAt_kept cS k2 (by omega) (fun hm => by have := (hall _ (List.mem_cons_of_mem _ hm)).2; omega)
      have cR2 := csAt_kept cR k2 (by omega) (fun hm => by have := (hall _ (List.mem_cons_of_mem _ hm)).2; omega)
      have K2 : Kept (d :: g :: G) w w2 := (k1.sub (fun _ h => by cases h)).then k2 (fun y hy => .inl (List.mem_cons_of_mem _ hy))
      have s2 : w.heap.size + 3 ≤ w2.heap.size := by have := k2.size; omega
      clear a0 o2 o2' k2 S1 cS cR z0 z3
      generalize wiF bs k torn = bs2 at *
      generalize (!wiN bs k) = fl at *
      have a0 := cS2.cell 0 _ rfl
      have g0 := cS2.frozen 0 (by simp)
      have kc := kept_cell w2 w.heap.size 0 (.slice (some ⟨g, 0, none⟩) 4 cap)
      have S3 := S2.kept kc (fun y hy => by have := (hall y hy).2; simp; omega)
      have K3 := K2.then kc (fun y hy => by simp at hy; subst hy; right; exact Nat.le_refl _)
      have cR3 := csAt_kept cR2 kc (by omega) (by simp; omega)
      have cS3 : CsAt (w2.setCell ⟨w.heap.size, 0, none⟩ (.slice (some ⟨g, 0, none⟩) 4 cap)) w.heap.size [.slice (some ⟨g, 0, none⟩) 4 cap, .slice (some ⟨d, 0, none⟩) 6 dcap] := by
        refine ⟨fun j v hv => ?_, fun j hj => ?_⟩
        · rw [Nat.zero_add]
          match j, hv with
          | 0, hv => (obtain rfl : v = .slice (some ⟨g, 0, none⟩) 4 cap := by simpa using hv.symm); exact World.cell?_setCell_same' _ _ _ (by rw [a0]; rfl)
          | 1, hv => rw [World.cell?_setCell_other _ _ _ _ (by intro q; cases q)]; exact cS2.cell 1 v hv
          | n + 2, hv => simp at hv
        · exact there_cell cS2.free w.heap.size 0 (.slice (some ⟨g, 0, none⟩) 4 cap) j hj
      have s3 : w.heap.size + 3 ≤ (w2.setCell ⟨w.heap.size, 0, none⟩ (.slice (some ⟨g, 0, none⟩) 4 cap)).heap.size := Nat.le_trans s2 kc.size
      go_upto_region 9 with fail
      generalize w2.setCell ⟨w.heap.size, 0, none⟩ (.slice (some ⟨g, 0, none⟩) 4 cap) = w3 at *
      clear a0 g0 S2 K2 cR2 cS2 kc
      have d0 := cR3.cell 0 _ rfl
      have d1 := cR3.cell 1 _ rfl
      have f0 := cR3.frozen 0 (by simp)
      have f1 := cR3.frozen 1 (by simp)
      have y0 := cS3.cell 0 _ rfl
      have y1 := cS3.cell 1 _ rfl
      have p1 := cR3.put [.slice (some ⟨g, 0, none⟩) 4 cap, .slice (some ⟨d, 0, none⟩) 6 dcap] rfl
      have kz := kept_cells w3 (w.heap.size + 1 + 1) 0 [.slice (some ⟨g, 0, none⟩) 4 cap, .slice (some ⟨d, 0, none⟩) 6 dcap]
      have SZ := (S3).kept kz (fun y hy => by have := (hall y hy).2; simp; omega)
      have KZ : Kept (d :: g :: G) w (w3.setCells (w.heap.size + 1 + 1) 0 [.slice (some ⟨g, 0, none⟩) 4 cap, .slice (some ⟨d, 0, none⟩) 6 dcap]) := (K3).then kz (fun y hy => by simp at hy; subst hy; right; omega)
      go_wp2
      refine bodyPost_ret (res_cell_mid Tryz.results41 _ _ (w.heap.size + 1 + 1) [.slice (some ⟨g, 0, none⟩) 4 cap, .slice (some ⟨d, 0, none⟩) 6 dcap] _ rfl p1.cells Tryz.underlying31 rfl (by kernel_rfl)) rfl ?_
      exact ⟨rfl, by rw [unhide HE1, unhide HE2]; exact SZ, KZ⟩
    · have q2 : (x.kind == 2) = false := by simpa using t2
      by_cases t3 : x.kind = 3
      · have q3 : (x.kind == 3) = true := by simpa using t3
        have hx1 : 0 ≤ x.blk ∧ x.blk ≤ 3 := by
          have hx := unhide HX; unfold stpB at hx; rw [if_neg t1, if_neg t2, if_pos t3, Bool.and_eq_true] at hx; simpa [inB] using hx.1
        obtain ⟨k, hk⟩ : ∃ k : Nat, x.blk = (k : Int) := ⟨x.blk.toNat, by omega⟩
        have hk4 : k < 4 := by omega
        have HE1 : Hid (doF bs x torn = wrF bs k x.r torn) := by show _ = _; rw [unhide HF, if_neg t2, if_pos t3, show x.blk.toNat = k by omega]
        rw [hk] at z3
        clear t1 t2 t3 hx1 hk z1 z2
        have a0 := cS.cell 0 _ rfl
        go_wp2_with fail
        refine (write_any lo g cap G bs k torn x.r.k x.r.s x.r.a x.r.v w1 S1.own (unhide HOK) hk4).mono ?_
        rintro e w2 ⟨rfl, o2, k2⟩
        have o2' : Own.Own w2 lo g G (wrF bs k x.r torn) 4 := by unfold wrF; exact o2
        have hd2 : d ∉ g :: G := S1.dn
        have S2 : St w2 lo g d G (wrF bs k x.r torn) dk := ⟨o2', csAt_kept S1.disk k2 S1.dhi hd2, S1.dlo, Nat.lt_of_lt_of_le S1.dhi k2.size, hd2, S1.six⟩
        have cS2 := csAt_kept cS k2 (by omega) (fun hm => by have := (hall _ (List.mem_cons_of_mem _ hm)).2; omega)
        have cR2 := csAt_kept cR k2 (by omega) (fun hm => by have := (hall _ (List.mem_cons_of_mem _ hm)).2; omega)
        have K2 : Kept (d :: g :: G) w w2 := (k1.sub (fun _ h => by cases h)).then k2 (fun y hy => .inl (List.mem_cons_of_mem _ hy))
        have s2 : w.heap.size + 3 ≤ w2.heap.size := by have := k2.size; omega
        clear a0 o2 o2' k2 S1 cS cR z0 z3 z4 z5 z6 z7
        generalize wrF bs k x.r torn = bs2 at *
        generalize (!wrN bs k x.r.s) = fl at *
        have a0 := cS2.cell 0 _ rfl
        have g0 := cS2.frozen 0 (by simp)
        have kc := kept_cell w2 w.heap.size 0 (.slice (some ⟨g, 0, none⟩) 4 cap)
        have S3 := S2.kept kc (fun y hy => by have := (hall y hy).2; simp; omega)
        have K3 := K2.then kc (fun y hy => by simp at hy; subst hy; right; exact Nat.le_refl _)
        have cR3 := csAt_kept cR2 kc (by omega) (by simp; omega)
        have cS3 : CsAt (w2.setCell ⟨w.heap.size, 0, none⟩ (.slice (some ⟨g, 0, none⟩) 4 cap)) w.heap.size [.slice (some ⟨g, 0, none⟩) 4 cap, .slice (some ⟨d, 0, none⟩) 6 dcap] := by
          refine ⟨fun j v hv => ?_, fun j hj => ?_⟩
          · rw [Nat.zero_add]
            match j, hv with
            | 0, hv => (obtain rfl : v = .slice (some ⟨g, 0, none⟩) 4 cap := by simpa using hv.symm); exact World.cell?_setCell_same' _ _ _ (by rw [a0]; rfl)
            | 1, hv => rw [World.cell?_setCell_other _ _ _ _ (by intro q; cases q)]; exact cS2.cell 1 v hv
            | n + 2, hv => simp at hv
          · exact there_cell cS2.free w.heap.size 0 (.slice (some ⟨g, 0, none⟩) 4 cap) j hj
        have s3 : w.heap.size + 3 ≤ (w2.setCell ⟨w.heap.size, 0, none⟩ (.slice (some ⟨g, 0, none⟩) 4 cap)).heap.size := Nat.le_trans s2 kc.size
        go_upto_region 9 with fail
        generalize w2.setCell ⟨w.heap.size, 0, none⟩ (.slice (some ⟨g, 0, none⟩) 4 cap) = w3 at *
        clear a0 g0 S2 K2 cR2 cS2 kc
        have d0 := cR3.cell 0 _ rfl
        have d1 := cR3.cell 1 _ rfl
        have f0 := cR3.frozen 0 (by simp)
        have f1 := cR3.frozen 1 (by simp)
        have y0 := cS3.cell 0 _ rfl
        have y1 := cS3.cell 1 _ rfl
        have p1 := cR3.put [.slice (some ⟨g, 0, none⟩) 4 cap, .slice (some ⟨d, 0, none⟩) 6 dcap] rfl
        have kz := kept_cells w3 (w.heap.size + 1 + 1) 0 [.slice (some ⟨g, 0, none⟩) 4 cap, .slice (some ⟨d, 0, none⟩) 6 dcap]
        have SZ := (S3).kept kz (fun y hy => by have := (hall y hy).2; simp; omega)
        have KZ : Kept (d :: g :: G) w (w3.setCells (w.heap.size + 1 + 1) 0 [.slice (some ⟨g, 0, none⟩) 4 cap, .slice (some ⟨d, 0, none⟩) 6 dcap]) := (K3).then kz (fun y hy => by simp at hy; subst hy; right; omega)
        go_wp2
        refine bodyPost_ret (res_cell_mid Tryz.results41 _ _ (w.heap.size + 1 + 1) [.slice (some ⟨g, 0, none⟩) 4 cap, .slice (some ⟨d, 0, none⟩) 6 dcap] _ rfl p1.cells Tryz.underlying31 rfl (by kernel_rfl)) rfl ?_
        exact ⟨rfl, by rw [unhide HE1, unhide HE2]; exact SZ, KZ⟩
      · have q3 : (x.kind == 3) = false := by simpa using t3
        have HE1 : Hid (doF bs x torn = bs) := by show _ = _; rw [unhide HF, if_neg t2, if_neg t3]
        clear t1 t2 t3 z1 z2 z3 z4 z5 z6 z7
        have d0 := cR.cell 0 _ rfl
        have d1 := cR.cell 1 _ rfl
        have f0 := cR.frozen 0 (by simp)
        have f1 := cR.frozen 1 (by simp)
        have y0 := cS.cell 0 _ rfl
        have y1 := cS.cell 1 _ rfl
        have p1 := cR.put [.slice (some ⟨g, 0, none⟩) 4 cap, .slice (some ⟨d, 0, none⟩) 6 dcap] rfl
        have kz := kept_cells w1 (w.heap.size + 1 + 1) 0 [.slice (some ⟨g, 0, none⟩) 4 cap, .slice (some ⟨d, 0, none⟩) 6 dcap]
        have SZ := (S1).kept kz (fun y hy => by have := (hall y hy).2; simp; omega)
        have KZ : Kept (d :: g :: G) w (w1.setCells (w.heap.size + 1 + 1) 0 [.slice (some ⟨g, 0, none⟩) 4 cap, .slice (some ⟨d, 0, none⟩) 6 dcap]) := (k1.sub (fun _ h => by cases h)).then kz (fun y hy => by simp at hy; subst hy; right; omega)
        go_wp2
        refine bodyPost_ret (res_cell_mid Tryz.results41 _ _ (w.heap.size + 1 + 1) [.slice (some ⟨g, 0, none⟩) 4 cap, .slice (some ⟨d, 0, none⟩) 6 dcap] _ rfl p1.cells Tryz.underlying31 rfl (by kernel_rfl)) rfl ?_
        exact ⟨rfl, by rw [unhide HE1, unhide HE2]; exact SZ, KZ⟩
end Go.Proofs.YtcmklcfedeeahaaGreat.DoA
