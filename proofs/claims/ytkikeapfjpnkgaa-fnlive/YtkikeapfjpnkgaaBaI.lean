/-
  Texts that belong together, one behind the other: SpecW, SpecX, SpecY.
-/
import Derived.Test.YtkikeapfjpnkgaaBaH

/-
  The specification's wiping of a block.
-/
namespace Go.Proofs.Ytkikeapfjpnkgaa.SpecW
open Go.ChangeShapes Go.WideShapes Go.ChangeAt Go.RowKit OkA Big Fl ImplB ImplF ImplS _root_.Go.Proofs.Ytkikeapfjpnkgaa.Own ImplT ImplU SpecA SpecB SpecC SpecD Kp
set_option linter.unusedVariables false
set_option linter.unusedSimpArgs false

section
variable {w : World} {lo g n : Nat} {G : List Nat} {bs : List Bk}
theorem apart (h : Own w lo g G bs n) (k : Nat) (hk : k < G.length) : ∀ i (hi : i < G.length), i ≠ k → G[i] ≠ G[k] := fun i hi hne e => by
  have hp := List.pairwise_iff_getElem.1 (List.nodup_cons.1 h.nd).2
  rcases Nat.lt_or_gt_of_ne hne with q | q
  · exact hp i k hi hk q e
  · exact hp k i hk hi q e.symm
theorem outer (h : Own w lo g G bs n) : ∀ i (hi : i < G.length), G[i] ≠ g := fun i hi e => (List.nodup_cons.1 h.nd).1 (e ▸ List.getElem_mem hi)
/-- Pages are laid over pages. -/
theorem pages (h : Own w lo g G bs n) (k : Nat) (hk : k < bs.length) (ps : List Pg) (hl : ps.length = bs[k].ps.length) :
    Own (w.setCells (G[k]'(by have := h.len; omega)) 0 (psC ps)) lo g G (bs.set k ⟨ps, bs[k].wn⟩) n := by
  have hlen := h.len
  have hGg := outer h
  have hGG := apart h k (by omega)
  have tk : w.there (G[k]'(by omega)) 0 (psC ps).length := by rw [len_psC, hl]; exact h.free k hk
  refine ⟨by simp [hlen], h.nd, h.lo, fun x hx => by rw [size_setCells]; exact h.hi x hx, by simpa using h.fit, World.there_setCells h.room _ _ _, fun i hi => ?_, fun i hi => ?_, fun i hi => ?_, fun i hi => ?_, fun i hi a m c hc => h.caps i (by simpa using hi) a m c (by rw [cell_setCells_ne (.inl (hGg k (by omega)).symm)] at hc; exact hc)⟩
  · simp only [List.length_set] at hi
    obtain ⟨c, hc⟩ := h.out i hi
    refine ⟨c, ?_⟩
    rw [cell_setCells_ne (.inl (hGg k (by omega)).symm), hc]
    by_cases e : i = k
    · subst e; simp [hl]
    · rw [List.getElem_set_ne (fun q => e q.symm)]
  · simp only [List.length_set] at hi
    rw [cell_setCells_ne (.inl (hGg k (by omega)).symm), h.worn i hi]
    by_cases e : i = k
    · subst e; simp
    · rw [List.getElem_set_ne (fun q => e q.symm)]
  · simp only [List.length_set] at hi
    by_cases e : i = k
    · subst e
      simp only [List.getElem_set_self]
      intro j v hv
      obtain ⟨hj, rfl⟩ := List.getElem?_eq_some_iff.1 hv
      exact cell_setCells_eq tk j hj
    · rw [List.getElem_set_ne (fun q => e q.symm)]
      exact World.rangeAt_setCells_apart (h.pgs i hi) _ _ _ (.inl (hGG i (by omega) e))
  · simp only [List.length_set] at hi
    refine World.there_setCells ?_ _ _ _
    by_cases e : i = k
    · subst e
      simp only [List.getElem_set_self, hl]
      exact h.free i hk
    · rw [List.getElem_set_ne (fun q => e q.symm)]
      exact h.free i hi
/-- A number of wipings is laid over a number. -/
theorem wear (h : Own w lo g G bs n) (k : Nat) (hk : k < bs.length) (wn : Int) :
    Own (w.setCells g (k * 2 + 1) [.int .i64 wn]) lo g G (bs.set k ⟨bs[k].ps, wn⟩) n := by
  have hlen := h.len
  have hGg := outer h
  have hfit := h.fit
  have tg : w.there g (k * 2 + 1) 1 := by
    have := there_sub h.room (k * 2 + 1) 1 (by omega)
    simpa using this
  have hps : ∀ i (hi : i < bs.length), ((bs.set k ⟨bs[k].ps, wn⟩)[i]'(by simpa using hi)).ps = bs[i].ps := fun i hi => by
    by_cases e : i = k
    · subst e; simp
    · rw [List.getElem_set_ne (fun q => e q.symm)]
  refine ⟨by simp [hlen], h.nd, h.lo, fun x hx => by rw [size_setCells]; exact h.hi x hx, by simpa using h.fit, World.there_setCells h.room _ _ _, fun i hi => ?_, fun i hi => ?_, fun i hi => ?_, fun i hi => ?_, fun i hi a m c hc => h.caps i (by simpa using hi) a m c (by simp only [List.length_set] at hi; rw [cell_setCells_ne (.inr (by simp; omega))] at hc; exact hc)⟩
  · simp only [List.length_set] at hi
    obtain ⟨c, hc⟩ := h.out i hi
    exact ⟨c, by rw [cell_setCells_ne (.inr (by simp; omega)), hc, hps i hi]⟩
  · simp only [List.length_set] at hi
    by_cases e : i = k
    · subst e
      have := cell_setCells_eq (vs := [.int .i64 wn]) tg 0 (by simp)
      simpa using this
    · rw [cell_setCells_ne (.inr (by simp; omega)), List.getElem_set_ne (fun q => e q.symm)]
      exact h.worn i hi
  · simp only [List.length_set] at hi
    rw [hps i hi]
    exact World.rangeAt_setCells_apart (h.pgs i hi) _ _ _ (.inl (hGg i (by omega)))
  · simp only [List.length_set] at hi
    rw [hps i hi]
    exact World.there_setCells (h.free i hi) _ _ _
end
theorem setCells_app (b : Nat) : ∀ (x y : List Value) (d : Nat) (w : World), w.setCells b d (x ++ y) = (w.setCells b d x).setCells b (d + x.length) y
  | [], _, _, _ => rfl
  | v :: r, y, d, w => by
    simp only [List.cons_append, World.setCells, List.length_cons]
    rw [setCells_app b r y (d + 1), show d + 1 + r.length = d + (r.length + 1) by omega]

def pgS (torn : Bool) : Pg := ⟨if torn then 2 else 0, 0, 0, 0, 0⟩
def wiB (b : Bk) (torn : Bool) : Bk := ⟨List.replicate 4 (pgS torn), b.wn + 1⟩
def wiL (bs : List Bk) (k : Nat) (torn : Bool) : List Bk := bs.set k (wiB (bs.getD k zBk) torn)
def wiN (bs : List Bk) (k : Nat) : Bool := decide (200 ≤ (bs.getD k zBk).wn)
def WiPost (w : World) (lo g cap : Nat) (G : List Nat) (bs : List Bk) (k : Nat) (torn : Bool) (e : Ending) (w' : World) : Prop :=
  e = .returned (.tuple #[.slice (some ⟨g, 0, none⟩) 4 cap, .bool (!wiN bs k)]) ∧ Own w' lo g G (if wiN bs k then bs else wiL bs k torn) 4 ∧ Kept (g :: G) w w'
theorem wipe_step (w : World) (gb j : Nat) (p : Pg) : w.setCells gb 0 (psC (List.replicate (j + 1) p)) = (w.setCells gb 0 (psC (List.replicate j p))).setCells gb (j * 5) (pgC p) := by
  have e : psC (List.replicate (j + 1) p) = psC (List.replicate j p) ++ pgC p := by rw [List.replicate_succ']; simp [psC]
  rw [e, setCells_app, len_psC, List.length_replicate, Nat.zero_add]
theorem ok_worn {bs : List Bk} (h : okB bs = true) (k : Nat) (hk : k < bs.length) : 0 ≤ bs[k].wn ∧ bs[k].wn ≤ 200 := by
  simp only [okB, Bool.and_eq_true, List.all_eq_true] at h
  have := h.1.2 bs[k] (List.getElem_mem hk)
  simp only [bkB, Bool.and_eq_true, inB, decide_eq_true_eq] at this
  exact this.1.1.2

set_option maxRecDepth 100000 in
set_option maxHeartbeats 1000000 in
theorem wipe_any (lo g cap : Nat) (G : List Nat) (bs : List Bk) (k : Nat) (torn : Bool) (w : World) (o : Own w lo g G bs 4) (hok : okB bs = true) (hk : k < 4) :
    Calls Try.prog 125 #[.slice (some ⟨g, 0, none⟩) 4 cap, .int .i64 k, .bool torn] w fun e w' => WiPost w lo g cap G bs k torn e w' := by
  have h4 := ok_len hok
  have hF := ok_fours hok
  have hkb : k < bs.length := by omega
  have hb4 := hF.at k hkb
  obtain ⟨hw0, hw2⟩ := ok_worn hok k hkb
  have hgd : bs.getD k zBk = bs[k] := by rw [List.getD_eq_getElem?_getD, List.getElem?_eq_getElem hkb]; rfl
  have hlen := o.len
  obtain ⟨pc, c0⟩ := o.out k hkb
  have c1 := o.worn k hkb
  rw [hb4] at c0
  have hki : (k : Int) < 4 := by omega
  have hk0 : (0 : Int) ≤ (k : Int) := by omega
  have hgk : g ≠ G[k]'(by omega) := fun e => outer o k (by omega) e.symm
  have hgl2 : lo ≤ g := o.lo g (by simp)
  have hgl : lo ≤ G[k]'(by omega) := o.lo _ (List.mem_cons_of_mem _ (List.getElem_mem _))
  have f1 : w.frozen? ⟨g, k * 2 + 1, none⟩ = false := by
    have := (o.room (k * 2 + 1) (by omega)).2
    rwa [Nat.zero_add] at this
  have OW := hide (wear o k hkb (bs[k].wn + 1))
  have OP : Hid (Own ((w.setCells g (k * 2 + 1) [.int .i64 (bs[k].wn + 1)]).setCells (G[k]'(by omega)) 0 (psC (List.replicate 4 (pgS torn)))) lo g G (wiL bs k torn) 4) := by
    have := pages (unhide OW) k (by simpa using hkb) (List.replicate 4 (pgS torn)) (by simp [hb4])
    simp only [List.getElem_set_self, List.set_set] at this
    unfold wiL wiB; rw [hgd]; exact this
  have HTK := hide (World.there_setCells (o.free k hkb) g (k * 2 + 1) [.int .i64 (bs[k].wn + 1)])
  rw [hb4] at HTK
  have HN : Hid (wiN bs k = decide (200 ≤ bs[k].wn)) := by unfold wiN; rw [hgd]; rfl
  have HP : Hid (∀ t : Bool, (pgC (pgS t)) = [.int .i64 (if t then 2 else 0), .int .i64 0, .int .i64 0, .int .i64 0, .int .i64 0]) := fun t => rfl
  clear hok hF OW hgd
  have HGM : Hid (G[k]'(by omega) ∈ g :: G) := List.mem_cons_of_mem _ (List.getElem_mem _)
  generalize G[k]'(by omega) = gk at *
  generalize bs[k] = b at *
  go_enter Try.func125, Try.ntmps125
  by_cases hw : 200 ≤ b.wn
  · have HW : Hid (wiN bs k = true) := by show _ = _; rw [unhide HN]; simpa using hw
    go_wp2
    go_ret2
    refine ⟨by rw [unhide HW]; rfl, ?_, Kept.refl _ _⟩
    rw [if_pos (unhide HW)]; exact o
  · have HW : Hid (wiN bs k = false) := by show _ = _; rw [unhide HN]; simpa using hw
    have hC0 : (w.setCells g (k * 2 + 1) [.int .i64 (b.wn + 1)]).cell? ⟨g, k * 2, none⟩ = some (.slice (some ⟨gk, 0, none⟩) 4 pc) := by rw [cell_setCells_ne (.inr (.inl (by omega)))]; exact c0
    have B1 := (Kept.refl (g :: G) w).setCells (b := g) (.inl (by simp)) (k * 2 + 1) [.int .i64 (b.wn + 1)]
    have hsc : w.setCells g (k * 2 + 1) [.int .i64 (b.wn + 1)] = w.setCell ⟨g, k * 2 + 1, none⟩ (.int .i64 (b.wn + 1)) := rfl
    rw [hsc] at hC0 B1 OP HTK
    clear hsc HN
    cases torn
    · go_wp2
      clear o c0 c1 f1
      generalize w.setCell ⟨g, k * 2 + 1, none⟩ (.int .i64 (b.wn + 1)) = w1 at *
      go_loopw [9] (fun i w' => ∃ j : Nat, j ≤ 4 ∧ i = .int .i64 j ∧ Hid (w' = w1.setCells gk 0 (psC (List.replicate j (pgS false))))) (fun i _ => 4 - (intOf i).toNat)
      case atStart => exact ⟨0, by omega, rfl, rfl⟩
      case round =>
        obtain ⟨j, hj, rfl, hwr⟩ := hrel
        by_cases h0 : j = 4
        · subst h0
          go_wp2
          go_ret2
          refine ⟨by rw [unhide HW]; rfl, ?_, ?_⟩
          · rw [if_neg (by rw [unhide HW]; simp), unhide hwr]; exact unhide OP
          · rw [unhide hwr]; exact B1.setCells (.inl (unhide HGM)) _ _
        · have hlt : (j : Int) < 4 := by omega
          have hlo : (0 : Int) ≤ (j : Int) := by omega
          have HS := hide (wipe_step w1 gk j (pgS false))
          rw [← unhide hwr] at HS
          have D0 : wr.cell? ⟨g, k * 2, none⟩ = some (.slice (some ⟨gk, 0, none⟩) 4 pc) := by rw [unhide hwr, cell_setCells_ne (.inl hgk)]; exact hC0
          have T0 : wr.there gk (j * 5) 5 := by
            rw [unhide hwr]
            have := there_sub (World.there_setCells (unhide HTK) gk 0 (psC (List.replicate j (pgS false)))) (j * 5) 5 (by omega)
            rwa [Nat.zero_add] at this
          clear hwr
          obtain ⟨v0, x0⟩ := Option.isSome_iff_exists.1 (T0 0 (by omega)).1
          obtain ⟨v1, x1⟩ := Option.isSome_iff_exists.1 (T0 1 (by omega)).1
          obtain ⟨v2, x2⟩ := Option.isSome_iff_exists.1 (T0 2 (by omega)).1
          obtain ⟨v3, x3⟩ := Option.isSome_iff_exists.1 (T0 3 (by omega)).1
          obtain ⟨v4, x4⟩ := Option.isSome_iff_exists.1 (T0 4 (by omega)).1
          have f0 := (T0 0 (by omega)).2
          have f1 := (T0 1 (by omega)).2
          have f2 := (T0 2 (by omega)).2
          have f3 := (T0 3 (by omega)).2
          have f4 := (T0 4 (by omega)).2
          simp only [Nat.add_zero] at x0 f0
          clear T0
          go_wp2
          go_roundw
          case rel => exact ⟨j + 1, by omega, by first | rfl | go_num, (unhide HS).symm⟩
          case measure => simp [intOf]; omega
    · go_wp2
      clear o c0 c1 f1
      generalize w.setCell ⟨g, k * 2 + 1, none⟩ (.int .i64 (b.wn + 1)) = w1 at *
      go_loopw [9] (fun i w' => ∃ j : Nat, j ≤ 4 ∧ i = .int .i64 j ∧ Hid (w' = w1.setCells gk 0 (psC (List.replicate j (pgS true))))) (fun i _ => 4 - (intOf i).toNat)
      case atStart => exact ⟨0, by omega, rfl, rfl⟩
      case round =>
        obtain ⟨j, hj, rfl, hwr⟩ := hrel
        by_cases h0 : j = 4
        · subst h0
          go_wp2
          go_ret2
          refine ⟨by rw [unhide HW]; rfl, ?_, ?_⟩
          · rw [if_neg (by rw [unhide HW]; simp), unhide hwr]; exact unhide OP
          · rw [unhide hwr]; exact B1.setCells (.inl (unhide HGM)) _ _
        · have hlt : (j : Int) < 4 := by omega
          have hlo : (0 : Int) ≤ (j : Int) := by omega
          have HS := hide (wipe_step w1 gk j (pgS true))
          rw [← unhide hwr] at HS
          have D0 : wr.cell? ⟨g, k * 2, none⟩ = some (.slice (some ⟨gk, 0, none⟩) 4 pc) := by rw [unhide hwr, cell_setCells_ne (.inl hgk)]; exact hC0
          have T0 : wr.there gk (j * 5) 5 := by
            rw [unhide hwr]
            have := there_sub (World.there_setCells (unhide HTK) gk 0 (psC (List.replicate j (pgS true)))) (j * 5) 5 (by omega)
            rwa [Nat.zero_add] at this
          clear hwr
          obtain ⟨v0, x0⟩ := Option.isSome_iff_exists.1 (T0 0 (by omega)).1
          obtain ⟨v1, x1⟩ := Option.isSome_iff_exists.1 (T0 1 (by omega)).1
          obtain ⟨v2, x2⟩ := Option.isSome_iff_exists.1 (T0 2 (by omega)).1
          obtain ⟨v3, x3⟩ := Option.isSome_iff_exists.1 (T0 3 (by omega)).1
          obtain ⟨v4, x4⟩ := Option.isSome_iff_exists.1 (T0 4 (by omega)).1
          have f0 := (T0 0 (by omega)).2
          have f1 := (T0 1 (by omega)).2
          have f2 := (T0 2 (by omega)).2
          have f3 := (T0 3 (by omega)).2
          have f4 := (T0 4 (by omega)).2
          simp only [Nat.add_zero] at x0 f0
          clear T0
          go_wp2
          go_roundw
          case rel => exact ⟨j + 1, by omega, by first | rfl | go_num, (unhide HS).symm⟩
          case measure => simp [intOf]; omega
end Go.Proofs.Ytkikeapfjpnkgaa.SpecW

/-
  The specification's FlashWipe, for every list of blocks.
-/
namespace Go.Proofs.Ytkikeapfjpnkgaa.SpecX
open Go.ChangeShapes Go.WideShapes Go.ChangeAt Go.RowKit OkA Big Fl ImplB ImplF ImplS _root_.Go.Proofs.Ytkikeapfjpnkgaa.Own ImplT ImplU SpecA SpecB SpecC SpecD SpecW
set_option linter.unusedVariables false
set_option linter.unusedSimpArgs false

/-- What FlashWipe answers. -/
def wiR (bs : List Bk) (blk : Int) (torn : Bool) : List Bk :=
  if okB bs && inB blk 0 3 then (if wiN bs blk.toNat then bs else wiL bs blk.toNat torn) else []
def wiO (bs : List Bk) (blk : Int) : Bool := okB bs && inB blk 0 3 && !wiN bs blk.toNat
theorem wiL_len {bs : List Bk} {k : Nat} {t : Bool} : (wiL bs k t).length = bs.length := by simp [wiL]
theorem wiL_fours {bs : List Bk} (h : Fours bs) {k : Nat} {t : Bool} : Fours (wiL bs k t) := fun b hb => by
  rcases List.mem_or_eq_of_mem_set hb with h' | rfl
  · exact h b h'
  · simp [wiB]
theorem fs_at {w : World} {a : Option Addr} {bs : List Bk} (hf : FsAt w a bs) (h : bs.length = 4) : ∃ b o, a = some ⟨b, o, none⟩ ∧ ∀ i (hi : i < bs.length), BkAt w b (o + i * 2) bs[i] := by
  rcases hf with rfl | h'
  · simp at h
  · exact h'
theorem copy4 (fb fo cap : Nat) (bs : List Bk) (w : World) (hF : Fours bs) (h4 : bs.length = 4) (hf : ∀ i (hi : i < bs.length), BkAt w fb (fo + i * 2) bs[i]) :
    Calls Try.prog 48 #[.slice (some ⟨fb, fo, none⟩) 4 cap] w fun e w' => ∃ g G c, e = .returned (.slice (some ⟨g, 0, none⟩) 4 c) ∧ Own w' w.heap.size g G bs 4 ∧ Below w.heap.size w w' := by
  have := copy_any fb fo cap bs w hF (by omega) hf (by omega)
  rwa [h4] at this

theorem here : True := trivial
end Go.Proofs.Ytkikeapfjpnkgaa.SpecX

/-
  The specification's FlashWrite, for every list of blocks.
-/
namespace Go.Proofs.Ytkikeapfjpnkgaa.SpecY
open Go.ChangeShapes Go.WideShapes Go.ChangeAt Go.RowKit OkA Big Fl ImplB ImplF ImplS _root_.Go.Proofs.Ytkikeapfjpnkgaa.Own ImplT ImplU SpecA SpecB SpecC SpecD SpecW SpecX
set_option linter.unusedVariables false
set_option linter.unusedSimpArgs false
attribute [local go_sem ↓] Go.wp_at_zero Go.wp_at_succ

theorem wrL_len {bs : List Bk} {k : Nat} {p : Pg} : (wrL bs k p).length = bs.length := by simp [wrL]
theorem wrL_fours {bs : List Bk} (h : Fours bs) {k : Nat} (hk : k < bs.length) {p : Pg} : Fours (wrL bs k p) := fun b hb => by
  have hgd : bs.getD k zBk = bs[k] := by rw [List.getD_eq_getElem?_getD, List.getElem?_eq_getElem hk]; rfl
  rcases List.mem_or_eq_of_mem_set hb with h' | rfl
  · exact h b h'
  · simp only [List.length_set, hgd]; exact h.at k hk

set_option maxRecDepth 100000 in
set_option maxHeartbeats 2000000 in
theorem specWrite_any (a : Option Addr) (cap : Nat) (blk rk rs ra rv : Int) (torn : Bool) (bs : List Bk) (w : World) (hf : FsAt w a bs) (hm : bs.length ≤ 1048576) :
    Calls Try.prog 14 #[.slice a bs.length cap, .int .i64 blk, .agg #[.int .i64 rk, .int .i64 rs, .int .i64 ra, .int .i64 rv], .bool torn] w fun e w' => OutPost w (wrR bs blk rk rs ra rv torn) (SpecD.wrB bs blk rk rs ra rv) e w' := by
  have b0 : Below w.heap.size w (w.alloc (.cells #[.int .i64 rk, .int .i64 rs, .int .i64 ra, .int .i64 rv] 25)) := (Below.refl _ _).alloc (Nat.le_refl _) _
  have c2 : (w.alloc (.cells #[.int .i64 rk, .int .i64 rs, .int .i64 ra, .int .i64 rv] 25)).rangeAt w.heap.size 0 [.int .i64 rk, .int .i64 rs, .int .i64 ra, .int .i64 rv] := rangeAt_new w _ _
  have hwlt : w.heap.size < (w.alloc (.cells #[.int .i64 rk, .int .i64 rs, .int .i64 ra, .int .i64 rv] 25)).heap.size := by simp
  have hf0 := hf.below b0
  have HC := hide (specFlashOk_any a cap bs _ hf0 hm)
  cases hs : okB bs
  · have HR : Hid (wrR bs blk rk rs ra rv torn = []) := by show _ = _; unfold wrR; rw [hs]; rfl
    have HO : Hid (SpecD.wrB bs blk rk rs ra rv = false) := by show _ = _; unfold SpecD.wrB; rw [hs]; rfl
    rw [hs] at HC
    clear hs hf hf0 c2
    go_enter Try.func14, Try.ntmps14
    go_wp2_with fail
    refine (unhide HC).mono ?_
    rintro e w1 ⟨rfl, b1⟩
    have B1 := b0.trans (b1.mono b0.size)
    clear HC b0 b1
    go_wp2
    go_ret2
    rw [unhide HR, unhide HO]
    exact ⟨_, rfl, .inl ⟨rfl, _, _, rfl⟩, B1.alloc B1.size _⟩
  cases hb : inB blk 0 3
  · have HR : Hid (wrR bs blk rk rs ra rv torn = []) := by show _ = _; unfold wrR; rw [hs, hb]; rfl
    have HO : Hid (SpecD.wrB bs blk rk rs ra rv = false) := by show _ = _; unfold SpecD.wrB; rw [hs, hb]; rfl
    have HI := hide (l6In_any blk 0 3)
    rw [hs] at HC
    rw [hb] at HI
    clear hs hf hf0 hb c2
    go_enter Try.func14, Try.ntmps14
    go_wp2_with fail
    refine (unhide HC).mono ?_
    rintro e w1 ⟨rfl, b1⟩
    have B1 := b0.trans (b1.mono b0.size)
    clear HC b0 b1
    go_wp2_with (go_at_call 45; refine (unhide HI _).mono ?_; rintro e w' ⟨rfl, hw'⟩; obtain rfl := hw'.symm)
    go_ret2
    rw [unhide HR, unhide HO]
    exact ⟨_, rfl, .inl ⟨rfl, _, _, rfl⟩, B1.alloc B1.size _⟩
  have HI := hide (l6In_any blk 0 3)
  have HRC := hide (specOk_any rk rs ra rv)
  rw [hb] at HI
  cases hr : recB rk rs ra rv
  · have HR : Hid (wrR bs blk rk rs ra rv torn = []) := by show _ = _; unfold wrR; rw [hs, hb, hr]; rfl
    have HO : Hid (SpecD.wrB bs blk rk rs ra rv = false) := by show _ = _; unfold SpecD.wrB; rw [hs, hb, hr]; rfl
    rw [hs] at HC
    rw [hr] at HRC
    clear hs hf hf0 hb hr
    go_enter Try.func14, Try.ntmps14
    go_wp2_with fail
    refine (unhide HC).mono ?_
    rintro e w1 ⟨rfl, b1⟩
    have B1 := b0.trans (b1.mono b0.size)
    have r1 := rangeAt_below c2 b1 hwlt
    have e0 := r1 0 _ rfl
    have e1 := r1 1 _ rfl
    have e2 := r1 2 _ rfl
    have e3 := r1 3 _ rfl
    simp only [Nat.zero_add] at e0 e1 e2 e3
    clear HC b0 b1 c2 r1
    go_wp2_with (go_at_call 45; refine (unhide HI _).mono ?_; rintro e w' ⟨rfl, hw'⟩; obtain rfl := hw'.symm)
    refine (unhide HRC _).mono ?_
    rintro e w2 ⟨rfl, b2⟩
    have B2 := B1.trans (b2.mono B1.size)
    clear b2 B1 e0 e1 e2 e3
    go_wp2
    go_ret2
    rw [unhide HR, unhide HO]
    exact ⟨_, rfl, .inl ⟨rfl, _, _, rfl⟩, B2.alloc B2.size _⟩
  obtain ⟨k, rfl, hk⟩ := in_range hb
  have h4 := ok_len hs
  have HF := hide (ok_fours hs)
  obtain ⟨fb, fo, rfl, hf'⟩ := fs_at hf h4
  have HR : Hid (wrR bs (k : Int) rk rs ra rv torn = if wrN bs k rs then bs else wrL bs k (pgW torn rk rs ra rv)) := by show _ = _; unfold wrR; rw [hs, hb, hr]; rfl
  have HO : Hid (SpecD.wrB bs (k : Int) rk rs ra rv = !wrN bs k rs) := by show _ = _; unfold SpecD.wrB; rw [hs, hb, hr]; rfl
  have HL : Hid ((if wrN bs k rs then bs else wrL bs k (pgW torn rk rs ra rv)).length = 4) := by
    show _ = _
    split
    · exact h4
    · rw [wrL_len]; exact h4
  have HFF := hide hf0
  have HS := hide hs
  rw [hs] at HC
  rw [hr] at HRC
  rw [h4] at HC ⊢
  clear hs hf hf0 hb hf' hr
  go_enter Try.func14, Try.ntmps14
  go_wp2_with fail
  refine (unhide HC).mono ?_
  rintro e w1 ⟨rfl, b1⟩
  have B1 := b0.trans (b1.mono b0.size)
  have r1 := rangeAt_below c2 b1 hwlt
  have F1 := hide ((unhide HFF).below b1)
  have hw1 := Nat.lt_of_lt_of_le hwlt b1.size
  have e0 := r1 0 _ rfl
  have e1 := r1 1 _ rfl
  have e2 := r1 2 _ rfl
  have e3 := r1 3 _ rfl
  simp only [Nat.zero_add] at e0 e1 e2 e3
  clear HC b0 b1 c2 hwlt HFF
  go_wp2_with (go_at_call 45; refine (unhide HI _).mono ?_; rintro e w' ⟨rfl, hw'⟩; obtain rfl := hw'.symm)
  refine (unhide HRC _).mono ?_
  rintro e w2 ⟨rfl, b2⟩
  have B2 := B1.trans (b2.mono B1.size)
  have r2 := rangeAt_below r1 b2 hw1
  have F2 := hide ((unhide F1).below b2)
  have hw2 := Nat.lt_of_lt_of_le hw1 b2.size
  clear b2 B1 e0 e1 e2 e3 r1 F1 hw1 HRC HI
  have F3 := hide ((unhide F2).below ((Below.refl w2.heap.size w2).drew))
  have HW2 := hide hw2
  go_wp2_with fail
  refine wp_region_noPanic ?_
  refine wp_region_held_drew (S := fun w' => w'.rangeAt w.heap.size 0 [.int .i64 rk, .int .i64 rs, .int .i64 ra, .int .i64 rv]) (by kernel_rfl) (by simpa using r2) (fun hHeld => ?_)
  refine takeL 0 (.slice (some ⟨fb, fo, none⟩) 4 cap) rfl (by kernel_rfl) (by kernel_rfl) (by kernel_rfl) (fun _ _ _ h => h) (Or.inl ⟨rfl, fun _ _ => rfl⟩) hHeld ?_
  try simp only [Act.put, List.setIfInBounds_toArray, List.set_cons_zero, List.set_cons_succ]
  refine takeL 2 (.int .i64 k) rfl (by kernel_rfl) (by kernel_rfl) (by kernel_rfl) (fun _ _ _ h => h) (Or.inl ⟨rfl, fun _ _ => rfl⟩) hHeld ?_
  try simp only [Act.put, List.setIfInBounds_toArray, List.set_cons_zero, List.set_cons_succ]
  refine takeL 3 (.agg #[.int .i64 rk, .int .i64 rs, .int .i64 ra, .int .i64 rv]) rfl (by kernel_rfl) (by kernel_rfl) (by kernel_rfl) (fun _ _ _ h => h) (yieldsIf_load_mid rfl 25 _ rfl w.heap.size 0 rfl [.int .i64 rk, .int .i64 rs, .int .i64 ra, .int .i64 rv] _ (fun _ h => h) Try.underlying25 rfl (by kernel_rfl)) hHeld ?_
  try simp only [Act.put, List.setIfInBounds_toArray, List.set_cons_zero, List.set_cons_succ]
  refine takeL 4 (.bool torn) rfl (by kernel_rfl) (by kernel_rfl) (by kernel_rfl) (fun _ _ _ h => h) (Or.inl ⟨rfl, fun _ _ => rfl⟩) hHeld ?_
  try simp only [Act.put, List.setIfInBounds_toArray, List.set_cons_zero, List.set_cons_succ]
  refine oneL 1 rfl (by kernel_rfl) rfl (fun K hK => ?_)
  go_simp
  refine (copy4 fb fo cap bs _ (unhide HF) h4 (by
    obtain ⟨b', o', he, h'⟩ := fs_at (unhide F3) h4
    simp at he
    obtain ⟨rfl, rfl⟩ := he
    exact h')).mono ?_
  rintro e w3 ⟨g, G, c, rfl, o3, b3⟩
  go_wp2_with fail
  refine hK.out _ _ (rangeAt_below hHeld b3 (by simpa using unhide HW2)) (fun hHeld => ?_)
  clear hK K
  try simp only [Act.put, List.setIfInBounds_toArray, List.set_cons_zero, List.set_cons_succ]
  refine oneL 5 rfl (by kernel_rfl) rfl (fun K hK => ?_)
  go_simp
  refine (write_any _ _ _ _ bs k torn rk rs ra rv _ o3 (unhide HS) hk).mono ?_
  rintro e w4 ⟨rfl, o4, k4⟩
  have b4 := k4.below (fun x hx => o3.lo x hx) b3.size
  clear k4
  go_wp2_with fail
  refine hK.out _ _ (rangeAt_below hHeld b4 (by simpa using unhide HW2)) (fun hHeld => ?_)
  clear hK K
  try simp only [Act.put, List.setIfInBounds_toArray, List.set_cons_zero, List.set_cons_succ]
  refine takeL 6 (.slice (some ⟨g, 0, none⟩) 4 c) rfl (by kernel_rfl) (by kernel_rfl) (by kernel_rfl) (fun _ _ _ h => h) (Or.inl ⟨rfl, fun w9 hSw => by go_simp⟩) hHeld ?_
  try simp only [Act.put, List.setIfInBounds_toArray, List.set_cons_zero, List.set_cons_succ]
  refine takeL 7 (.bool (!wrN bs k rs)) rfl (by kernel_rfl) (by kernel_rfl) (by kernel_rfl) (fun _ _ _ h => h) (Or.inl ⟨rfl, fun w9 hSw => by go_simp⟩) hHeld ?_
  try simp only [Act.put, List.setIfInBounds_toArray, List.set_cons_zero, List.set_cons_succ]
  refine takeL 8 (.slice (some ⟨g, 0, none⟩) 4 c) rfl (by kernel_rfl) (by kernel_rfl) (by kernel_rfl) (fun _ _ _ h => h) (Or.inl ⟨rfl, fun _ _ => rfl⟩) hHeld ?_
  try simp only [Act.put, List.setIfInBounds_toArray, List.set_cons_zero, List.set_cons_succ]
  refine takeL 9 (.bool (!wrN bs k rs)) rfl (by kernel_rfl) (by kernel_rfl) (by kernel_rfl) (fun _ _ _ h => h) (Or.inl ⟨rfl, fun _ _ => rfl⟩) hHeld ?_
  try simp only [Act.put, List.setIfInBounds_toArray, List.set_cons_zero, List.set_cons_succ]
  refine wpAnyH_done (by kernel_rfl) ?_ _
  refine NoPanic.normal ?_
  have B4 := (B2.drew.trans (b3.mono B2.drew.size)).trans (b4.mono B2.drew.size)
  have o5 := o4.mono B2.drew.size
  clear b3 b4 o4 B2 hHeld F2 F3
  rw [← unhide HR] at o5 HL
  have HOL := hide (show Own w4 w.heap.size g G (wrR bs (k : Int) rk rs ra rv torn) (wrR bs (k : Int) rk rs ra rv torn).length by rw [unhide HL]; exact o5)
  clear o5
  go_wp2
  go_ret2
  exact ⟨_, by rw [unhide HO]; rfl, .inr ⟨g, G, c, by rw [unhide HL]; rfl, unhide HOL⟩, B4⟩
end Go.Proofs.Ytkikeapfjpnkgaa.SpecY
