/-
  Texts that belong together, one behind the other: SpecD, SpecN.
-/
import Derived.Test.YtogfelpdgeionaaGaG
import Derived.Test.YtogfelpdgeionaaGaA

/-
  The specification's search for a number, and its writing on blocks that it owns.
-/
namespace Go.Proofs.Ytogfelpdgeionaa.SpecD
open Go.ChangeShapes Go.WideShapes Go.ChangeAt Go.RowKit OkA Big Fl ImplB ImplF ImplS _root_.Go.Proofs.Ytogfelpdgeionaa.Own ImplT ImplU SpecA SpecB SpecC Kp
set_option linter.unusedVariables false
set_option linter.unusedSimpArgs false
attribute [local go_sem ↓] Go.wp_at_zero Go.wp_at_succ

def hasB (bs : List Bk) (q : Int) : Bool := (seqs bs).contains q
/-! A page is laid over a page. -/
theorem Own.page {w : World} {lo g n : Nat} {G : List Nat} {bs : List Bk} (h : Own w lo g G bs n) (k : Nat) (hk : k < bs.length) (j : Nat) (hj : j < bs[k].ps.length) (p : Pg) :
    Own (w.setCells (G[k]'(by have := h.len; omega)) (j * 5) (pgC p)) lo g G (bs.set k ⟨bs[k].ps.set j p, bs[k].wn⟩) n := by
  have hlen := h.len
  have hGg : ∀ i (hi : i < G.length), G[i] ≠ g := fun i hi e => (List.nodup_cons.1 h.nd).1 (e ▸ List.getElem_mem hi)
  have hGG : ∀ i (hi : i < G.length), i ≠ k → G[i] ≠ G[k]'(by omega) := fun i hi hne e => by
    have hp := List.pairwise_iff_getElem.1 (List.nodup_cons.1 h.nd).2
    rcases Nat.lt_or_gt_of_ne hne with q | q
    · exact hp i k hi (by omega) q e
    · exact hp k i (by omega) hi q e.symm
  have tk : w.there (G[k]'(by omega)) (0 + j * 5) 5 := there_sub (h.free k hk) (j * 5) 5 (by omega)
  refine ⟨by simp [hlen], h.nd, h.lo, fun x hx => by rw [size_setCells]; exact h.hi x hx, by simpa using h.fit, World.there_setCells h.room _ _ _, fun i hi => ?_, fun i hi => ?_, fun i hi => ?_, fun i hi => ?_, fun i hi a m c hc => h.caps i (by simpa using hi) a m c (by rw [cell_setCells_ne (.inl (hGg k (by omega)).symm)] at hc; exact hc)⟩
  · simp only [List.length_set] at hi
    obtain ⟨c, hc⟩ := h.out i hi
    refine ⟨c, ?_⟩
    rw [cell_setCells_ne (.inl (hGg k (by omega)).symm), hc]
    by_cases e : i = k
    · subst e; simp
    · rw [List.getElem_set_ne (fun q => e q.symm)]
  · simp only [List.length_set] at hi
    rw [cell_setCells_ne (.inl (hGg k (by omega)).symm), h.worn i hi]
    by_cases e : i = k
    · subst e; simp
    · rw [List.getElem_set_ne (fun q => e q.symm)]
  · simp only [List.length_set] at hi
    by_cases e : i = k
    · subst e
      simp only [List.getElem_set_self]
      have := range_set pgC 5 (fun _ _ => rfl) j hj p rfl (h.pgs i hk) tk
      rw [Nat.zero_add] at this
      exact this
    · rw [List.getElem_set_ne (fun q => e q.symm)]
      exact World.rangeAt_setCells_apart (h.pgs i hi) _ _ _ (.inl (hGG i (by omega) e))
  · simp only [List.length_set] at hi
    by_cases e : i = k
    · subst e
      simp only [List.getElem_set_self, List.length_set]
      exact World.there_setCells (h.free i hk) _ _ _
    · rw [List.getElem_set_ne (fun q => e q.symm)]
      exact World.there_setCells (h.free i hi) _ _ _

def pgW (torn : Bool) (rk rs ra rv : Int) : Pg := if torn then ⟨2, 0, 0, 0, 0⟩ else ⟨1, rk, rs, ra, rv⟩
def wrL (bs : List Bk) (k : Nat) (p : Pg) : List Bk := bs.set k ⟨(bs.getD k zBk).ps.set (usedN (bs.getD k zBk).ps) p, (bs.getD k zBk).wn⟩
/-- No page is clean, or the number is there. -/
def wrN (bs : List Bk) (k : Nat) (rs : Int) : Bool := usedN (bs.getD k zBk).ps == 4 || hasB bs rs
def WrPost (w : World) (lo g cap : Nat) (G : List Nat) (bs : List Bk) (k : Nat) (torn : Bool) (rk rs ra rv : Int) (e : Ending) (w' : World) : Prop :=
  e = .returned (.tuple #[.slice (some ⟨g, 0, none⟩) 4 cap, .bool (!wrN bs k rs)]) ∧ Own w' lo g G (if wrN bs k rs then bs else wrL bs k (pgW torn rk rs ra rv)) 4 ∧ Kept (g :: G) w w'
theorem size_pg (p : Pg) : (Try.prog.info? 107).map (·.size) = some (pgC p).length := by rw [len_pgC]; kernel_rfl
theorem size_pga (p : Pg) : (Try.prog.info? 107).map (·.size) = some (pgC p).toArray.size := by rw [List.size_toArray, len_pgC]; kernel_rfl
theorem one_pg (p : Pg) : (pgC p).toArray.all (·.oneCell') = true := all_oneCell_toArray (one_pgC p)

/-- What FlashWrite answers. -/
def wrR (bs : List Bk) (blk : Int) (rk rs ra rv : Int) (torn : Bool) : List Bk :=
  if okB bs && inB blk 0 3 && recB rk rs ra rv then (if wrN bs blk.toNat rs then bs else wrL bs blk.toNat (pgW torn rk rs ra rv)) else []
def wrB (bs : List Bk) (blk : Int) (rk rs ra rv : Int) : Bool := okB bs && inB blk 0 3 && recB rk rs ra rv && !wrN bs blk.toNat rs
def OutPost (w : World) (R : List Bk) (ok : Bool) (e : Ending) (w' : World) : Prop := ∃ v, e = .returned (.tuple #[v, .bool ok]) ∧ NewFs w' w.heap.size v R ∧ Below w.heap.size w w'
theorem here : True := trivial
end Go.Proofs.Ytogfelpdgeionaa.SpecD

/-
  The specification's new blocks: in rows of their own.
-/
namespace Go.Proofs.Ytogfelpdgeionaa.SpecN
open Go.ChangeShapes Go.WideShapes Go.ChangeAt Go.RowKit OkA Big Fl ImplB ImplF ImplS _root_.Go.Proofs.Ytogfelpdgeionaa.Own ImplT ImplU SpecA SpecB SpecC
set_option linter.unusedVariables false
set_option linter.unusedSimpArgs false

theorem made4' : madeCells #[.int .i64 0, .int .i64 0, .int .i64 0, .int .i64 0, .int .i64 0] 20 = (psC zPs).toArray := by kernel_rfl
theorem made_psl : (Try.prog.info? 107).map (fun i => (i.zero, i.size, i.bytes)) = some (some (.agg #[.int .i64 0, .int .i64 0, .int .i64 0, .int .i64 0, .int .i64 0]), 5, 40) := by kernel_rfl

set_option maxHeartbeats 2000000 in
theorem new_any4 (w : World) : Calls Try.prog 47 #[] w fun e w' => ∃ g G c, e = .returned (.slice (some ⟨g, 0, none⟩) 4 c) ∧ Own w' w.heap.size g G zFs 4 ∧ Below w.heap.size w w' ∧ 4 ≤ c := by
  have hz4 : zFs.length = 4 := rfl
  have hzb : ∀ k (h : k < zFs.length), zFs[k] = zBk := fun k h => by
    have hm := List.getElem_mem h
    simp only [zFs, List.mem_cons, List.not_mem_nil, or_false, or_self] at hm
    exact hm
  have hzp : zBk.ps = zPs := rfl
  have hzw : zBk.wn = 0 := rfl
  have hz5 : zPs.length = 4 := rfl
  have HM := hide made4'
  generalize zFs = bs at *
  go_enter Try.func47, Try.ntmps47
  go_wp2
  have o1 : Grow (w.alloc (.cells #[] 105)) w.heap.size (.slice (some ⟨w.heap.size, 0, none⟩) 0 0) [] [] [] := by
    refine ⟨World.ownsRow_lit w #[] 0 (Nat.le_refl _) (by simp [maxLen]) rfl, fun g hg => ?_, rfl, by simp, by simp, by simp, fun i hi => by simp at hi, fun i hi => by simp at hi, fun i hi => by simp at hi, fun i hi => by simp at hi, fun i hi => by simp at hi⟩
    have : w.heap.size = g := Option.some.inj hg
    subst this
    exact ⟨Nat.le_refl _, by simp, by simp⟩
  have b0 : Below w.heap.size w (w.alloc (.cells #[] 105)) := (Below.refl _ _).alloc (Nat.le_refl _) _
  generalize w.alloc (.cells #[] 105) = w1 at *
  go_loopw [1, 2] (fun v i w' => ∃ k : Nat, k ≤ 4 ∧ i = .int .i64 k ∧ (∃ G ocs, Grow w' w.heap.size v G ocs (bs.take k)) ∧ Below w.heap.size w w') (fun _ i _ => 4 - (intOf i).toNat)
  case atStart => exact ⟨0, by omega, rfl, ⟨[], [], by simpa using o1⟩, b0⟩
  case round =>
    obtain ⟨k, hk, rfl, ⟨G, ocs, ok⟩, bw⟩ := hrel
    clear o1 b0
    by_cases h0 : k = 4
    · subst h0
      rw [List.take_of_length_le (by omega)] at ok
      obtain ⟨g, c, rfl, o⟩ := ok.toOwn (by omega)
      have hc4 : 4 ≤ c := by have := row_cap (by omega) ok.row; omega
      rw [hz4] at o
      clear HM
      go_wp2
      go_ret
      exact ⟨g, G, c, by rw [hz4]; rfl, o, bw, hc4⟩
    · have hlt : (k : Int) < 4 := by omega
      have hkb : k < bs.length := by omega
      have tl : (bs.take k).length = k := by simp; omega
      have HT := hide (List.take_succ_eq_append_getElem hkb)
      rw [hzb k hkb] at HT
      have hold := ownB_lt ok
      have hww := bw.size
      have bA : Below wr.heap.size wr (wr.alloc (.cells (psC zPs).toArray 107)) := (Below.refl _ _).alloc (Nat.le_refl _) _
      have rA := rangeAt_new wr (psC zPs) 107
      have tA : (wr.alloc (.cells (psC zPs).toArray 107)).there wr.heap.size 0 20 := there_new wr (psC zPs) 107
      have oA := ok.far bA hold
      have BA := bw.alloc bw.size (.cells (psC zPs).toArray 107)
      have sA : (wr.alloc (.cells (psC zPs).toArray 107)).heap.size = wr.heap.size + 1 := by simp
      have oC := oA.far (B := wr.heap.size + 1) ((Below.refl _ _).alloc (by omega) (.cells #[.slice (some ⟨wr.heap.size, 0, none⟩) 4 4, .int .i64 0] 105)) (fun x hx => by have := hold x hx; omega)
      have BC := BA.alloc BA.size (.cells #[.slice (some ⟨wr.heap.size, 0, none⟩) 4 4, .int .i64 0] 105)
      have rC := World.rangeAt_alloc rA (.cells #[.slice (some ⟨wr.heap.size, 0, none⟩) 4 4, .int .i64 0] 105)
      have tC := World.there_alloc tA (.cells #[.slice (some ⟨wr.heap.size, 0, none⟩) 4 4, .int .i64 0] 105)
      have nC := World.news_of_block (heap_alloc_new (wr.alloc (.cells (psC zPs).toArray 107)) (.cells #[.slice (some ⟨wr.heap.size, 0, none⟩) 4 4, .int .i64 0] 105))
      have sC : ((wr.alloc (.cells (psC zPs).toArray 107)).alloc (.cells #[.slice (some ⟨wr.heap.size, 0, none⟩) 4 4, .int .i64 0] 105)).heap.size = wr.heap.size + 1 + 1 := by simp
      obtain ⟨iB, hiB, hzB, hsB, hbB⟩ := infoB
      have HiB := hide hiB
      have HzB := hide hzB
      have HsB := hide hsB
      have HbB := hide hbB
      have HrC := hide (show ((wr.alloc (.cells (psC zPs).toArray 107)).alloc (.cells #[.slice (some ⟨wr.heap.size, 0, none⟩) 4 4, .int .i64 0] 105)).ownsRow w.heap.size 105 2 u1 k ocs by have := oC.row; rw [tl] at this; exact this)
      rw [sA] at nC
      clear hiB hzB hsB hbB bA rA tA oA BA sA
      go_wp2_with (first | (refine wpList_make_big rfl 103 _ _ rfl 4 rfl rfl 107 5 40 _ Try.underlying103 made_psl (by omega) (by omega) ?_; simp only [Value.cells]; rw [unhide HM]) | (refine wpList_append_lies _ rfl _ _ 36 rfl w.heap.size 105 iB (.agg #[.slice none 0 0, .int .i64 0]) 2 32 Try.underlying36 (unhide HiB) (unhide HzB) (unhide HsB) (unhide HbB) rfl (by omega) u1 k ocs rfl (unhide HrC) ⟨wr.heap.size + 1, 0, none⟩ 1 1 [.slice (some ⟨wr.heap.size, 0, none⟩) 4 4, .int .i64 0] rfl rfl nC (by intro u hu; simp at hu; rcases hu with rfl | rfl <;> rfl) (by omega) (by simp [maxLen]; omega) (by omega) (by simp; omega) _ sC ?_; intro g' cap' wD ownD growD atD ltD))
      have oD := oC.push wr.heap.size 4 zBk (by omega) (by rw [sC]; omega) (fun h => by have := hold _ (.inl h); omega) (fun h => by have := hold _ (.inr h); omega) rC tC g' cap' (by rw [tl]; exact ownD) growD (by rw [sC]; exact atD) ltD (by rw [sC]; omega) (by decide)
      have BD := BC.trans ((Below.refl w.heap.size _).grown growD (by rw [sC]; omega) (fun q hq => (oC.own q hq).1))
      rw [tl] at oD
      go_roundw
      case rel => exact ⟨k + 1, by omega, by first | rfl | go_num, ⟨G ++ [wr.heap.size], _, by rw [unhide HT]; exact oD⟩, BD⟩
      case measure => simp [intOf]; omega
theorem new_any (w : World) : Calls Try.prog 47 #[] w fun e w' => ∃ g G c, e = .returned (.slice (some ⟨g, 0, none⟩) 4 c) ∧ Own w' w.heap.size g G zFs 4 ∧ Below w.heap.size w w' := by
  refine (new_any4 w).mono ?_
  rintro e w' ⟨g, G, c, h1, h2, h3, _⟩
  exact ⟨g, G, c, h1, h2, h3⟩
end Go.Proofs.Ytogfelpdgeionaa.SpecN
