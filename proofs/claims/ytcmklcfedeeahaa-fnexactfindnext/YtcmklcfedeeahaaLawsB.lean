/-
  The laws' helpers, for every list of blocks: a list of the program's own blocks out of the law's argument, in rows of its own; whether two lists of blocks are the same.
-/
import Derived.Test.YtcmklcfedeeahaaLawsA
import Derived.Deep.RegionHeld3
import Derived.Deep.DrawnRows
namespace Go.Proofs.Ytcmklcfedeeahaa.LawsB
open Go.ChangeShapes Go.WideShapes Go.ChangeAt Go.RowKit OkA Big Fl ImplB ImplF ImplS Own ImplT ImplU SpecA SpecB LawsA
set_option linter.unusedVariables false
set_option linter.unusedSimpArgs false
attribute [local go_sem ↓] Go.wp_at_zero Go.wp_at_succ

theorem three_new (w : World) (A B C : Array Value) (T1 T2 T3 : TypeId) : (∀ j v, A[j]? = some v → (((w.alloc (.cells A T1)).alloc (.cells B T2)).alloc (.cells C T3)).cell? ⟨w.heap.size, j, none⟩ = some v) ∧ (∀ j v, B[j]? = some v → (((w.alloc (.cells A T1)).alloc (.cells B T2)).alloc (.cells C T3)).cell? ⟨w.heap.size + 1, j, none⟩ = some v) ∧ (∀ j v, C[j]? = some v → (((w.alloc (.cells A T1)).alloc (.cells B T2)).alloc (.cells C T3)).cell? ⟨w.heap.size + 1 + 1, j, none⟩ = some v) ∧
    (∀ j, (((w.alloc (.cells A T1)).alloc (.cells B T2)).alloc (.cells C T3)).frozen? ⟨w.heap.size + 1, j, none⟩ = false) ∧ (∀ j, (((w.alloc (.cells A T1)).alloc (.cells B T2)).alloc (.cells C T3)).frozen? ⟨w.heap.size + 1 + 1, j, none⟩ = false) := by
  refine ⟨fun j v h => ?_, fun j v h => ?_, fun j v h => cell_top _ _ _ _ _ _ (by simp) h, fun j => ?_, fun j => ?_⟩
  · rw [World.cell?_alloc_lt _ _ _ (by simp; omega), World.cell?_alloc_lt _ _ _ (by simp)]; exact cell_top _ _ _ _ _ _ rfl h
  · rw [World.cell?_alloc_lt _ _ _ (by simp)]; exact cell_top _ _ _ _ _ _ (by simp) h
  · rw [World.frozen?_alloc_past _ _ _ (by simp)]; exact frozen_of_row _ _ _ B T2 (by have := heap_alloc_new (w.alloc (.cells A T1)) (.cells B T2); rwa [World.size_alloc] at this)
  · exact frozen_of_row _ _ _ C T3 (by have := heap_alloc_new ((w.alloc (.cells A T1)).alloc (.cells B T2)) (.cells C T3); rwa [World.size_alloc, World.size_alloc] at this)
def blkL (p n : Nat) (wn : Int) : List Value := [.slice (some ⟨p, 0, none⟩) n n, .int .i64 wn]
def BlkPost (w : World) (b : Bk) (e : Ending) (w' : World) : Prop := ∃ p, e = .returned (.agg (blkL p b.ps.length b.wn).toArray) ∧ w.heap.size ≤ p ∧ p < w'.heap.size ∧ w'.rangeAt p 0 (psC b.ps) ∧ w'.there p 0 (b.ps.length * 5) ∧ Below w.heap.size w w'
theorem size_blk (p n : Nat) (wn : Int) : (Try.prog.info? 102).map (·.size) = some (blkL p n wn).length := by show _ = some 2; kernel_rfl
theorem size_blka (p n : Nat) (wn : Int) : (Try.prog.info? 102).map (·.size) = some (blkL p n wn).toArray.size := by show _ = some 2; kernel_rfl
theorem one_blk (p n : Nat) (wn : Int) : (blkL p n wn).toArray.all (·.oneCell') = true := one_two rfl rfl

set_option maxHeartbeats 1000000 in
theorem toBlock_any (a : Option Addr) (cap : Nat) (b : Bk) (w : World) (hps : PsAt w a b.ps) (hl : b.ps.length ≤ 1048576) :
    Calls Try.prog 102 #[.agg #[.slice a b.ps.length cap, .int .i64 b.wn]] w fun e w' => BlkPost w b e w' := by
  have bz : Below w.heap.size w (((w.alloc (.cells #[.slice a b.ps.length cap, .int .i64 b.wn] 108)).alloc (.cells #[.slice none 0 0, .int .i64 0] 102)).alloc (.cells #[.slice none 0 0, .int .i64 0] 102)) := (((Below.refl _ _).alloc (Nat.le_refl _) _).alloc (by simp) _).alloc (by simp; omega) _
  have HC := hide (toPageS_any a cap b.ps _ (hps.below bz) hl)
  clear hps
  go_enter Try.func102, Try.ntmps102
  go_wp2_with fail
  refine (unhide HC).mono ?_
  rintro e w1 ⟨rfl, rr, tt, ss, b1⟩
  obtain ⟨g1, g2, g3, g4, g5⟩ := three_new w #[.slice a b.ps.length cap, .int .i64 b.wn] #[.slice none 0 0, .int .i64 0] #[.slice none 0 0, .int .i64 0] 108 102 102
  have k1 : w1.cell? ⟨w.heap.size, 1, none⟩ = some (.int .i64 b.wn) := by rw [b1.cell (p := ⟨w.heap.size, 1, none⟩) (by simp; omega)]; exact g1 1 _ rfl
  have u0 : w1.cell? ⟨w.heap.size + 1, 0, none⟩ = some (.slice none 0 0) := by rw [b1.cell (p := ⟨w.heap.size + 1, 0, none⟩) (by simp)]; exact g2 0 _ rfl
  have v0 : w1.cell? ⟨w.heap.size + 1 + 1, 0, none⟩ = some (.slice none 0 0) := by rw [b1.cell (p := ⟨w.heap.size + 1 + 1, 0, none⟩) (by simp)]; exact g3 0 _ rfl
  have fu0 : w1.frozen? ⟨w.heap.size + 1, 0, none⟩ = false := by rw [b1.frozen (p := ⟨w.heap.size + 1, 0, none⟩) (by simp)]; exact g4 0
  have fv0 : w1.frozen? ⟨w.heap.size + 1 + 1, 0, none⟩ = false := by rw [b1.frozen (p := ⟨w.heap.size + 1 + 1, 0, none⟩) (by simp)]; exact g5 0
  have u1 : w1.cell? ⟨w.heap.size + 1, 1, none⟩ = some (.int .i64 0) := by rw [b1.cell (p := ⟨w.heap.size + 1, 1, none⟩) (by simp)]; exact g2 1 _ rfl
  have v1 : w1.cell? ⟨w.heap.size + 1 + 1, 1, none⟩ = some (.int .i64 0) := by rw [b1.cell (p := ⟨w.heap.size + 1 + 1, 1, none⟩) (by simp)]; exact g3 1 _ rfl
  have fu1 : w1.frozen? ⟨w.heap.size + 1, 1, none⟩ = false := by rw [b1.frozen (p := ⟨w.heap.size + 1, 1, none⟩) (by simp)]; exact g4 1
  have fv1 : w1.frozen? ⟨w.heap.size + 1 + 1, 1, none⟩ = false := by rw [b1.frozen (p := ⟨w.heap.size + 1 + 1, 1, none⟩) (by simp)]; exact g5 1
  clear g1 g2 g3 g4 g5
  have B1 := bz.trans (b1.mono bz.size)
  simp only [World.size_alloc] at rr tt ss
  clear b1 bz HC
  go_wp2
  have r5 : ((((w1.setCell ⟨w.heap.size + 1 + 1, 0, none⟩ (.slice (some ⟨w.heap.size + 1 + 1 + 1, 0, none⟩) b.ps.length b.ps.length)).setCell ⟨w.heap.size + 1 + 1, 1, none⟩ (.int .i64 b.wn)).setCell ⟨w.heap.size + 1, 0, none⟩ (.slice (some ⟨w.heap.size + 1 + 1 + 1, 0, none⟩) b.ps.length b.ps.length)).setCell ⟨w.heap.size + 1, 1, none⟩ (.int .i64 b.wn)).rangeAt (w.heap.size + 1) 0 (blkL (w.heap.size + 1 + 1 + 1) b.ps.length b.wn) := by
    intro j x hj
    match j, hj with
    | 0, hj => (obtain rfl : x = .slice (some ⟨w.heap.size + 1 + 1 + 1, 0, none⟩) b.ps.length b.ps.length := by simpa [blkL] using hj.symm); go_cell
    | 1, hj => (obtain rfl : x = .int .i64 b.wn := by simpa [blkL] using hj.symm); go_cell
    | n + 2, hj => simp [blkL] at hj
  refine bodyPost_ret (res_cell_mid Try.results102 _ _ (w.heap.size + 1) _ _ rfl r5 Try.underlying102 rfl (size_blk _ _ _)) rfl ⟨w.heap.size + 1 + 1 + 1, rfl, by omega, by simpa using ss, ?_, ?_, ?_⟩
  · intro j x hj
    rw [World.cell?_setCell_other _ _ _ _ (addr_ne (by omega)), World.cell?_setCell_other _ _ _ _ (addr_ne (by omega)), World.cell?_setCell_other _ _ _ _ (addr_ne (by omega)), World.cell?_setCell_other _ _ _ _ (addr_ne (by omega))]
    exact rr j x hj
  · intro j hj
    rw [World.cell?_setCell_other _ _ _ _ (addr_ne (by omega)), World.cell?_setCell_other _ _ _ _ (addr_ne (by omega)), World.cell?_setCell_other _ _ _ _ (addr_ne (by omega)), World.cell?_setCell_other _ _ _ _ (addr_ne (by omega))]
    simp only [World.frozen?_setCell]
    exact tt j hj
  · exact (((B1.setCell (by show w.heap.size ≤ w.heap.size + 1 + 1; omega) _).setCell (by show w.heap.size ≤ w.heap.size + 1 + 1; omega) _).setCell (by show w.heap.size ≤ w.heap.size + 1; omega) _).setCell (by show w.heap.size ≤ w.heap.size + 1; omega) _

set_option maxHeartbeats 1000000 in
theorem toBlockS_any (a : Option Addr) (cap : Nat) (bs : List Bk) (w : World) (hf : FsAt w a bs) (hl : bs.length ≤ 1048576) (hp : ∀ b ∈ bs, b.ps.length ≤ 1048576) :
    Calls Try.prog 56 #[.slice a bs.length cap] w fun e w' => ∃ g G, e = .returned (.slice (some ⟨g, 0, none⟩) bs.length bs.length) ∧ Own w' w.heap.size g G bs bs.length ∧ Below w.heap.size w w' := by
  have t0 := there_made w #[.slice none 0 0, .int .i64 0] (bs.length * 2) 102
  have b0 : Below w.heap.size w (w.alloc (.cells (madeCells #[.slice none 0 0, .int .i64 0] (bs.length * 2)) 102)) := (Below.refl _ _).alloc (Nat.le_refl _) _
  have hli : (bs.length : Int) ≤ 1048576 := by omega
  have HF := hide hf
  have HP := hide hp
  clear hf hp
  go_enter Try.func56, Try.ntmps56
  go_wp2_with (first | (refine wpList_make_big rfl 22 _ _ rfl bs.length rfl rfl 102 2 32 (.agg #[.slice none 0 0, .int .i64 0]) Try.underlying22 made_bs (by omega) (by omega) ?_))
  generalize hw1 : w.alloc (.cells (madeCells #[.slice none 0 0, .int .i64 0] (bs.length * 2)) 102) = w1 at *
  have s1 : w.heap.size < w1.heap.size := by rw [← hw1]; simp
  clear hw1
  have o1 : Own w1 w.heap.size w.heap.size [] [] bs.length := Own.start (Nat.le_refl _) s1 t0
  clear t0
  go_loopw [4] (fun i w' => ∃ k : Nat, k ≤ bs.length ∧ i = .int .i64 k ∧ (∃ G, Own w' w.heap.size w.heap.size G (bs.take k) bs.length) ∧ Below w.heap.size w w') (fun i _ => bs.length - (intOf i).toNat)
  case atStart => exact ⟨0, by omega, rfl, ⟨[], by simpa using o1⟩, b0⟩
  case round =>
    obtain ⟨k, hk, rfl, ⟨G, ok⟩, bw⟩ := hrel
    clear o1 b0
    by_cases h0 : k = bs.length
    · subst h0
      rw [List.take_of_length_le (Nat.le_refl _)] at ok
      go_wp2
      go_ret
      exact ⟨w.heap.size, G, rfl, ok, bw⟩
    · have hlt : (k : Int) < (bs.length : Int) := by omega
      have hkb : k < bs.length := by omega
      have hlo : (0 : Int) ≤ (k : Int) := by omega
      obtain ⟨fb, fo, rfl, hb⟩ : ∃ fb fo, a = some ⟨fb, fo, none⟩ ∧ ∀ i (hi : i < bs.length), BkAt w fb (fo + i * 2) bs[i] := by
        rcases unhide HF with rfl | h
        · simp at hkb
        · exact h
      obtain ⟨pa, pc, c0, c1, hps⟩ := (hb k hkb).below bw
      have hpl := unhide HP _ (List.getElem_mem hkb)
      have HT := hide (List.take_succ_eq_append_getElem hkb)
      clear hb
      generalize bs[k] = b at *
      have HC := hide (toBlock_any pa pc b wr hps hpl)
      clear hps
      go_wp2_with fail
      refine (unhide HC).mono ?_
      rintro e w2 ⟨p, rfl, hp1, hp2, rr, tt, b2⟩
      have o2 := ok.below b2 (Nat.le_refl _)
      have hnew := ok.hi
      have hlw := bw.size
      have tl : (bs.take k).length = k := by simp; omega
      have tk3 : w2.there w.heap.size (k * 2) (blkL p b.ps.length b.wn).toArray.size := by have := there_sub o2.room (k * 2) 2 (by omega); rw [Nat.zero_add] at this; exact this
      have op : Own (w2.setCells w.heap.size (k * 2) (blkL p b.ps.length b.wn)) w.heap.size w.heap.size (G ++ [p]) (bs.take k ++ [b]) bs.length := by
        have := o2.push (by omega) p b.ps.length b (by omega) hp2 (fun h => by have := hnew _ h; omega) rr tt
        rw [tl] at this; exact this
      have bw2 := bw.trans (b2.mono bw.size)
      have HI := hide (size_blka p b.ps.length b.wn)
      have o5 := one_blk p b.ps.length b.wn
      clear c0 c1 HC rr tt b2 ok o2
      generalize blkL p b.ps.length b.wn = bc at *
      go_wp2_with (first | (refine wpList_store_mid rfl 102 _ _ rfl w.heap.size (k * 2) bc.toArray rfl rfl tk3 (unhide HI) o5 ?_))
      go_roundw
      case rel => exact ⟨k + 1, by omega, by first | rfl | go_num, ⟨G ++ [p], by rw [unhide HT]; exact op⟩, below_setCells _ (Nat.le_refl _) _ _ _ bw2⟩
      case measure => simp [intOf]; omega
end Go.Proofs.Ytcmklcfedeeahaa.LawsB
