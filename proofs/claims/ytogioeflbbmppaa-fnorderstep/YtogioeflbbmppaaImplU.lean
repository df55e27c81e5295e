/-
  The program's FlashOk, FlashClean and FlashNew, for every list of blocks.
-/
import Derived.Test.YtogioeflbbmppaaImplT
namespace Go.Proofs.Ytogioeflbbmppaa.ImplU
open Go.ChangeShapes Go.WideShapes Go.ChangeAt Go.RowKit OkA Big Fl ImplB ImplF ImplS Own ImplT
set_option linter.unusedVariables false
set_option linter.unusedSimpArgs false

theorem ofz_any (a : Option Addr) (cap : Nat) (bs : List Bk) (w : World) (hf : FsAt w a bs) (hm : bs.length ≤ 9223372036854775807) :
    Calls Try.prog 71 #[.slice a bs.length cap] w fun e w' => KeptPost w bs (okB bs) e w' := of_any zFs fours_z rfl zero_fs a cap bs w hf hm

/-- A zero row of blocks, without its cells. -/
theorem zrow : ∃ zf : Array Value, (Try.prog.info? 73).bind (·.zero) = some (.agg zf) ∧ zf.size = 84 := ⟨(fsC zFs).toArray, zero_fs, rfl⟩

set_option maxHeartbeats 400000 in
theorem flashOk_any (a : Option Addr) (cap : Nat) (bs : List Bk) (w : World) (hf : FsAt w a bs) (hm : bs.length ≤ 9223372036854775807) :
    Calls Try.prog 31 #[.slice a bs.length cap] w fun e w' => e = .returned (.bool (okB bs)) ∧ Below w.heap.size w w' := by
  obtain ⟨zf, hz, hz84⟩ := zrow
  have HZ := hide hz
  clear hz
  go_enter Try.func31, Try.ntmps31
  go_wp2_with fail
  refine (ofz_any a cap bs _ hf hm).mono ?_
  rintro e w1 ⟨ks, rfl, hk4, hkF, hke, b1⟩
  have hsz : zf.size = (fsC ks).toArray.size := by rw [hz84, List.size_toArray, len_fsC _ hkF, hk4]
  go_wp2_with (first | (refine wpList_alloc_big rfl 73 rfl zf (unhide HZ) ?_) | (refine wpList_store_new rfl 73 _ _ rfl w1 zf (fsC ks).toArray rfl rfl rfl (size_fsa hkF hk4) hsz (one_fs ks) ?_))
  go_ret
  exact ⟨rfl, b1.alloc b1.size _⟩

def cleanR (bs : List Bk) (blk : Int) : Int := if okB bs && inB blk 0 3 then 4 - usedN (bs.getD blk.toNat zBk).ps else -1
theorem ok_len {bs : List Bk} (h : okB bs = true) : bs.length = 4 := by
  simp only [okB, Bool.and_eq_true, beq_iff_eq] at h; exact h.1.1
theorem ok_fours {bs : List Bk} (h : okB bs = true) : Fours bs := fun b hb => by
  simp only [okB, Bool.and_eq_true, List.all_eq_true] at h
  have := h.1.2 b hb
  simp only [bkB, Bool.and_eq_true, beq_iff_eq] at this
  exact this.1.1.1
theorem in_range {blk : Int} (h : inB blk 0 3 = true) : ∃ k : Nat, blk = (k : Int) ∧ k < 4 := by
  simp only [inB, decide_eq_true_eq] at h
  exact ⟨blk.toNat, by omega, by omega⟩
theorem sub_fs {w : World} {g : Nat} {bs : List Bk} (hF : Fours bs) (h : w.rangeAt g 0 (fsC bs)) (k : Nat) (hk : k < bs.length) : w.rangeAt g (k * 21) (bkC bs[k]) := by
  have := rangeAt_sub h (k * 21) 21
  rw [part_fs bs hF k hk, Nat.zero_add] at this
  exact this

set_option maxHeartbeats 400000 in
theorem flashClean_any (a : Option Addr) (cap : Nat) (blk : Int) (bs : List Bk) (w : World) (hf : FsAt w a bs) (hm : bs.length ≤ 9223372036854775807) :
    Calls Try.prog 28 #[.slice a bs.length cap, .int .i64 blk] w fun e w' => e = .returned (.int .i64 (cleanR bs blk)) ∧ Below w.heap.size w w' := by
  obtain ⟨zf, hz, hz84⟩ := zrow
  have HZ := hide hz
  clear hz
  go_enter Try.func28, Try.ntmps28
  go_wp2_with fail
  refine (at_any a cap blk bs _ hf hm).mono ?_
  rintro e w1 ⟨ks, rfl, hk4, hkF, hke, b1⟩
  have hsz : zf.size = (fsC ks).toArray.size := by rw [hz84, List.size_toArray, len_fsC _ hkF, hk4]
  have r1 := rangeAt_new w1 (fsC ks) 73
  have B1 := b1.alloc b1.size (.cells (fsC ks).toArray 73)
  clear b1
  cases hs : okB bs && inB blk 0 3
  · have HR : Hid (cleanR bs blk = -1) := by unfold cleanR; rw [hs]; rfl
    clear hs hke
    go_wp2_with (first | (refine wpList_alloc_big rfl 73 rfl zf (unhide HZ) ?_) | (refine wpList_store_new rfl 73 _ _ rfl w1 zf (fsC ks).toArray rfl rfl rfl (size_fsa hkF hk4) hsz (one_fs ks) ?_))
    go_ret
    exact ⟨by rw [unhide HR]; rfl, B1⟩
  · obtain rfl := hke hs
    have hs2 := hs
    rw [Bool.and_eq_true] at hs2
    obtain ⟨k, rfl, hk⟩ := in_range hs2.2
    have hkb : k < ks.length := by omega
    have hb4 : ks[k].ps.length = 4 := hkF.at k hkb
    have HR : Hid (cleanR ks (k : Int) = 4 - usedN ks[k].ps) := by
      unfold cleanR; rw [hs, if_pos rfl, Int.toNat_natCast, List.getD_eq_getElem?_getD, List.getElem?_eq_getElem hkb]; rfl
    have r2 := sub_fs hkF r1 k hkb
    clear hs hs2 hke r1
    have hlo : (0 : Int) ≤ (k : Int) := by omega
    have hhi : (k : Int) < 4 := by omega
    generalize ks[k] = b at *
    have hu := usedN_le b.ps
    go_wp2_with (first | (refine wpList_alloc_big rfl 73 rfl zf (unhide HZ) ?_) | (refine wpList_store_new rfl 73 _ _ rfl w1 zf (fsC ks).toArray rfl rfl rfl (size_fsa hkF hk4) hsz (one_fs ks) ?_) | (refine wpList_load_mid rfl 71 _ rfl w1.heap.size (k * 21) rfl (bkC b) _ r2 Try.underlying71 rfl (size_bkl hb4) ?_))
    refine (used_any b hb4 _).mono ?_
    rintro e w2 ⟨rfl, b2⟩
    clear r2
    go_wp2
    go_ret
    exact ⟨by rw [unhide HR]; rfl, B1.trans (b2.mono B1.size)⟩

theorem built_new : Try.prog.built 73 [] = some (fsC zFs).toArray := by kernel_rfl

set_option maxRecDepth 100000 in
set_option maxHeartbeats 400000 in
theorem flashNew_any (w : World) : Calls Try.prog 38 #[] w fun e w' => ListPost w zFs e w' := by
  have HB := hide built_new
  have HL := hide (list_any zFs rfl fours_z)
  have hsz : zFs.length = 4 := rfl
  generalize zFs = zs at *
  go_enter Try.func38, Try.ntmps38
  go_wp2_with (first | (refine wpList_build_big rfl 73 #[] rfl [] (by simp) (fsC zs).toArray (unhide HB) ?_))
  refine (unhide HL _).mono ?_
  rintro e w1 ⟨g, G, rfl, h⟩
  go_wp2
  go_ret
  exact ⟨g, G, rfl, h⟩
end Go.Proofs.Ytogioeflbbmppaa.ImplU
