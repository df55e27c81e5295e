/-
  The specification's new blocks: in rows of their own.
-/
import Derived.Test.YtogioeflbbmppaaSpecC
namespace Go.Proofs.Ytogioeflbbmppaa.SpecN
open Go.ChangeShapes Go.WideShapes Go.ChangeAt Go.RowKit OkA Big Fl ImplB ImplF ImplS Own ImplT ImplU SpecA SpecB SpecC
set_option linter.unusedVariables false
set_option linter.unusedSimpArgs false

theorem made4' : madeCells #[.int .i64 0, .int .i64 0, .int .i64 0, .int .i64 0, .int .i64 0] 20 = (psC zPs).toArray := by kernel_rfl
theorem made_psl : (Try.prog.info? 33).map (fun i => (i.zero, i.size, i.bytes)) = some (some (.agg #[.int .i64 0, .int .i64 0, .int .i64 0, .int .i64 0, .int .i64 0]), 5, 40) := by kernel_rfl

set_option maxHeartbeats 2000000 in
theorem new_any4 (w : World) : Calls Try.prog 115 #[] w fun e w' => ∃ g G c, e = .returned (.slice (some ⟨g, 0, none⟩) 4 c) ∧ Own w' w.heap.size g G zFs 4 ∧ Below w.heap.size w w' ∧ 4 ≤ c := by
  have hz4 : zFs.length = 4 := rfl
  have hzb : ∀ k (h : k < zFs.length), zFs[k] = zBk := fun k h => by
    have hm := List.getElem_mem h
    simp only [zFs, List.mem_cons, List.not_mem_nil, or_false, or_self] at hm
    exact hm
  have hzp : zBk.ps = zPs := rfl
  have hzw : zBk.wn = 0 := rfl
  have hz5 : zPs.length = 4 := rfl
  have HM := hide made4'
  generalize zFs = bs at *
  go_enter Try.func115, Try.ntmps115
  go_wp2
  have o1 : Grow (w.alloc (.cells #[] 36)) w.heap.size (.slice (some ⟨w.heap.size, 0, none⟩) 0 0) [] [] [] := by
    refine ⟨World.ownsRow_lit w #[] 0 (Nat.le_refl _) (by simp [maxLen]) rfl, fun g hg => ?_, rfl, by simp, by simp, by simp, fun i hi => by simp at hi, fun i hi => by simp at hi, fun i hi => by simp at hi, fun i hi => by simp at hi, fun i hi => by simp at hi⟩
    have : w.heap.size = g := Option.some.inj hg
    subst this
    exact ⟨Nat.le_refl _, by simp, by simp⟩
  have b0 : Below w.heap.size w (w.alloc (.cells #[] 36)) := (Below.refl _ _).alloc (Nat.le_refl _) _
  generalize w.alloc (.cells #[] 36) = w1 at *
  go_loopw [1, 2] (fun v i w' => ∃ k : Nat, k ≤ 4 ∧ i = .int .i64 k ∧ (∃ G ocs, Grow w' w.heap.size v G ocs (bs.take k)) ∧ Below w.heap.size w w') (fun _ i _ => 4 - (intOf i).toNat)
  case atStart => exact ⟨0, by omega, rfl, ⟨[], [], by simpa using o1⟩, b0⟩
  case round =>
    obtain ⟨k, hk, rfl, ⟨G, ocs, ok⟩, bw⟩ := hrel
    clear o1 b0
    by_cases h0 : k = 4
    · subst h0
      rw [List.take_of_length_le (by omega)] at ok
      obtain ⟨g, c, rfl, o⟩ := ok.toOwn (by omega)
      have hc4 : 4 ≤ c := by have := row_cap (by omega) ok.row; omega
      rw [hz4] at o
      clear HM
      go_wp2
      go_ret
      exact ⟨g, G, c, by rw [hz4]; rfl, o, bw, hc4⟩
    · have hlt : (k : Int) < 4 := by omega
      have hkb : k < bs.length := by omega
      have tl : (bs.take k).length = k := by simp; omega
      have HT := hide (List.take_succ_eq_append_getElem hkb)
      rw [hzb k hkb] at HT
      have hold := ownB_lt ok
      have hww := bw.size
      have bA : Below wr.heap.size wr (wr.alloc (.cells (psC zPs).toArray 33)) := (Below.refl _ _).alloc (Nat.le_refl _) _
      have rA := rangeAt_new wr (psC zPs) 33
      have tA : (wr.alloc (.cells (psC zPs).toArray 33)).there wr.heap.size 0 20 := there_new wr (psC zPs) 33
      have oA := ok.far bA hold
      have BA := bw.alloc bw.size (.cells (psC zPs).toArray 33)
      have sA : (wr.alloc (.cells (psC zPs).toArray 33)).heap.size = wr.heap.size + 1 := by simp
      have oC := oA.far (B := wr.heap.size + 1) ((Below.refl _ _).alloc (by omega) (.cells #[.slice (some ⟨wr.heap.size, 0, none⟩) 4 4, .int .i64 0] 36)) (fun x hx => by have := hold x hx; omega)
      have BC := BA.alloc BA.size (.cells #[.slice (some ⟨wr.heap.size, 0, none⟩) 4 4, .int .i64 0] 36)
      have rC := World.rangeAt_alloc rA (.cells #[.slice (some ⟨wr.heap.size, 0, none⟩) 4 4, .int .i64 0] 36)
      have tC := World.there_alloc tA (.cells #[.slice (some ⟨wr.heap.size, 0, none⟩) 4 4, .int .i64 0] 36)
      have nC := World.news_of_block (heap_alloc_new (wr.alloc (.cells (psC zPs).toArray 33)) (.cells #[.slice (some ⟨wr.heap.size, 0, none⟩) 4 4, .int .i64 0] 36))
      have sC : ((wr.alloc (.cells (psC zPs).toArray 33)).alloc (.cells #[.slice (some ⟨wr.heap.size, 0, none⟩) 4 4, .int .i64 0] 36)).heap.size = wr.heap.size + 1 + 1 := by simp
      obtain ⟨iB, hiB, hzB, hsB, hbB⟩ := infoB
      have HiB := hide hiB
      have HzB := hide hzB
      have HsB := hide hsB
      have HbB := hide hbB
      have HrC := hide (show ((wr.alloc (.cells (psC zPs).toArray 33)).alloc (.cells #[.slice (some ⟨wr.heap.size, 0, none⟩) 4 4, .int .i64 0] 36)).ownsRow w.heap.size 36 2 u1 k ocs by have := oC.row; rw [tl] at this; exact this)
      rw [sA] at nC
      clear hiB hzB hsB hbB bA rA tA oA BA sA
      go_wp2_with (first | (refine wpList_make_big rfl 34 _ _ rfl 4 rfl rfl 33 5 40 _ Try.underlying34 made_psl (by omega) (by omega) ?_; simp only [Value.cells]; rw [unhide HM]) | (refine wpList_append_lies _ rfl _ _ 23 rfl w.heap.size 36 iB (.agg #[.slice none 0 0, .int .i64 0]) 2 32 Try.underlying23 (unhide HiB) (unhide HzB) (unhide HsB) (unhide HbB) rfl (by omega) u1 k ocs rfl (unhide HrC) ⟨wr.heap.size + 1, 0, none⟩ 1 1 [.slice (some ⟨wr.heap.size, 0, none⟩) 4 4, .int .i64 0] rfl rfl nC (by intro u hu; simp at hu; rcases hu with rfl | rfl <;> rfl) (by omega) (by simp [maxLen]; omega) (by omega) (by simp; omega) _ sC ?_; intro g' cap' wD ownD growD atD ltD))
      have oD := oC.push wr.heap.size 4 zBk (by omega) (by rw [sC]; omega) (fun h => by have := hold _ (.inl h); omega) (fun h => by have := hold _ (.inr h); omega) rC tC g' cap' (by rw [tl]; exact ownD) growD (by rw [sC]; exact atD) ltD (by rw [sC]; omega) (by decide)
      have BD := BC.trans ((Below.refl w.heap.size _).grown growD (by rw [sC]; omega) (fun q hq => (oC.own q hq).1))
      rw [tl] at oD
      go_roundw
      case rel => exact ⟨k + 1, by omega, by first | rfl | go_num, ⟨G ++ [wr.heap.size], _, by rw [unhide HT]; exact oD⟩, BD⟩
      case measure => simp [intOf]; omega
theorem new_any (w : World) : Calls Try.prog 115 #[] w fun e w' => ∃ g G c, e = .returned (.slice (some ⟨g, 0, none⟩) 4 c) ∧ Own w' w.heap.size g G zFs 4 ∧ Below w.heap.size w w' := by
  refine (new_any4 w).mono ?_
  rintro e w' ⟨g, G, c, h1, h2, h3, _⟩
  exact ⟨g, G, c, h1, h2, h3⟩
end Go.Proofs.Ytogioeflbbmppaa.SpecN
