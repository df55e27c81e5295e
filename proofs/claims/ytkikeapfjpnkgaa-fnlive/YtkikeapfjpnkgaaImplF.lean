/-
  The program's functions on the four blocks as it keeps them, for every four blocks of four pages: whether no two records have one number, whether there is a record of a number, whether the blocks are ok.
-/
import Derived.Test.YtkikeapfjpnkgaaBaB
namespace Go.Proofs.Ytkikeapfjpnkgaa.ImplF
open Go.ChangeShapes Go.WideShapes Go.ChangeAt Go.RowKit OkA Big Fl ImplB
set_option linter.unusedVariables false
set_option linter.unusedSimpArgs false

def zPg : Pg := ⟨0, 0, 0, 0, 0⟩
def zBk : Bk := ⟨[zPg, zPg, zPg, zPg], 0⟩
def zFs : List Bk := [zBk, zBk, zBk, zBk]
theorem zero_bk : (Try.prog.info? 73).bind (·.zero) = some (.agg (bkC zBk).toArray) := by kernel_rfl
theorem zero_fs : (Try.prog.info? 75).bind (·.zero) = some (.agg (fsC zFs).toArray) := by kernel_rfl
def seenZ : List Value := List.replicate 601 (.bool false)
theorem zero_seen : (Try.prog.info? 153).bind (·.zero) = some (.agg seenZ.toArray) := by kernel_rfl
theorem len_seenZ : seenZ.length = 601 := List.length_replicate
theorem size_bk {b : Bk} (h4 : b.ps.length = 4) : (Try.prog.info? 73).map (·.size) = some (bkC b).toArray.size := by
  rw [List.size_toArray, len_bkC b h4]; kernel_rfl
theorem size_bkl {b : Bk} (h4 : b.ps.length = 4) : (Try.prog.info? 73).map (·.size) = some (bkC b).length := by
  rw [len_bkC b h4]; kernel_rfl
theorem size_fsl {bs : List Bk} (h : Fours bs) (h4 : bs.length = 4) : (Try.prog.info? 75).map (·.size) = some (fsC bs).length := by
  rw [len_fsC bs h, h4]; kernel_rfl
theorem size_psl {ps : List Pg} (h4 : ps.length = 4) : (Try.prog.info? 69).map (·.size) = some (psC ps).length := by
  rw [len_psC, h4]; kernel_rfl
theorem same_bk {b : Bk} (h4 : b.ps.length = 4) : (bkC zBk).toArray.size = (bkC b).toArray.size := by
  rw [List.size_toArray, List.size_toArray, len_bkC b h4]; rfl
theorem one_bk (b : Bk) : (bkC b).toArray.all (·.oneCell') = true := all_oneCell_toArray (one_bkC b)
theorem one_fs (bs : List Bk) : (fsC bs).toArray.all (·.oneCell') = true := all_oneCell_toArray (one_fsC bs)
theorem ext_fs {bs : List Bk} (h : Fours bs) (k : Nat) (hk : k < bs.length) : (fsC bs).toArray.extract ((k : Int).toNat * 21) ((k : Int).toNat * 21 + 21) = (bkC bs[k]).toArray := by
  rw [Int.toNat_natCast]; exact extract_of _ _ _ _ (part_fs bs h k hk)
theorem ext_ps (ps : List Pg) (k : Nat) (hk : k < ps.length) : (psC ps).toArray.extract ((k : Int).toNat * 5) ((k : Int).toNat * 5 + 5) = #[.int .i64 (ps[k]).st, .int .i64 (ps[k]).k, .int .i64 (ps[k]).s, .int .i64 (ps[k]).a, .int .i64 (ps[k]).v] := by
  rw [Int.toNat_natCast]; exact extract_of _ _ _ _ (part_ps ps k hk)

/-! Numbers. -/
theorem seqs_take (bs : List Bk) (k : Nat) (hk : k < bs.length) : seqs (bs.take (k + 1)) = seqs (bs.take k) ++ seqsP bs[k].ps := by
  rw [List.take_succ_eq_append_getElem hk]; simp only [seqs, List.flatMap_append, List.flatMap_cons, List.flatMap_nil, List.append_nil]
theorem seqsP_take (ps : List Pg) (k : Nat) (hk : k < ps.length) : seqsP (ps.take (k + 1)) = seqsP (ps.take k) ++ (seqP ps[k]).toList := by
  rw [List.take_succ_eq_append_getElem hk]
  simp only [seqsP, List.filterMap_append, List.filterMap_cons, List.filterMap_nil]
  cases seqP ps[k] <;> rfl
theorem seqs_split (bs : List Bk) (k : Nat) (hk : k < bs.length) (j : Nat) : seqs bs = (seqs (bs.take k) ++ seqsP (bs[k].ps.take j)) ++ (seqsP (bs[k].ps.drop j) ++ seqs (bs.drop (k + 1))) := by
  have e : bs = bs.take k ++ (bs[k] :: bs.drop (k + 1)) := by rw [← List.drop_eq_getElem_cons hk]; exact (List.take_append_drop k bs).symm
  have e2 : seqsP bs[k].ps = seqsP (bs[k].ps.take j) ++ seqsP (bs[k].ps.drop j) := by
    rw [seqsP, seqsP, seqsP, ← List.filterMap_append, List.take_append_drop]
  have e3 : seqs bs = seqs (bs.take k ++ (bs[k] :: bs.drop (k + 1))) := by rw [← e]
  rw [e3]
  simp only [seqs, List.flatMap_append, List.flatMap_cons, List.append_assoc]
  rw [e2]
  simp [List.append_assoc]
theorem seqP_w {p : Pg} (h : p.st = 1) : seqP p = some p.s := by simp [seqP, h]
theorem seqP_n {p : Pg} (h : ¬ p.st = 1) : seqP p = none := by simp [seqP, h]
theorem drop_w (ps : List Pg) (k : Nat) (hk : k < ps.length) (h : ps[k].st = 1) : seqsP (ps.drop k) = ps[k].s :: seqsP (ps.drop (k + 1)) := by
  rw [List.drop_eq_getElem_cons hk, seqsP, List.filterMap_cons, seqP_w h]; rfl

/-- Which numbers were met. -/
structure Seen (w : World) (sb : Nat) (l : List Int) : Prop where
  cell : ∀ i : Nat, i ≤ 600 → w.cell? ⟨sb, i, none⟩ = some (.bool (l.contains (i : Int)))
  froz : ∀ i : Nat, i ≤ 600 → w.frozen? ⟨sb, i, none⟩ = false
theorem Seen.new (w : World) (T : TypeId) : Seen (w.alloc (.cells seenZ.toArray T)) w.heap.size [] :=
  ⟨fun i hi => by rw [World.cell?_alloc_at _ _ _ _ rfl, List.getElem?_toArray, seenZ, List.getElem?_replicate, if_pos (by omega)]; rfl, fun i hi => by simp⟩
theorem Seen.below {w w' : World} {B sb : Nat} {l : List Int} (h : Seen w sb l) (hb : Below B w w') (hlt : sb < B) : Seen w' sb l :=
  ⟨fun i hi => by rw [hb.cell (p := ⟨sb, i, none⟩) hlt]; exact h.cell i hi, fun i hi => by rw [hb.frozen (p := ⟨sb, i, none⟩) hlt]; exact h.froz i hi⟩
theorem Seen.put {w : World} {sb : Nat} {l : List Int} (h : Seen w sb l) (s : Int) (h0 : 0 ≤ s) (h1 : s ≤ 600) : Seen (w.setCell ⟨sb, s.toNat, none⟩ (.bool true)) sb (l ++ [s]) := by
  refine ⟨fun i hi => ?_, fun i hi => by rw [World.frozen?_setCell]; exact h.froz i hi⟩
  by_cases e : s.toNat = i
  · subst e
    rw [World.cell?_setCell_same _ _ _ (h.cell _ hi)]
    have : ((s.toNat : Nat) : Int) = s := by omega
    rw [this]; simp
  · rw [World.cell?_setCell_other _ _ _ _ (by simp [e]), h.cell i hi]
    have : ¬ ((i : Int) = s) := by omega
    simp [this]

set_option maxHeartbeats 1000000 in
theorem differ_any (bs : List Bk) (h4 : bs.length = 4) (hF : Fours bs) (hok : ∀ b ∈ bs, b.ps.all pgB = true) (w : World) :
    Calls Try.prog 105 #[.agg (fsC bs).toArray] w fun e w' => e = .returned (.bool (nodB (seqs bs))) ∧ Below w.heap.size w w' := by
  have r0 := rangeAt_new w (fsC bs) 75
  have r1 := World.rangeAt_alloc r0 (.cells seenZ.toArray 153)
  have sn := Seen.new (w.alloc (.cells (fsC bs).toArray 75)) 153
  have b0 : Below w.heap.size w ((w.alloc (.cells (fsC bs).toArray 75)).alloc (.cells seenZ.toArray 153)) := ((Below.refl _ _).alloc (Nat.le_refl _) _).alloc (by simp) _
  go_enter Try.func105, Try.ntmps105
  go_wp2_with (first | (refine wpList_box_big rfl _ _ rfl (fsC bs).toArray rfl ?_) | (refine wpList_alloc_big rfl 153 rfl seenZ.toArray zero_seen ?_) | (refine wpList_load_mid rfl 75 _ rfl w.heap.size 0 rfl (fsC bs) _ r1 Try.underlying75 rfl (size_fsl hF h4) ?_))
  clear r0 r1
  simp only [World.size_alloc] at sn
  generalize hw1 : (w.alloc (.cells (fsC bs).toArray 75)).alloc (.cells seenZ.toArray 153) = w1 at *
  have s1 : w.heap.size + 1 < w1.heap.size := by rw [← hw1]; simp
  clear hw1
  go_loopw [9] (fun i w' => ∃ k : Nat, k ≤ 4 ∧ i = .int .i64 k ∧ Hid (seqs (bs.take k)).Nodup ∧ Seen w' (w.heap.size + 1) (seqs (bs.take k)) ∧ Below (w.heap.size + 1) w1 w') (fun i _ => 4 - (intOf i).toNat)
  case atStart => exact ⟨0, by omega, rfl, by simp [Hid, seqs], by simpa [seqs] using sn, Below.refl _ _⟩
  case round =>
    obtain ⟨k, hk, rfl, hnd, sk, bw⟩ := hrel
    have hsz := bw.size
    clear sn
    by_cases h0 : k = 4
    · subst h0
      have HN := hide ((nodB_iff (seqs bs)).2 (by have := hnd.out; rwa [List.take_of_length_le (by omega)] at this))
      go_wp2
      go_ret
      exact ⟨by rw [unhide HN]; rfl, b0.trans (bw.mono (by omega))⟩
    · have hlt : (k : Int) < 4 := by omega
      have hkb : k < bs.length := by omega
      have hlo : (0 : Int) ≤ (k : Int) := by omega
      have hex := ext_fs hF k hkb
      have hb4 : bs[k].ps.length = 4 := hF.at k hkb
      have hall := hok _ (List.getElem_mem hkb)
      have hsp := seqs_split bs k hkb
      have hst := seqs_take bs k hkb
      have HE := hide hex
      have HSP := hide hsp
      have HST := hide hst
      have HAL := hide hall
      clear hex hsp hst hall
      generalize bs[k] = b at *
      have rb := range_bk (rangeAt_new wr (bkC b) 73)
      go_wp2_with (first | (refine wpList_index_big rfl 75 _ _ rfl (fsC bs).toArray _ (k : Int) rfl rfl 73 4 21 _ Try.underlying75 Try.underlying73 rfl (by kernel_rfl) hlo hlt (unhide HE) ?_) | (refine wpList_alloc_big rfl 73 rfl (bkC zBk).toArray zero_bk ?_) | (refine wpList_store_new rfl 73 _ _ rfl wr (bkC zBk).toArray (bkC b).toArray rfl rfl rfl (size_bk hb4) (same_bk hb4) (one_bk b) ?_) | (refine wpList_load_mid rfl 69 _ rfl wr.heap.size 0 rfl (psC b.ps) _ rb Try.underlying69 rfl (size_psl hb4) ?_))
      have b2 : Below (w.heap.size + 1) wr (wr.alloc (.cells (bkC b).toArray 73)) := (Below.refl _ _).alloc (by omega) _
      have b3 : Below wr.heap.size wr (wr.alloc (.cells (bkC b).toArray 73)) := (Below.refl _ _).alloc (by omega) _
      have sk2 := sk.below b3 (by omega)
      have bw2 := bw.trans b2
      have hz2 : wr.heap.size < (wr.alloc (.cells (bkC b).toArray 73)).heap.size := by simp
      clear rb b2 b3 sk bw
      generalize wr.alloc (.cells (bkC b).toArray 73) = w2 at *
      go_loopw [15] (fun i w' => ∃ j : Nat, j ≤ 4 ∧ i = .int .i64 j ∧ Hid (seqs (bs.take k) ++ seqsP (b.ps.take j)).Nodup ∧ Seen w' (w.heap.size + 1) (seqs (bs.take k) ++ seqsP (b.ps.take j)) ∧ Below (w.heap.size + 1) w1 w') (fun i _ => 4 - (intOf i).toNat)
      case atStart => exact ⟨0, by omega, rfl, by simpa [seqsP] using hnd, by simpa [seqsP] using sk2, bw2⟩
      case round =>
        obtain ⟨j, hj, rfl, hnj, sj, bj⟩ := hrel
        have hsj := bj.size
        clear sk2 bw2 hnd
        by_cases h0 : j = 4
        · subst h0
          go_wp2
          go_roundw
          case rel =>
            refine ⟨k + 1, by omega, by first | rfl | go_num, ?_, ?_, bj⟩
            · rw [unhide HST]; have := hnj.out; rwa [List.take_of_length_le (l := b.ps) (by omega)] at this
            · rw [unhide HST]; rwa [List.take_of_length_le (l := b.ps) (by omega)] at sj
          case measure => simp [intOf]; omega
        · have hjt : (j : Int) < 4 := by omega
          have hjb : j < b.ps.length := by omega
          have hjo : (0 : Int) ≤ (j : Int) := by omega
          have hey := ext_ps b.ps j hjb
          have hpg : pgB b.ps[j] = true := List.all_eq_true.1 (unhide HAL) _ (List.getElem_mem hjb)
          have hsq := seqsP_take b.ps j hjb
          have hdw := drop_w b.ps j hjb
          have HEY := hide hey
          have HSQ := hide hsq
          have HDW := hide hdw
          have HPG := hide hpg
          clear hey hsq hdw hpg
          generalize b.ps[j] = p at *
          by_cases hp1 : p.st = 1
          · have hr : 1 ≤ p.s ∧ p.s ≤ 600 := by
              have := unhide HPG
              simp [pgB, hp1, recB, numB, inB] at this
              omega
            obtain ⟨hr1, hr2⟩ := hr
            have hp1' : (p.st != 1) = false := by simpa using hp1
            have hp1h := hide hp1
            have cs := sj.cell p.s.toNat (by omega)
            have fs := sj.froz p.s.toNat (by omega)
            have ec : ((p.s.toNat : Nat) : Int) = p.s := by omega
            rw [ec] at cs
            have hl0 : (0 : Int) ≤ p.s := by omega
            have hl1 : p.s < 601 := by omega
            have sjt := sj
            have hl2 : w.heap.size + 1 < wr.heap.size := by omega
            clear sj hp1 ec
            cases hcn : (seqs (bs.take k) ++ seqsP (b.ps.take j)).contains p.s
            · rw [hcn] at cs
              have HCN := hide hcn
              clear hcn
              go_wp2_with (first | (refine wpList_index_big rfl 69 _ _ rfl (psC b.ps).toArray _ (j : Int) rfl rfl 33 4 5 _ Try.underlying69 Try.underlying33 rfl (by kernel_rfl) hjo hjt (unhide HEY) ?_))
              go_roundw
              case rel =>
                have e : seqsP (b.ps.take (j + 1)) = seqsP (b.ps.take j) ++ [p.s] := by rw [unhide HSQ, seqP_w (unhide hp1h)]; rfl
                refine ⟨j + 1, by omega, by first | rfl | go_num, ?_, ?_, (bj.setCell (Nat.le_refl _) _).alloc (by simp; omega) _⟩
                · rw [e, ← List.append_assoc]
                  have hm : p.s ∉ seqs (bs.take k) ++ seqsP (b.ps.take j) := by simpa using unhide HCN
                  exact List.nodup_append.2 ⟨hnj.out, by simp, fun x hx y hy => by simp at hy; subst hy; intro q; subst q; exact hm hx⟩
                · rw [e, ← List.append_assoc]
                  exact (sjt.put p.s hl0 hr2).below ((Below.refl wr.heap.size _).alloc (by simp) _) (by omega)
              case measure => simp [intOf]; omega
            · rw [hcn] at cs
              have HCN := hide hcn
              clear hcn
              go_wp2_with (first | (refine wpList_index_big rfl 69 _ _ rfl (psC b.ps).toArray _ (j : Int) rfl rfl 33 4 5 _ Try.underlying69 Try.underlying33 rfl (by kernel_rfl) hjo hjt (unhide HEY) ?_))
              have HN := hide (show nodB (seqs bs) = false from by
                cases h : nodB (seqs bs)
                · rfl
                · exfalso
                  have hn := (nodB_iff _).1 h
                  rw [unhide HSP j, unhide HDW (unhide hp1h)] at hn
                  have hm : p.s ∈ seqs (bs.take k) ++ seqsP (b.ps.take j) := by simpa using unhide HCN
                  exact (List.nodup_append.1 hn).2.2 p.s hm p.s (by simp) rfl)
              go_ret
              exact ⟨by rw [unhide HN]; rfl, b0.trans ((bj.alloc (by omega) _).mono (by omega))⟩
          · have hp1' : (p.st != 1) = true := by simpa using hp1
            have hp1h := hide hp1
            clear hp1
            go_wp2_with (first | (refine wpList_index_big rfl 69 _ _ rfl (psC b.ps).toArray _ (j : Int) rfl rfl 33 4 5 _ Try.underlying69 Try.underlying33 rfl (by kernel_rfl) hjo hjt (unhide HEY) ?_))
            go_roundw
            case rel =>
              have e : seqsP (b.ps.take (j + 1)) = seqsP (b.ps.take j) := by rw [unhide HSQ, seqP_n (unhide hp1h)]; simp
              refine ⟨j + 1, by omega, by first | rfl | go_num, by rw [e]; exact hnj, ?_, bj.alloc (by omega) _⟩
              rw [e]
              exact sj.below ((Below.refl wr.heap.size wr).alloc (Nat.le_refl _) _) (by omega)
            case measure => simp [intOf]; omega
theorem mem_seqs_iff (bs : List Bk) (q : Int) : q ∈ seqs bs ↔ ∃ k, ∃ hk : k < bs.length, ∃ j, ∃ hj : j < bs[k].ps.length, bs[k].ps[j].st = 1 ∧ bs[k].ps[j].s = q := by
  simp only [seqs, List.mem_flatMap, seqsP, List.mem_filterMap]
  constructor
  · rintro ⟨b, hb, p, hp, h⟩
    obtain ⟨k, hk, rfl⟩ := List.getElem_of_mem hb
    obtain ⟨j, hj, rfl⟩ := List.getElem_of_mem hp
    refine ⟨k, hk, j, hj, ?_⟩
    unfold seqP at h
    split at h
    · exact ⟨by assumption, by simpa using h⟩
    · cases h
  · rintro ⟨k, hk, j, hj, h1, h2⟩
    exact ⟨_, List.getElem_mem hk, _, List.getElem_mem hj, by rw [seqP_w h1, h2]⟩

set_option maxHeartbeats 1000000 in
theorem has_any (bs : List Bk) (q : Int) (h4 : bs.length = 4) (hF : Fours bs) (w : World) :
    Calls Try.prog 79 #[.agg (fsC bs).toArray, .int .i64 q] w fun e w' => e = .returned (.bool ((seqs bs).contains q)) ∧ Below w.heap.size w w' := by
  have r0 := rangeAt_new w (fsC bs) 75
  have b0 : Below w.heap.size w (w.alloc (.cells (fsC bs).toArray 75)) := (Below.refl _ _).alloc (Nat.le_refl _) _
  go_enter Try.func79, Try.ntmps79
  go_wp2_with (first | (refine wpList_box_big rfl _ _ rfl (fsC bs).toArray rfl ?_) | (refine wpList_load_mid rfl 75 _ rfl w.heap.size 0 rfl (fsC bs) _ r0 Try.underlying75 rfl (size_fsl hF h4) ?_))
  clear r0
  generalize hw1 : w.alloc (.cells (fsC bs).toArray 75) = w1 at *
  have s1 : w.heap.size < w1.heap.size := by rw [← hw1]; simp
  clear hw1
  go_loopw [10] (fun i w' => ∃ k : Nat, k ≤ 4 ∧ i = .int .i64 k ∧ Hid (q ∉ seqs (bs.take k)) ∧ Below w1.heap.size w1 w') (fun i _ => 4 - (intOf i).toNat)
  case atStart => exact ⟨0, by omega, rfl, by simp [Hid, seqs], Below.refl _ _⟩
  case round =>
    obtain ⟨k, hk, rfl, hnd, bw⟩ := hrel
    have hsz := bw.size
    by_cases h0 : k = 4
    · subst h0
      have HN := hide (show (seqs bs).contains q = false by have := hnd.out; rw [List.take_of_length_le (by omega)] at this; simpa using this)
      go_wp2
      go_ret
      exact ⟨by rw [unhide HN]; rfl, b0.trans (bw.mono (by omega))⟩
    · have hlt : (k : Int) < 4 := by omega
      have hkb : k < bs.length := by omega
      have hlo : (0 : Int) ≤ (k : Int) := by omega
      have hex := ext_fs hF k hkb
      have hb4 : bs[k].ps.length = 4 := hF.at k hkb
      have hsp := seqs_split bs k hkb
      have hst := seqs_take bs k hkb
      have HE := hide hex
      have HSP := hide hsp
      have HST := hide hst
      clear hex hsp hst
      generalize bs[k] = b at *
      have rb := range_bk (rangeAt_new wr (bkC b) 73)
      go_wp2_with (first | (refine wpList_index_big rfl 75 _ _ rfl (fsC bs).toArray _ (k : Int) rfl rfl 73 4 21 _ Try.underlying75 Try.underlying73 rfl (by kernel_rfl) hlo hlt (unhide HE) ?_) | (refine wpList_alloc_big rfl 73 rfl (bkC zBk).toArray zero_bk ?_) | (refine wpList_store_new rfl 73 _ _ rfl wr (bkC zBk).toArray (bkC b).toArray rfl rfl rfl (size_bk hb4) (same_bk hb4) (one_bk b) ?_) | (refine wpList_load_mid rfl 69 _ rfl wr.heap.size 0 rfl (psC b.ps) _ rb Try.underlying69 rfl (size_psl hb4) ?_))
      have bw2 := bw.alloc hsz (.cells (bkC b).toArray 73)
      clear rb bw
      generalize wr.alloc (.cells (bkC b).toArray 73) = w2 at *
      go_loopw [16] (fun i w' => ∃ j : Nat, j ≤ 4 ∧ i = .int .i64 j ∧ Hid (q ∉ seqsP (b.ps.take j)) ∧ Below w1.heap.size w1 w') (fun i _ => 4 - (intOf i).toNat)
      case atStart => exact ⟨0, by omega, rfl, by simp [Hid, seqsP], bw2⟩
      case round =>
        obtain ⟨j, hj, rfl, hnj, bj⟩ := hrel
        have hsj := bj.size
        clear bw2
        by_cases h0 : j = 4
        · subst h0
          go_wp2
          go_roundw
          case rel =>
            refine ⟨k + 1, by omega, by first | rfl | go_num, ?_, bj⟩
            show q ∉ _
            rw [unhide HST]; have := hnj.out; rw [List.take_of_length_le (l := b.ps) (by omega)] at this
            have h2 := hnd.out
            simp only [List.mem_append]; exact fun h => h.elim h2 this
          case measure => simp [intOf]; omega
        · have hjt : (j : Int) < 4 := by omega
          have hjb : j < b.ps.length := by omega
          have hjo : (0 : Int) ≤ (j : Int) := by omega
          have hey := ext_ps b.ps j hjb
          have hsq := seqsP_take b.ps j hjb
          have hdw := drop_w b.ps j hjb
          have HEY := hide hey
          have HSQ := hide hsq
          have HDW := hide hdw
          clear hey hsq hdw
          generalize b.ps[j] = p at *
          by_cases hp1 : p.st = 1
          · by_cases hpq : p.s = q
            · have g1 : (p.st == 1) = true := by simpa using hp1
              have g2 : (p.s == q) = true := by simpa using hpq
              have hp1h := hide hp1
              have hpqh := hide hpq
              clear hp1 hpq
              go_wp2_with (first | (refine wpList_index_big rfl 69 _ _ rfl (psC b.ps).toArray _ (j : Int) rfl rfl 33 4 5 _ Try.underlying69 Try.underlying33 rfl (by kernel_rfl) hjo hjt (unhide HEY) ?_))
              have HN := hide (show (seqs bs).contains q = true from by
                rw [unhide HSP j, unhide HDW (unhide hp1h), unhide hpqh]
                simp)
              go_ret
              exact ⟨by rw [unhide HN]; rfl, b0.trans ((bj.alloc (by omega) _).mono (by omega))⟩
            · have g1 : (p.st == 1) = true := by simpa using hp1
              have g2 : (p.s == q) = false := by simpa using hpq
              have hp1h := hide hp1
              have hpqh := hide hpq
              clear hp1 hpq
              go_wp2_with (first | (refine wpList_index_big rfl 69 _ _ rfl (psC b.ps).toArray _ (j : Int) rfl rfl 33 4 5 _ Try.underlying69 Try.underlying33 rfl (by kernel_rfl) hjo hjt (unhide HEY) ?_))
              go_roundw
              case rel =>
                have e : seqsP (b.ps.take (j + 1)) = seqsP (b.ps.take j) ++ [p.s] := by rw [unhide HSQ, seqP_w (unhide hp1h)]; rfl
                refine ⟨j + 1, by omega, by first | rfl | go_num, ?_, bj.alloc (by omega) _⟩
                show q ∉ _
                rw [e]
                have h2 := hnj.out
                have h3 := unhide hpqh
                simp only [List.mem_append, List.mem_singleton]
                exact fun h => h.elim h2 (fun h => h3 h.symm)
              case measure => simp [intOf]; omega
          · have hp1' : (p.st == 1) = false := by simpa using hp1
            have hp1h := hide hp1
            clear hp1
            go_wp2_with (first | (refine wpList_index_big rfl 69 _ _ rfl (psC b.ps).toArray _ (j : Int) rfl rfl 33 4 5 _ Try.underlying69 Try.underlying33 rfl (by kernel_rfl) hjo hjt (unhide HEY) ?_))
            go_roundw
            case rel =>
              have e : seqsP (b.ps.take (j + 1)) = seqsP (b.ps.take j) := by rw [unhide HSQ, seqP_n (unhide hp1h)]; simp
              exact ⟨j + 1, by omega, by first | rfl | go_num, by rw [e]; exact hnj, bj.alloc (by omega) _⟩
            case measure => simp [intOf]; omega

theorem okB_eq (bs : List Bk) (h4 : bs.length = 4) (h : ∀ b ∈ bs, bkB b = true) : okB bs = nodB (seqs bs) := by
  have : bs.all bkB = true := List.all_eq_true.2 h
  simp [okB, h4, this]
theorem okB_bad (bs : List Bk) (k : Nat) (hk : k < bs.length) (h : bkB bs[k] = false) : okB bs = false := by
  cases ho : okB bs
  · rfl
  · simp only [okB, Bool.and_eq_true, List.all_eq_true] at ho
    rw [ho.1.2 _ (List.getElem_mem hk)] at h; cases h
theorem bkB_pages {b : Bk} (h : bkB b = true) : b.ps.all pgB = true := by
  simp only [bkB, Bool.and_eq_true] at h; exact h.1.2

set_option maxHeartbeats 1000000 in
theorem keptOk_any (bs : List Bk) (h4 : bs.length = 4) (hF : Fours bs) (w : World) :
    Calls Try.prog 82 #[.agg (fsC bs).toArray] w fun e w' => e = .returned (.bool (okB bs)) ∧ Below w.heap.size w w' := by
  have r0 := rangeAt_new w (fsC bs) 75
  have b0 : Below w.heap.size w (w.alloc (.cells (fsC bs).toArray 75)) := (Below.refl _ _).alloc (Nat.le_refl _) _
  go_enter Try.func82, Try.ntmps82
  go_wp2_with (first | (refine wpList_box_big rfl _ _ rfl (fsC bs).toArray rfl ?_) | (refine wpList_load_mid rfl 75 _ rfl w.heap.size 0 rfl (fsC bs) _ r0 Try.underlying75 rfl (size_fsl hF h4) ?_))
  generalize hw1 : w.alloc (.cells (fsC bs).toArray 75) = w1 at *
  have s1 : w.heap.size < w1.heap.size := by rw [← hw1]; simp
  clear hw1
  go_loopw [6] (fun i w' => ∃ k : Nat, k ≤ 4 ∧ i = .int .i64 k ∧ Hid (∀ j (hj : j < bs.length), j < k → bkB bs[j] = true) ∧ Below w1.heap.size w1 w') (fun i _ => 4 - (intOf i).toNat)
  case atStart => exact ⟨0, by omega, rfl, fun j hj h => by omega, Below.refl _ _⟩
  case round =>
    obtain ⟨k, hk, rfl, hnd, bw⟩ := hrel
    have hsz := bw.size
    by_cases h0 : k = 4
    · subst h0
      have hall : ∀ b ∈ bs, bkB b = true := fun b hb => by
        obtain ⟨j, hj, rfl⟩ := List.getElem_of_mem hb
        exact hnd.out j hj (by omega)
      have HN := hide (okB_eq bs h4 hall)
      have r1 := rangeAt_below r0 bw s1
      have HC := hide (differ_any bs h4 hF (fun b hb => bkB_pages (hall b hb)))
      clear r0 hall
      go_wp2_with (first | (refine wpList_load_mid rfl 75 _ rfl w.heap.size 0 rfl (fsC bs) _ r1 Try.underlying75 rfl (size_fsl hF h4) ?_))
      refine (unhide HC _).mono ?_
      rintro e w2 ⟨rfl, b2⟩
      clear r1
      go_wp2
      go_ret
      exact ⟨by rw [unhide HN]; rfl, b0.trans ((bw.mono (by omega)).trans (b2.mono (by omega)))⟩
    · have hlt : (k : Int) < 4 := by omega
      have hkb : k < bs.length := by omega
      have hlo : (0 : Int) ≤ (k : Int) := by omega
      have hex := ext_fs hF k hkb
      have hb4 : bs[k].ps.length = 4 := hF.at k hkb
      have HE := hide hex
      have HB := hide (okB_bad bs k hkb)
      clear hex r0
      generalize hbk : bs[k] = b at *
      have HBK := hide hbk
      clear hbk
      have rb := rangeAt_new wr (bkC b) 73
      have HO := hide (blockOk_any b hb4)
      go_wp2_with (first | (refine wpList_index_big rfl 75 _ _ rfl (fsC bs).toArray _ (k : Int) rfl rfl 73 4 21 _ Try.underlying75 Try.underlying73 rfl (by kernel_rfl) hlo hlt (unhide HE) ?_) | (refine wpList_alloc_big rfl 73 rfl (bkC zBk).toArray zero_bk ?_) | (refine wpList_store_new rfl 73 _ _ rfl wr (bkC zBk).toArray (bkC b).toArray rfl rfl rfl (size_bk hb4) (same_bk hb4) (one_bk b) ?_) | (refine wpList_load_mid rfl 73 _ rfl wr.heap.size 0 rfl (bkC b) _ rb Try.underlying73 rfl (size_bkl hb4) ?_))
      refine (unhide HO _).mono ?_
      rintro e w2 ⟨rfl, b2⟩
      have B2 : Below w1.heap.size w1 w2 := (bw.alloc hsz _).trans (b2.mono (by simp; omega))
      clear rb b2
      cases hbk : bkB b
      · have HN := hide (unhide HB hbk)
        go_wp2
        go_ret
        exact ⟨by rw [unhide HN]; rfl, b0.trans (B2.mono (by omega))⟩
      · have HBB := hide hbk
        clear hbk
        go_wp2
        go_roundw
        case rel =>
          refine ⟨k + 1, by omega, by first | rfl | go_num, fun j hj h => ?_, B2⟩
          by_cases e : j = k
          · subst e; rw [unhide HBK]; exact unhide HBB
          · exact hnd.out j hj (by omega)
        case measure => simp [intOf]; omega
end Go.Proofs.Ytkikeapfjpnkgaa.ImplF
