/-
  Texts that belong together, one behind the other: ImplF, ImplS, Own, ImplT, ImplU.
-/
import Derived.Test.YtbiokmojjneleaaGreatHaA
import Derived.Deep.RegionHeld3
import Derived.Deep.DrawnRows

/-
  The program's functions on the four blocks as it keeps them, for every four blocks of four pages: whether no two records have one number, whether there is a record of a number, whether the blocks are ok.
-/
namespace Go.Proofs.YtbiokmojjneleaaGreat.ImplF
open Go.ChangeShapes Go.WideShapes Go.ChangeAt Go.RowKit OkA Big Fl ImplB
set_option linter.unusedVariables false
set_option linter.unusedSimpArgs false

def zPg : Pg := ⟨0, 0, 0, 0, 0⟩
def zBk : Bk := ⟨[zPg, zPg, zPg, zPg], 0⟩
def zFs : List Bk := [zBk, zBk, zBk, zBk]
theorem zero_bk : (Tryz.prog.info? 71).bind (·.zero) = some (.agg (bkC zBk).toArray) := by kernel_rfl
theorem zero_fs : (Tryz.prog.info? 73).bind (·.zero) = some (.agg (fsC zFs).toArray) := by kernel_rfl
def seenZ : List Value := List.replicate 601 (.bool false)
theorem zero_seen : (Tryz.prog.info? 173).bind (·.zero) = some (.agg seenZ.toArray) := by kernel_rfl
theorem len_seenZ : seenZ.length = 601 := List.length_replicate
theorem size_bk {b : Bk} (h4 : b.ps.length = 4) : (Tryz.prog.info? 71).map (·.size) = some (bkC b).toArray.size := by
  rw [List.size_toArray, len_bkC b h4]; kernel_rfl
theorem size_bkl {b : Bk} (h4 : b.ps.length = 4) : (Tryz.prog.info? 71).map (·.size) = some (bkC b).length := by
  rw [len_bkC b h4]; kernel_rfl
theorem size_fsl {bs : List Bk} (h : Fours bs) (h4 : bs.length = 4) : (Tryz.prog.info? 73).map (·.size) = some (fsC bs).length := by
  rw [len_fsC bs h, h4]; kernel_rfl
theorem size_psl {ps : List Pg} (h4 : ps.length = 4) : (Tryz.prog.info? 67).map (·.size) = some (psC ps).length := by
  rw [len_psC, h4]; kernel_rfl
theorem same_bk {b : Bk} (h4 : b.ps.length = 4) : (bkC zBk).toArray.size = (bkC b).toArray.size := by
  rw [List.size_toArray, List.size_toArray, len_bkC b h4]; rfl
theorem one_bk (b : Bk) : (bkC b).toArray.all (·.oneCell') = true := all_oneCell_toArray (one_bkC b)
theorem one_fs (bs : List Bk) : (fsC bs).toArray.all (·.oneCell') = true := all_oneCell_toArray (one_fsC bs)
theorem ext_fs {bs : List Bk} (h : Fours bs) (k : Nat) (hk : k < bs.length) : (fsC bs).toArray.extract ((k : Int).toNat * 21) ((k : Int).toNat * 21 + 21) = (bkC bs[k]).toArray := by
  rw [Int.toNat_natCast]; exact extract_of _ _ _ _ (part_fs bs h k hk)
theorem ext_ps (ps : List Pg) (k : Nat) (hk : k < ps.length) : (psC ps).toArray.extract ((k : Int).toNat * 5) ((k : Int).toNat * 5 + 5) = #[.int .i64 (ps[k]).st, .int .i64 (ps[k]).k, .int .i64 (ps[k]).s, .int .i64 (ps[k]).a, .int .i64 (ps[k]).v] := by
  rw [Int.toNat_natCast]; exact extract_of _ _ _ _ (part_ps ps k hk)

/-! Numbers. -/
theorem seqs_take (bs : List Bk) (k : Nat) (hk : k < bs.length) : seqs (bs.take (k + 1)) = seqs (bs.take k) ++ seqsP bs[k].ps := by
  rw [List.take_succ_eq_append_getElem hk]; simp only [seqs, List.flatMap_append, List.flatMap_cons, List.flatMap_nil, List.append_nil]
theorem seqsP_take (ps : List Pg) (k : Nat) (hk : k < ps.length) : seqsP (ps.take (k + 1)) = seqsP (ps.take k) ++ (seqP ps[k]).toList := by
  rw [List.take_succ_eq_append_getElem hk]
  simp only [seqsP, List.filterMap_append, List.filterMap_cons, List.filterMap_nil]
  cases seqP ps[k] <;> rfl
theorem seqs_split (bs : List Bk) (k : Nat) (hk : k < bs.length) (j : Nat) : seqs bs = (seqs (bs.take k) ++ seqsP (bs[k].ps.take j)) ++ (seqsP (bs[k].ps.drop j) ++ seqs (bs.drop (k + 1))) := by
  have e : bs = bs.take k ++ (bs[k] :: bs.drop (k + 1)) := by rw [← List.drop_eq_getElem_cons hk]; exact (List.take_append_drop k bs).symm
  have e2 : seqsP bs[k].ps = seqsP (bs[k].ps.take j) ++ seqsP (bs[k].ps.drop j) := by
    rw [seqsP, seqsP, seqsP, ← List.filterMap_append, List.take_append_drop]
  have e3 : seqs bs = seqs (bs.take k ++ (bs[k] :: bs.drop (k + 1))) := by rw [← e]
  rw [e3]
  simp only [seqs, List.flatMap_append, List.flatMap_cons, List.append_assoc]
  rw [e2]
  simp [List.append_assoc]
theorem seqP_w {p : Pg} (h : p.st = 1) : seqP p = some p.s := by simp [seqP, h]
theorem seqP_n {p : Pg} (h : ¬ p.st = 1) : seqP p = none := by simp [seqP, h]
theorem drop_w (ps : List Pg) (k : Nat) (hk : k < ps.length) (h : ps[k].st = 1) : seqsP (ps.drop k) = ps[k].s :: seqsP (ps.drop (k + 1)) := by
  rw [List.drop_eq_getElem_cons hk, seqsP, List.filterMap_cons, seqP_w h]; rfl

/-- Which numbers were met. -/
structure Seen (w : World) (sb : Nat) (l : List Int) : Prop where
  cell : ∀ i : Nat, i ≤ 600 → w.cell? ⟨sb, i, none⟩ = some (.bool (l.contains (i : Int)))
  froz : ∀ i : Nat, i ≤ 600 → w.frozen? ⟨sb, i, none⟩ = false
theorem Seen.new (w : World) (T : TypeId) : Seen (w.alloc (.cells seenZ.toArray T)) w.heap.size [] :=
  ⟨fun i hi => by rw [World.cell?_alloc_at _ _ _ _ rfl, List.getElem?_toArray, seenZ, List.getElem?_replicate, if_pos (by omega)]; rfl, fun i hi => by simp⟩
theorem Seen.below {w w' : World} {B sb : Nat} {l : List Int} (h : Seen w sb l) (hb : Below B w w') (hlt : sb < B) : Seen w' sb l :=
  ⟨fun i hi => by rw [hb.cell (p := ⟨sb, i, none⟩) hlt]; exact h.cell i hi, fun i hi => by rw [hb.frozen (p := ⟨sb, i, none⟩) hlt]; exact h.froz i hi⟩
theorem Seen.put {w : World} {sb : Nat} {l : List Int} (h : Seen w sb l) (s : Int) (h0 : 0 ≤ s) (h1 : s ≤ 600) : Seen (w.setCell ⟨sb, s.toNat, none⟩ (.bool true)) sb (l ++ [s]) := by
  refine ⟨fun i hi => ?_, fun i hi => by rw [World.frozen?_setCell]; exact h.froz i hi⟩
  by_cases e : s.toNat = i
  · subst e
    rw [World.cell?_setCell_same _ _ _ (h.cell _ hi)]
    have : ((s.toNat : Nat) : Int) = s := by omega
    rw [this]; simp
  · rw [World.cell?_setCell_other _ _ _ _ (by simp [e]), h.cell i hi]
    have : ¬ ((i : Int) = s) := by omega
    simp [this]

set_option maxHeartbeats 1000000 in
theorem differ_any (bs : List Bk) (h4 : bs.length = 4) (hF : Fours bs) (hok : ∀ b ∈ bs, b.ps.all pgB = true) (w : World) :
    Calls Tryz.prog 131 #[.agg (fsC bs).toArray] w fun e w' => e = .returned (.bool (nodB (seqs bs))) ∧ Below w.heap.size w w' := by
  have r0 := rangeAt_new w (fsC bs) 73
  have r1 := World.rangeAt_alloc r0 (.cells seenZ.toArray 173)
  have sn := Seen.new (w.alloc (.cells (fsC bs).toArray 73)) 173
  have b0 : Below w.heap.size w ((w.alloc (.cells (fsC bs).toArray 73)).alloc (.cells seenZ.toArray 173)) := ((Below.refl _ _).alloc (Nat.le_refl _) _).alloc (by simp) _
  go_enter Tryz.func131, Tryz.ntmps131
  go_wp2_with (first | (refine wpList_box_big rfl _ _ rfl (fsC bs).toArray rfl ?_) | (refine wpList_alloc_big rfl 173 rfl seenZ.toArray zero_seen ?_) | (refine wpList_load_mid rfl 73 _ rfl w.heap.size 0 rfl (fsC bs) _ r1 Tryz.underlying73 rfl (size_fsl hF h4) ?_))
  clear r0 r1
  simp only [World.size_alloc] at sn
  generalize hw1 : (w.alloc (.cells (fsC bs).toArray 73)).alloc (.cells seenZ.toArray 173) = w1 at *
  have s1 : w.heap.size + 1 < w1.heap.size := by rw [← hw1]; simp
  clear hw1
  go_loopw [9] (fun i w' => ∃ k : Nat, k ≤ 4 ∧ i = .int .i64 k ∧ Hid (seqs (bs.take k)).Nodup ∧ Seen w' (w.heap.size + 1) (seqs (bs.take k)) ∧ Below (w.heap.size + 1) w1 w') (fun i _ => 4 - (intOf i).toNat)
  case atStart => exact ⟨0, by omega, rfl, by simp [Hid, seqs], by simpa [seqs] using sn, Below.refl _ _⟩
  case round =>
    obtain ⟨k, hk, rfl, hnd, sk, bw⟩ := hrel
    have hsz := bw.size
    clear sn
    by_cases h0 : k = 4
    · subst h0
      have HN := hide ((nodB_iff (seqs bs)).2 (by have := hnd.out; rwa [List.take_of_length_le (by omega)] at this))
      go_wp2
      go_ret
      exact ⟨by rw [unhide HN]; rfl, b0.trans (bw.mono (by omega))⟩
    · have hlt : (k : Int) < 4 := by omega
      have hkb : k < bs.length := by omega
      have hlo : (0 : Int) ≤ (k : Int) := by omega
      have hex := ext_fs hF k hkb
      have hb4 : bs[k].ps.length = 4 := hF.at k hkb
      have hall := hok _ (List.getElem_mem hkb)
      have hsp := seqs_split bs k hkb
      have hst := seqs_take bs k hkb
      have HE := hide hex
      have HSP := hide hsp
      have HST := hide hst
      have HAL := hide hall
      clear hex hsp hst hall
      generalize bs[k] = b at *
      have rb := range_bk (rangeAt_new wr (bkC b) 71)
      go_wp2_with (first | (refine wpList_index_big rfl 73 _ _ rfl (fsC bs).toArray _ (k : Int) rfl rfl 71 4 21 _ Tryz.underlying73 Tryz.underlying71 rfl (by kernel_rfl) hlo hlt (unhide HE) ?_) | (refine wpList_alloc_big rfl 71 rfl (bkC zBk).toArray zero_bk ?_) | (refine wpList_store_new rfl 71 _ _ rfl wr (bkC zBk).toArray (bkC b).toArray rfl rfl rfl (size_bk hb4) (same_bk hb4) (one_bk b) ?_) | (refine wpList_load_mid rfl 67 _ rfl wr.heap.size 0 rfl (psC b.ps) _ rb Tryz.underlying67 rfl (size_psl hb4) ?_))
      have b2 : Below (w.heap.size + 1) wr (wr.alloc (.cells (bkC b).toArray 71)) := (Below.refl _ _).alloc (by omega) _
      have b3 : Below wr.heap.size wr (wr.alloc (.cells (bkC b).toArray 71)) := (Below.refl _ _).alloc (by omega) _
      have sk2 := sk.below b3 (by omega)
      have bw2 := bw.trans b2
      have hz2 : wr.heap.size < (wr.alloc (.cells (bkC b).toArray 71)).heap.size := by simp
      clear rb b2 b3 sk bw
      generalize wr.alloc (.cells (bkC b).toArray 71) = w2 at *
      go_loopw [15] (fun i w' => ∃ j : Nat, j ≤ 4 ∧ i = .int .i64 j ∧ Hid (seqs (bs.take k) ++ seqsP (b.ps.take j)).Nodup ∧ Seen w' (w.heap.size + 1) (seqs (bs.take k) ++ seqsP (b.ps.take j)) ∧ Below (w.heap.size + 1) w1 w') (fun i _ => 4 - (intOf i).toNat)
      case atStart => exact ⟨0, by omega, rfl, by simpa [seqsP] using hnd, by simpa [seqsP] using sk2, bw2⟩
      case round =>
        obtain ⟨j, hj, rfl, hnj, sj, bj⟩ := hrel
        have hsj := bj.size
        clear sk2 bw2 hnd
        by_cases h0 : j = 4
        · subst h0
          go_wp2
          go_roundw
          case rel =>
            refine ⟨k + 1, by omega, by first | rfl | go_num, ?_, ?_, bj⟩
            · rw [unhide HST]; have := hnj.out; rwa [List.take_of_length_le (l := b.ps) (by omega)] at this
            · rw [unhide HST]; rwa [List.take_of_length_le (l := b.ps) (by omega)] at sj
          case measure => simp [intOf]; omega
        · have hjt : (j : Int) < 4 := by omega
          have hjb : j < b.ps.length := by omega
          have hjo : (0 : Int) ≤ (j : Int) := by omega
          have hey := ext_ps b.ps j hjb
          have hpg : pgB b.ps[j] = true := List.all_eq_true.1 (unhide HAL) _ (List.getElem_mem hjb)
          have hsq := seqsP_take b.ps j hjb
          have hdw := drop_w b.ps j hjb
          have HEY := hide hey
          have HSQ := hide hsq
          have HDW := hide hdw
          have HPG := hide hpg
          clear hey hsq hdw hpg
          generalize b.ps[j] = p at *
          by_cases hp1 : p.st = 1
          · have hr : 1 ≤ p.s ∧ p.s ≤ 600 := by
              have := unhide HPG
              simp [pgB, hp1, recB, numB, inB] at this
              omega
            obtain ⟨hr1, hr2⟩ := hr
            have hp1' : (p.st != 1) = false := by simpa using hp1
            have hp1h := hide hp1
            have cs := sj.cell p.s.toNat (by omega)
            have fs := sj.froz p.s.toNat (by omega)
            have ec : ((p.s.toNat : Nat) : Int) = p.s := by omega
            rw [ec] at cs
            have hl0 : (0 : Int) ≤ p.s := by omega
            have hl1 : p.s < 601 := by omega
            have sjt := sj
            have hl2 : w.heap.size + 1 < wr.heap.size := by omega
            clear sj hp1 ec
            cases hcn : (seqs (bs.take k) ++ seqsP (b.ps.take j)).contains p.s
            · rw [hcn] at cs
              have HCN := hide hcn
              clear hcn
              go_wp2_with (first | (refine wpList_index_big rfl 67 _ _ rfl (psC b.ps).toArray _ (j : Int) rfl rfl 66 4 5 _ Tryz.underlying67 Tryz.underlying66 rfl (by kernel_rfl) hjo hjt (unhide HEY) ?_))
              go_roundw
              case rel =>
                have e : seqsP (b.ps.take (j + 1)) = seqsP (b.ps.take j) ++ [p.s] := by rw [unhide HSQ, seqP_w (unhide hp1h)]; rfl
                refine ⟨j + 1, by omega, by first | rfl | go_num, ?_, ?_, (bj.setCell (Nat.le_refl _) _).alloc (by simp; omega) _⟩
                · rw [e, ← List.append_assoc]
                  have hm : p.s ∉ seqs (bs.take k) ++ seqsP (b.ps.take j) := by simpa using unhide HCN
                  exact List.nodup_append.2 ⟨hnj.out, by simp, fun x hx y hy => by simp at hy; subst hy; intro q; subst q; exact hm hx⟩
                · rw [e, ← List.append_assoc]
                  exact (sjt.put p.s hl0 hr2).below ((Below.refl wr.heap.size _).alloc (by simp) _) (by omega)
              case measure => simp [intOf]; omega
            · rw [hcn] at cs
              have HCN := hide hcn
              clear hcn
              go_wp2_with (first | (refine wpList_index_big rfl 67 _ _ rfl (psC b.ps).toArray _ (j : Int) rfl rfl 66 4 5 _ Tryz.underlying67 Tryz.underlying66 rfl (by kernel_rfl) hjo hjt (unhide HEY) ?_))
              have HN := hide (show nodB (seqs bs) = false from by
                cases h : nodB (seqs bs)
                · rfl
                · exfalso
                  have hn := (nodB_iff _).1 h
                  rw [unhide HSP j, unhide HDW (unhide hp1h)] at hn
                  have hm : p.s ∈ seqs (bs.take k) ++ seqsP (b.ps.take j) := by simpa using unhide HCN
                  exact (List.nodup_append.1 hn).2.2 p.s hm p.s (by simp) rfl)
              go_ret
              exact ⟨by rw [unhide HN]; rfl, b0.trans ((bj.alloc (by omega) _).mono (by omega))⟩
          · have hp1' : (p.st != 1) = true := by simpa using hp1
            have hp1h := hide hp1
            clear hp1
            go_wp2_with (first | (refine wpList_index_big rfl 67 _ _ rfl (psC b.ps).toArray _ (j : Int) rfl rfl 66 4 5 _ Tryz.underlying67 Tryz.underlying66 rfl (by kernel_rfl) hjo hjt (unhide HEY) ?_))
            go_roundw
            case rel =>
              have e : seqsP (b.ps.take (j + 1)) = seqsP (b.ps.take j) := by rw [unhide HSQ, seqP_n (unhide hp1h)]; simp
              refine ⟨j + 1, by omega, by first | rfl | go_num, by rw [e]; exact hnj, ?_, bj.alloc (by omega) _⟩
              rw [e]
              exact sj.below ((Below.refl wr.heap.size wr).alloc (Nat.le_refl _) _) (by omega)
            case measure => simp [intOf]; omega
theorem mem_seqs_iff (bs : List Bk) (q : Int) : q ∈ seqs bs ↔ ∃ k, ∃ hk : k < bs.length, ∃ j, ∃ hj : j < bs[k].ps.length, bs[k].ps[j].st = 1 ∧ bs[k].ps[j].s = q := by
  simp only [seqs, List.mem_flatMap, seqsP, List.mem_filterMap]
  constructor
  · rintro ⟨b, hb, p, hp, h⟩
    obtain ⟨k, hk, rfl⟩ := List.getElem_of_mem hb
    obtain ⟨j, hj, rfl⟩ := List.getElem_of_mem hp
    refine ⟨k, hk, j, hj, ?_⟩
    unfold seqP at h
    split at h
    · exact ⟨by assumption, by simpa using h⟩
    · cases h
  · rintro ⟨k, hk, j, hj, h1, h2⟩
    exact ⟨_, List.getElem_mem hk, _, List.getElem_mem hj, by rw [seqP_w h1, h2]⟩

set_option maxHeartbeats 1000000 in
theorem has_any (bs : List Bk) (q : Int) (h4 : bs.length = 4) (hF : Fours bs) (w : World) :
    Calls Tryz.prog 153 #[.agg (fsC bs).toArray, .int .i64 q] w fun e w' => e = .returned (.bool ((seqs bs).contains q)) ∧ Below w.heap.size w w' := by
  have r0 := rangeAt_new w (fsC bs) 73
  have b0 : Below w.heap.size w (w.alloc (.cells (fsC bs).toArray 73)) := (Below.refl _ _).alloc (Nat.le_refl _) _
  go_enter Tryz.func153, Tryz.ntmps153
  go_wp2_with (first | (refine wpList_box_big rfl _ _ rfl (fsC bs).toArray rfl ?_) | (refine wpList_load_mid rfl 73 _ rfl w.heap.size 0 rfl (fsC bs) _ r0 Tryz.underlying73 rfl (size_fsl hF h4) ?_))
  clear r0
  generalize hw1 : w.alloc (.cells (fsC bs).toArray 73) = w1 at *
  have s1 : w.heap.size < w1.heap.size := by rw [← hw1]; simp
  clear hw1
  go_loopw [10] (fun i w' => ∃ k : Nat, k ≤ 4 ∧ i = .int .i64 k ∧ Hid (q ∉ seqs (bs.take k)) ∧ Below w1.heap.size w1 w') (fun i _ => 4 - (intOf i).toNat)
  case atStart => exact ⟨0, by omega, rfl, by simp [Hid, seqs], Below.refl _ _⟩
  case round =>
    obtain ⟨k, hk, rfl, hnd, bw⟩ := hrel
    have hsz := bw.size
    by_cases h0 : k = 4
    · subst h0
      have HN := hide (show (seqs bs).contains q = false by have := hnd.out; rw [List.take_of_length_le (by omega)] at this; simpa using this)
      go_wp2
      go_ret
      exact ⟨by rw [unhide HN]; rfl, b0.trans (bw.mono (by omega))⟩
    · have hlt : (k : Int) < 4 := by omega
      have hkb : k < bs.length := by omega
      have hlo : (0 : Int) ≤ (k : Int) := by omega
      have hex := ext_fs hF k hkb
      have hb4 : bs[k].ps.length = 4 := hF.at k hkb
      have hsp := seqs_split bs k hkb
      have hst := seqs_take bs k hkb
      have HE := hide hex
      have HSP := hide hsp
      have HST := hide hst
      clear hex hsp hst
      generalize bs[k] = b at *
      have rb := range_bk (rangeAt_new wr (bkC b) 71)
      go_wp2_with (first | (refine wpList_index_big rfl 73 _ _ rfl (fsC bs).toArray _ (k : Int) rfl rfl 71 4 21 _ Tryz.underlying73 Tryz.underlying71 rfl (by kernel_rfl) hlo hlt (unhide HE) ?_) | (refine wpList_alloc_big rfl 71 rfl (bkC zBk).toArray zero_bk ?_) | (refine wpList_store_new rfl 71 _ _ rfl wr (bkC zBk).toArray (bkC b).toArray rfl rfl rfl (size_bk hb4) (same_bk hb4) (one_bk b) ?_) | (refine wpList_load_mid rfl 67 _ rfl wr.heap.size 0 rfl (psC b.ps) _ rb Tryz.underlying67 rfl (size_psl hb4) ?_))
      have bw2 := bw.alloc hsz (.cells (bkC b).toArray 71)
      clear rb bw
      generalize wr.alloc (.cells (bkC b).toArray 71) = w2 at *
      go_loopw [16] (fun i w' => ∃ j : Nat, j ≤ 4 ∧ i = .int .i64 j ∧ Hid (q ∉ seqsP (b.ps.take j)) ∧ Below w1.heap.size w1 w') (fun i _ => 4 - (intOf i).toNat)
      case atStart => exact ⟨0, by omega, rfl, by simp [Hid, seqsP], bw2⟩
      case round =>
        obtain ⟨j, hj, rfl, hnj, bj⟩ := hrel
        have hsj := bj.size
        clear bw2
        by_cases h0 : j = 4
        · subst h0
          go_wp2
          go_roundw
          case rel =>
            refine ⟨k + 1, by omega, by first | rfl | go_num, ?_, bj⟩
            show q ∉ _
            rw [unhide HST]; have := hnj.out; rw [List.take_of_length_le (l := b.ps) (by omega)] at this
            have h2 := hnd.out
            simp only [List.mem_append]; exact fun h => h.elim h2 this
          case measure => simp [intOf]; omega
        · have hjt : (j : Int) < 4 := by omega
          have hjb : j < b.ps.length := by omega
          have hjo : (0 : Int) ≤ (j : Int) := by omega
          have hey := ext_ps b.ps j hjb
          have hsq := seqsP_take b.ps j hjb
          have hdw := drop_w b.ps j hjb
          have HEY := hide hey
          have HSQ := hide hsq
          have HDW := hide hdw
          clear hey hsq hdw
          generalize b.ps[j] = p at *
          by_cases hp1 : p.st = 1
          · by_cases hpq : p.s = q
            · have g1 : (p.st == 1) = true := by simpa using hp1
              have g2 : (p.s == q) = true := by simpa using hpq
              have hp1h := hide hp1
              have hpqh := hide hpq
              clear hp1 hpq
              go_wp2_with (first | (refine wpList_index_big rfl 67 _ _ rfl (psC b.ps).toArray _ (j : Int) rfl rfl 66 4 5 _ Tryz.underlying67 Tryz.underlying66 rfl (by kernel_rfl) hjo hjt (unhide HEY) ?_))
              have HN := hide (show (seqs bs).contains q = true from by
                rw [unhide HSP j, unhide HDW (unhide hp1h), unhide hpqh]
                simp)
              go_ret
              exact ⟨by rw [unhide HN]; rfl, b0.trans ((bj.alloc (by omega) _).mono (by omega))⟩
            · have g1 : (p.st == 1) = true := by simpa using hp1
              have g2 : (p.s == q) = false := by simpa using hpq
              have hp1h := hide hp1
              have hpqh := hide hpq
              clear hp1 hpq
              go_wp2_with (first | (refine wpList_index_big rfl 67 _ _ rfl (psC b.ps).toArray _ (j : Int) rfl rfl 66 4 5 _ Tryz.underlying67 Tryz.underlying66 rfl (by kernel_rfl) hjo hjt (unhide HEY) ?_))
              go_roundw
              case rel =>
                have e : seqsP (b.ps.take (j + 1)) = seqsP (b.ps.take j) ++ [p.s] := by rw [unhide HSQ, seqP_w (unhide hp1h)]; rfl
                refine ⟨j + 1, by omega, by first | rfl | go_num, ?_, bj.alloc (by omega) _⟩
                show q ∉ _
                rw [e]
                have h2 := hnj.out
                have h3 := unhide hpqh
                simp only [List.mem_append, List.mem_singleton]
                exact fun h => h.elim h2 (fun h => h3 h.symm)
              case measure => simp [intOf]; omega
          · have hp1' : (p.st == 1) = false := by simpa using hp1
            have hp1h := hide hp1
            clear hp1
            go_wp2_with (first | (refine wpList_index_big rfl 67 _ _ rfl (psC b.ps).toArray _ (j : Int) rfl rfl 66 4 5 _ Tryz.underlying67 Tryz.underlying66 rfl (by kernel_rfl) hjo hjt (unhide HEY) ?_))
            go_roundw
            case rel =>
              have e : seqsP (b.ps.take (j + 1)) = seqsP (b.ps.take j) := by rw [unhide HSQ, seqP_n (unhide hp1h)]; simp
              exact ⟨j + 1, by omega, by first | rfl | go_num, by rw [e]; exact hnj, bj.alloc (by omega) _⟩
            case measure => simp [intOf]; omega

theorem okB_eq (bs : List Bk) (h4 : bs.length = 4) (h : ∀ b ∈ bs, bkB b = true) : okB bs = nodB (seqs bs) := by
  have : bs.all bkB = true := List.all_eq_true.2 h
  simp [okB, h4, this]
theorem okB_bad (bs : List Bk) (k : Nat) (hk : k < bs.length) (h : bkB bs[k] = false) : okB bs = false := by
  cases ho : okB bs
  · rfl
  · simp only [okB, Bool.and_eq_true, List.all_eq_true] at ho
    rw [ho.1.2 _ (List.getElem_mem hk)] at h; cases h
theorem bkB_pages {b : Bk} (h : bkB b = true) : b.ps.all pgB = true := by
  simp only [bkB, Bool.and_eq_true] at h; exact h.1.2

set_option maxHeartbeats 1000000 in
theorem keptOk_any (bs : List Bk) (h4 : bs.length = 4) (hF : Fours bs) (w : World) :
    Calls Tryz.prog 103 #[.agg (fsC bs).toArray] w fun e w' => e = .returned (.bool (okB bs)) ∧ Below w.heap.size w w' := by
  have r0 := rangeAt_new w (fsC bs) 73
  have b0 : Below w.heap.size w (w.alloc (.cells (fsC bs).toArray 73)) := (Below.refl _ _).alloc (Nat.le_refl _) _
  go_enter Tryz.func103, Tryz.ntmps103
  go_wp2_with (first | (refine wpList_box_big rfl _ _ rfl (fsC bs).toArray rfl ?_) | (refine wpList_load_mid rfl 73 _ rfl w.heap.size 0 rfl (fsC bs) _ r0 Tryz.underlying73 rfl (size_fsl hF h4) ?_))
  generalize hw1 : w.alloc (.cells (fsC bs).toArray 73) = w1 at *
  have s1 : w.heap.size < w1.heap.size := by rw [← hw1]; simp
  clear hw1
  go_loopw [6] (fun i w' => ∃ k : Nat, k ≤ 4 ∧ i = .int .i64 k ∧ Hid (∀ j (hj : j < bs.length), j < k → bkB bs[j] = true) ∧ Below w1.heap.size w1 w') (fun i _ => 4 - (intOf i).toNat)
  case atStart => exact ⟨0, by omega, rfl, fun j hj h => by omega, Below.refl _ _⟩
  case round =>
    obtain ⟨k, hk, rfl, hnd, bw⟩ := hrel
    have hsz := bw.size
    by_cases h0 : k = 4
    · subst h0
      have hall : ∀ b ∈ bs, bkB b = true := fun b hb => by
        obtain ⟨j, hj, rfl⟩ := List.getElem_of_mem hb
        exact hnd.out j hj (by omega)
      have HN := hide (okB_eq bs h4 hall)
      have r1 := rangeAt_below r0 bw s1
      have HC := hide (differ_any bs h4 hF (fun b hb => bkB_pages (hall b hb)))
      clear r0 hall
      go_wp2_with (first | (refine wpList_load_mid rfl 73 _ rfl w.heap.size 0 rfl (fsC bs) _ r1 Tryz.underlying73 rfl (size_fsl hF h4) ?_))
      refine (unhide HC _).mono ?_
      rintro e w2 ⟨rfl, b2⟩
      clear r1
      go_wp2
      go_ret
      exact ⟨by rw [unhide HN]; rfl, b0.trans ((bw.mono (by omega)).trans (b2.mono (by omega)))⟩
    · have hlt : (k : Int) < 4 := by omega
      have hkb : k < bs.length := by omega
      have hlo : (0 : Int) ≤ (k : Int) := by omega
      have hex := ext_fs hF k hkb
      have hb4 : bs[k].ps.length = 4 := hF.at k hkb
      have HE := hide hex
      have HB := hide (okB_bad bs k hkb)
      clear hex r0
      generalize hbk : bs[k] = b at *
      have HBK := hide hbk
      clear hbk
      have rb := rangeAt_new wr (bkC b) 71
      have HO := hide (blockOk_any b hb4)
      go_wp2_with (first | (refine wpList_index_big rfl 73 _ _ rfl (fsC bs).toArray _ (k : Int) rfl rfl 71 4 21 _ Tryz.underlying73 Tryz.underlying71 rfl (by kernel_rfl) hlo hlt (unhide HE) ?_) | (refine wpList_alloc_big rfl 71 rfl (bkC zBk).toArray zero_bk ?_) | (refine wpList_store_new rfl 71 _ _ rfl wr (bkC zBk).toArray (bkC b).toArray rfl rfl rfl (size_bk hb4) (same_bk hb4) (one_bk b) ?_) | (refine wpList_load_mid rfl 71 _ rfl wr.heap.size 0 rfl (bkC b) _ rb Tryz.underlying71 rfl (size_bkl hb4) ?_))
      refine (unhide HO _).mono ?_
      rintro e w2 ⟨rfl, b2⟩
      have B2 : Below w1.heap.size w1 w2 := (bw.alloc hsz _).trans (b2.mono (by simp; omega))
      clear rb b2
      cases hbk : bkB b
      · have HN := hide (unhide HB hbk)
        go_wp2
        go_ret
        exact ⟨by rw [unhide HN]; rfl, b0.trans (B2.mono (by omega))⟩
      · have HBB := hide hbk
        clear hbk
        go_wp2
        go_roundw
        case rel =>
          refine ⟨k + 1, by omega, by first | rfl | go_num, fun j hj h => ?_, B2⟩
          by_cases e : j = k
          · subst e; rw [unhide HBK]; exact unhide HBB
          · exact hnd.out j hj (by omega)
        case measure => simp [intOf]; omega
end Go.Proofs.YtbiokmojjneleaaGreat.ImplF

/-
  The program's functions that bring blocks into the form in which it keeps them, and back into lists in new memory: for every list of blocks.
-/
namespace Go.Proofs.YtbiokmojjneleaaGreat.ImplS
open Go.ChangeShapes Go.WideShapes Go.ChangeAt Go.RowKit OkA Big Fl ImplB ImplF
set_option linter.unusedVariables false
set_option linter.unusedSimpArgs false
attribute [local go_sem ↓] Go.wp_at_zero Go.wp_at_succ

def zPs : List Pg := [zPg, zPg, zPg, zPg]
theorem zero_ps : (Tryz.prog.info? 69).bind (·.zero) = some (.agg (psC zPs).toArray) := by kernel_rfl
theorem size_row {ps : List Pg} (h4 : ps.length = 4) : (Tryz.prog.info? 69).map (·.size) = some (psC ps).length := by
  rw [len_psC, h4]; kernel_rfl
theorem size_rowa {ps : List Pg} (h4 : ps.length = 4) : (Tryz.prog.info? 69).map (·.size) = some (psC ps).toArray.size := by
  rw [List.size_toArray, len_psC, h4]; kernel_rfl
theorem one_ps (ps : List Pg) : (psC ps).toArray.all (·.oneCell') = true := all_oneCell_toArray (one_psC ps)
theorem made_ps : (Tryz.prog.info? 66).map (fun i => (i.zero, i.size, i.bytes)) = some (some (.agg (pgC zPg).toArray), 5, 40) := by kernel_rfl
theorem made4 : madeCells (Value.agg (pgC zPg).toArray).cells (4 * 5) = (psC zPs).toArray := by kernel_rfl

set_option maxHeartbeats 400000 in
theorem rowOf_no' (zs : List Pg) (h4 : zs.length = 4) (hz : (Tryz.prog.info? 69).bind (·.zero) = some (.agg (psC zs).toArray)) (a : Option Addr) (n cap : Nat) (w : World) (h : ((n : Int) != 4) = true) :
    Calls Tryz.prog 129 #[.slice a n cap] w fun e w' => e = .returned (.tuple #[.agg (psC zs).toArray, .bool false]) ∧ Below w.heap.size w w' := by
  have t0 := World.there_alloc (there_new w (psC zs) 69) (.cells (psC zs).toArray 69)
  have r0 := rangeAt_new (w.alloc (.cells (psC zs).toArray 69)) (psC zs) 69
  simp only [World.size_alloc] at r0
  have HZ := hide hz
  clear hz
  go_enter Tryz.func129, Tryz.ntmps129
  go_wp2_with (first | (refine wpList_alloc_big rfl 69 rfl (psC zs).toArray (unhide HZ) ?_) | (refine wpList_load_mid rfl 69 _ rfl (w.heap.size + 1) 0 rfl (psC zs) _ r0 Tryz.underlying69 rfl (size_row h4) ?_) | (refine wpList_store_mid rfl 69 _ _ rfl w.heap.size 0 (psC zs).toArray rfl rfl t0 (size_rowa h4) (one_ps zs) ?_))
  exact bodyPost_ret (res_cell_tmp Tryz.results129 _ _ w.heap.size (psC zs) _ rfl (World.rangeAt_setCells_same _ _ _ _ t0) Tryz.underlying69 rfl (size_row h4)) rfl ⟨rfl, below_setCells _ (Nat.le_refl _) _ _ _ (((Below.refl _ _).alloc (Nat.le_refl _) _).alloc (by simp) _)⟩
theorem rowOf_no (a : Option Addr) (n cap : Nat) (w : World) (h : ((n : Int) != 4) = true) :
    Calls Tryz.prog 129 #[.slice a n cap] w fun e w' => e = .returned (.tuple #[.agg (psC zPs).toArray, .bool false]) ∧ Below w.heap.size w w' := rowOf_no' zPs rfl zero_ps a n cap w h

set_option maxHeartbeats 400000 in
theorem rowOf_yes (b d cap : Nat) (ps : List Pg) (w : World) (h4 : ps.length = 4) (hr : w.rangeAt b d (psC ps)) :
    Calls Tryz.prog 129 #[.slice (some ⟨b, d, none⟩) 4 cap] w fun e w' => e = .returned (.tuple #[.agg (psC ps).toArray, .bool true]) ∧ Below w.heap.size w w' := by
  have t0 := World.there_alloc (there_new w (psC zPs) 69) (.cells (psC zPs).toArray 69)
  have t1 := there_new (w.alloc (.cells (psC zPs).toArray 69)) (psC zPs) 69
  have r1 := World.rangeAt_alloc (World.rangeAt_alloc hr (.cells (psC zPs).toArray 69)) (.cells (psC zPs).toArray 69)
  have hl : (psC ps).length = 4 * 5 := by rw [len_psC, h4]
  have hz : (psC zPs).length = (psC ps).length := by rw [hl]; rfl
  simp only [World.size_alloc] at t1
  rw [hz] at t0 t1
  have t2 := World.there_setCells t0 (w.heap.size + 1) 0 (psC ps)
  have r2 := World.rangeAt_setCells_same _ _ _ _ t1
  have t1' := t1
  rw [hl] at t1'
  go_enter Tryz.func129, Tryz.ntmps129
  go_wp2_with (first | (refine wpList_alloc_big rfl 69 rfl (psC zPs).toArray zero_ps ?_) | (refine wpList_load_mid rfl 69 _ rfl (w.heap.size + 1) 0 rfl (psC ps) _ r2 Tryz.underlying69 rfl (size_row h4) ?_) | (refine wpList_store_mid rfl 69 _ _ rfl w.heap.size 0 (psC ps).toArray rfl rfl t2 (size_rowa h4) (one_ps ps) ?_) | (refine wpList_copy_big rfl _ _ _ _ rfl 66 (w.heap.size + 1) 0 4 4 ⟨b, d, none⟩ cap 5 (psC ps) Tryz.underlying123 (by kernel_rfl) rfl rfl hl (src_mid r1) t1' (one_psC ps) ?_))
  exact bodyPost_ret (res_cell_tmp Tryz.results129 _ _ w.heap.size (psC ps) _ rfl (World.rangeAt_setCells_same _ _ _ _ t2) Tryz.underlying69 rfl (size_row h4)) rfl ⟨rfl, below_setCells _ (Nat.le_refl _) _ _ _ (below_setCells _ (by omega) _ _ _ (((Below.refl _ _).alloc (Nat.le_refl _) _).alloc (by simp) _))⟩

set_option maxHeartbeats 400000 in
theorem rowList_any (ps : List Pg) (h4 : ps.length = 4) (w : World) :
    Calls Tryz.prog 120 #[.agg (psC ps).toArray] w fun e w' => e = .returned (.slice (some ⟨w.heap.size + 1, 0, none⟩) 4 4) ∧ w'.rangeAt (w.heap.size + 1) 0 (psC ps) ∧ w'.there (w.heap.size + 1) 0 20 ∧ w'.heap.size = w.heap.size + 2 ∧ Below w.heap.size w w' := by
  have r1 := World.rangeAt_alloc (rangeAt_new w (psC ps) 69) (.cells (psC zPs).toArray 66)
  have t1 := there_new (w.alloc (.cells (psC ps).toArray 69)) (psC zPs) 66
  have hl : (psC ps).length = 4 * 5 := by rw [len_psC, h4]
  have hz : (psC zPs).length = 4 * 5 := rfl
  simp only [World.size_alloc] at t1
  rw [hz] at t1
  have t2 := t1
  rw [← hl] at t2
  have hm := made4
  have HM := hide hm
  clear hm
  go_enter Tryz.func120, Tryz.ntmps120
  go_wp2_with (first | (refine wpList_box_big rfl _ _ rfl (psC ps).toArray rfl ?_) | (refine wpList_make_big rfl 123 _ _ rfl 4 rfl rfl 66 5 40 _ Tryz.underlying123 made_ps (by omega) (by omega) ?_; rw [unhide HM]) | (refine wpList_copy_big rfl _ _ _ _ rfl 66 (w.heap.size + 1) 0 4 4 ⟨w.heap.size, 0, none⟩ 4 5 (psC ps) Tryz.underlying123 (by kernel_rfl) rfl rfl hl (src_mid r1) t1 (one_psC ps) ?_))
  go_ret
  exact ⟨rfl, World.rangeAt_setCells_same _ _ _ _ t2, World.there_setCells t1 _ _ _, by rw [size_setCells]; simp, below_setCells _ (by omega) _ _ _ (((Below.refl _ _).alloc (Nat.le_refl _) _).alloc (by simp) _)⟩
/-! Blocks in a row of cells. -/
theorem range_app {w : World} {b o : Nat} {l1 l2 : List Value} : w.rangeAt b o (l1 ++ l2) ↔ w.rangeAt b o l1 ∧ w.rangeAt b (o + l1.length) l2 := by
  constructor
  · intro h
    refine ⟨fun j v hv => h j v (by rw [List.getElem?_append_left (List.getElem?_eq_some_iff.1 hv).1]; exact hv), fun j v hv => ?_⟩
    rw [Nat.add_assoc]
    exact h (l1.length + j) v (by rw [List.getElem?_append_right (by omega)]; simpa using hv)
  · rintro ⟨h1, h2⟩ j v hv
    by_cases hj : j < l1.length
    · exact h1 j v (by rwa [List.getElem?_append_left hj] at hv)
    · rw [List.getElem?_append_right (by omega)] at hv
      have := h2 (j - l1.length) v hv
      rwa [show o + l1.length + (j - l1.length) = o + j by omega] at this
/-- A part of the same length laid over a part. -/
theorem range_set {α : Type} (f : α → List Value) (n : Nat) {w : World} {g o : Nat} {xs : List α} (hf : ∀ x ∈ xs, (f x).length = n) (k : Nat) (hk : k < xs.length) (y : α) (hy : (f y).length = n)
    (h : w.rangeAt g o (xs.flatMap f)) (ht : w.there g (o + k * n) n) : (w.setCells g (o + k * n) (f y)).rangeAt g o ((xs.set k y).flatMap f) := by
  have e : xs = xs.take k ++ (xs[k] :: xs.drop (k + 1)) := by rw [← List.drop_eq_getElem_cons hk]; exact (List.take_append_drop k xs).symm
  have e2 : xs.set k y = xs.take k ++ (y :: xs.drop (k + 1)) := by rw [List.set_eq_take_append_cons_drop, if_pos hk]
  have hl : ((xs.take k).flatMap f).length = k * n := by
    have : ∀ l : List α, (∀ x ∈ l, (f x).length = n) → (l.flatMap f).length = l.length * n := by
      intro l; induction l with
      | nil => simp
      | cons x r ih => intro hh; simp only [List.flatMap_cons, List.length_append, ih (fun z hz => hh z (by simp [hz])), hh x (by simp), List.length_cons, Nat.add_mul]; omega
    rw [this _ (fun x hx => hf x (List.mem_of_mem_take hx)), List.length_take, Nat.min_eq_left (by omega)]
  have h' : w.rangeAt g o ((xs.take k).flatMap f ++ (f xs[k] ++ (xs.drop (k + 1)).flatMap f)) := by
    have q := h
    rw [e] at q
    simpa only [List.flatMap_append, List.flatMap_cons] using q
  rw [e2]
  simp only [List.flatMap_append, List.flatMap_cons]
  rw [range_app, range_app, hl] at h' ⊢
  have hxk : (f xs[k]).length = n := hf _ (List.getElem_mem hk)
  refine ⟨World.rangeAt_setCells_apart h'.1 _ _ _ (by rw [hl]; omega), World.rangeAt_setCells_same _ _ _ _ (by rw [hy]; exact ht), ?_⟩
  have h3 := h'.2.2
  rw [hxk] at h3
  rw [hy]
  exact World.rangeAt_setCells_apart h3 g (o + k * n) (f y) (.inr (.inr (by rw [hy]; exact Nat.le_refl _)))

def shB (bs : List Bk) : Bool := bs.length == 4 && bs.all fun b => b.ps.length == 4
def placesOf (P : Program) : Option TypeDesc → Option (List (Nat × Nat))
  | some (.struct fs) => fs.toList.mapM (fun f => (P.info? f.type).map fun i => (f.offset, i.size))
  | _ => none
theorem places_bk' : placesOf Tryz.prog (Tryz.prog.underlying 71) = some [(0, 20), (20, 1)] := by kernel_rfl
theorem places_bk (fs : Array Field) (h : Tryz.prog.underlying 71 = some (.struct fs)) : fs.toList.mapM (fun f => (Tryz.prog.info? f.type).map fun i => (f.offset, i.size)) = some [(0, 20), (20, 1)] := by
  have e := places_bk'
  rw [h] at e
  exact e
theorem built_bk (ps : List Pg) (q : Int) (h4 : ps.length = 4) : Tryz.prog.built 71 [(0, .agg (psC ps).toArray), (1, .int .i64 q)] = some (bkC ⟨ps, q⟩).toArray := by
  have h : ∀ (place : Nat → Option (Nat × Nat)), place 0 = some (0, 20) → place 1 = some (20, 1) → Instr.fill place (bkC zBk).toArray [(0, .agg (psC ps).toArray), (1, .int .i64 q)] = some (bkC ⟨ps, q⟩).toArray := fun place p0 p1 =>
    fill_two (psC ps) q 20 (by rw [len_psC, h4]) _ rfl place p0 p1
  have hi : ∃ it, Tryz.prog.info? 71 = some it ∧ it.zero = some (.agg (bkC zBk).toArray) := by
    cases hq : Tryz.prog.info? 71 with
    | none => have := zero_bk; rw [hq] at this; cases this
    | some it => have := zero_bk; rw [hq] at this; exact ⟨it, rfl, this⟩
  obtain ⟨it, h1, h2⟩ := hi
  unfold Program.built
  rw [h1, Tryz.underlying71]
  have hp := places_bk _ Tryz.underlying71
  simp only [h2]
  rw [hp]
  exact h _ rfl rfl

def zsFrom (bs : List Bk) (k : Nat) : List Bk := bs.take k ++ zFs.drop k
theorem fours_z : Fours zFs := fun b hb => by simp [zFs] at hb; subst hb; rfl
theorem zsFrom_len {bs : List Bk} {k : Nat} (h4 : bs.length = 4) (hk : k ≤ 4) : (zsFrom bs k).length = 4 := by
  have : zFs.length = 4 := rfl
  simp [zsFrom, this, h4]; omega
theorem zsFrom_succ {bs : List Bk} {k : Nat} (h4 : bs.length = 4) (hk : k < 4) : (zsFrom bs k).set k (bs[k]'(by omega)) = zsFrom bs (k + 1) := by
  have hz : zFs.length = 4 := rfl
  have hl : (bs.take k).length = k := by simp; omega
  unfold zsFrom
  rw [List.set_append, if_neg (by omega), hl, Nat.sub_self, List.drop_eq_getElem_cons (by omega), List.set_cons_zero, List.take_succ_eq_append_getElem (by omega)]
  simp only [List.append_assoc, List.singleton_append]
theorem shB_t {bs : List Bk} (h4 : bs.length = 4) (h : Fours bs) : shB bs = true := by
  simp only [shB, h4, Bool.and_eq_true, List.all_eq_true, beq_iff_eq]; exact ⟨trivial, fun b hb => by simpa using h b hb⟩
theorem shB_n {bs : List Bk} (h : ¬ bs.length = 4) : shB bs = false := by simp [shB, h]
theorem shB_f {bs : List Bk} (k : Nat) (hk : k < bs.length) (h : ¬ bs[k].ps.length = 4) : shB bs = false := by
  cases hs : shB bs
  · rfl
  · simp only [shB, Bool.and_eq_true, List.all_eq_true, beq_iff_eq] at hs
    exact absurd (by simpa using hs.2 _ (List.getElem_mem hk)) h
theorem size_fsa {bs : List Bk} (h : Fours bs) (h4 : bs.length = 4) : (Tryz.prog.info? 73).map (·.size) = some (fsC bs).toArray.size := by
  rw [List.size_toArray, len_fsC bs h, h4]; kernel_rfl

set_option maxRecDepth 100000 in
set_option maxHeartbeats 1000000 in
theorem shaped_no (zs : List Bk) (hF : Fours zs) (h4 : zs.length = 4) (hz : (Tryz.prog.info? 73).bind (·.zero) = some (.agg (fsC zs).toArray)) (a : Option Addr) (n cap : Nat) (w : World) (h : ((n : Int) != 4) = true) :
    Calls Tryz.prog 102 #[.slice a n cap] w fun e w' => e = .returned (.tuple #[.agg (fsC zs).toArray, .bool false]) ∧ Below w.heap.size w w' := by
  have t0 := World.there_alloc (there_new w (fsC zs) 73) (.cells (fsC zs).toArray 73)
  have r0 := rangeAt_new (w.alloc (.cells (fsC zs).toArray 73)) (fsC zs) 73
  simp only [World.size_alloc] at r0
  have HZ := hide hz
  clear hz
  go_enter Tryz.func102, Tryz.ntmps102
  go_wp2_with (first | (refine wpList_alloc_big rfl 73 rfl (fsC zs).toArray (unhide HZ) ?_) | (refine wpList_load_mid rfl 73 _ rfl (w.heap.size + 1) 0 rfl (fsC zs) _ r0 Tryz.underlying73 rfl (size_fsl hF h4) ?_) | (refine wpList_store_mid rfl 73 _ _ rfl w.heap.size 0 (fsC zs).toArray rfl rfl t0 (size_fsa hF h4) (one_fs zs) ?_) | (refine bodyPost_ret (res_cell_tmp Tryz.results102 _ _ w.heap.size (fsC zs) _ rfl (World.rangeAt_setCells_same _ _ _ _ t0) Tryz.underlying73 rfl (size_fsl hF h4)) rfl (unhide ?_)))
  exact hide (below_setCells _ (Nat.le_refl _) _ _ _ (((Below.refl _ _).alloc (Nat.le_refl _) _).alloc (by simp) _))

/-- What comes back with a kept form: it is that of the blocks, where the answer is true. -/
def KeptPost (w : World) (bs : List Bk) (ok : Bool) (e : Ending) (w' : World) : Prop :=
  ∃ ks, e = .returned (.tuple #[.agg (fsC ks).toArray, .bool ok]) ∧ ks.length = 4 ∧ Fours ks ∧ (ok = true → ks = bs) ∧ Below w.heap.size w w'

set_option maxRecDepth 100000 in
set_option maxHeartbeats 1000000 in
theorem shaped_four (fb fo cap : Nat) (bs : List Bk) (w : World) (h4 : bs.length = 4) (hf : ∀ i (hi : i < bs.length), BkAt w fb (fo + i * 2) bs[i]) :
    Calls Tryz.prog 102 #[.slice (some ⟨fb, fo, none⟩) 4 cap] w fun e w' => KeptPost w bs (shB bs) e w' := by
  have z0 := zero_fs
  have Z0 := hide z0
  have lz : (fsC zFs).length = 84 := rfl
  have t0 := World.there_alloc (there_new w (fsC zFs) 73) (.cells (fsC zFs).toArray 73)
  have t1 := there_new (w.alloc (.cells (fsC zFs).toArray 73)) (fsC zFs) 73
  have r0 := rangeAt_new (w.alloc (.cells (fsC zFs).toArray 73)) (fsC zFs) 73
  have b0 : Below w.heap.size w ((w.alloc (.cells (fsC zFs).toArray 73)).alloc (.cells (fsC zFs).toArray 73)) := ((Below.refl _ _).alloc (Nat.le_refl _) _).alloc (by simp) _
  rw [lz] at t0 t1
  simp only [World.size_alloc] at r0 t1
  have e0 : zsFrom bs 0 = zFs := by simp [zsFrom]
  have E0 := hide e0
  clear z0 lz e0
  generalize hzf : (fsC zFs).toArray = zf at *
  clear hzf
  go_enter Tryz.func102, Tryz.ntmps102
  go_wp2_with (first | (refine wpList_alloc_big rfl 73 rfl zf (unhide Z0) ?_))
  generalize hw1 : (w.alloc (.cells zf 73)).alloc (.cells zf 73) = w1 at *
  have s1 : w.heap.size + 2 = w1.heap.size := by rw [← hw1]; simp
  clear hw1 Z0
  have S1 := hide s1
  have s2 : w.heap.size + 1 < w1.heap.size := by omega
  clear s1
  go_loopw [15] (fun i w' => ∃ k : Nat, k ≤ 4 ∧ i = .int .i64 k ∧ Hid (∀ j (hj : j < bs.length), j < k → bs[j].ps.length = 4) ∧ w'.rangeAt (w.heap.size + 1) 0 (fsC (zsFrom bs k)) ∧ w'.there w.heap.size 0 84 ∧ w'.there (w.heap.size + 1) 0 84 ∧ Below w.heap.size w w' ∧ w1.heap.size ≤ w'.heap.size) (fun i _ => 4 - (intOf i).toNat)
  case atStart => exact ⟨0, by omega, rfl, fun j hj h => by omega, by rw [unhide E0]; exact r0, t0, t1, b0, Nat.le_refl _⟩
  case round =>
    obtain ⟨k, hk, rfl, hnd, rk, ta, tb, bw, hsz⟩ := hrel
    clear r0 t0 t1 b0
    have hFk : Fours (zsFrom bs k) := fun b hb => by
      simp only [zsFrom, List.mem_append] at hb
      rcases hb with hb | hb
      · obtain ⟨j, hj, rfl⟩ := List.getElem_of_mem hb
        simp at hj
        rw [List.getElem_take]
        exact hnd.out j (by omega) (by omega)
      · exact fours_z b (List.mem_of_mem_drop hb)
    have hlk : (zsFrom bs k).length = 4 := zsFrom_len h4 hk
    have l84 : (fsC (zsFrom bs k)).length = 84 := by rw [len_fsC _ hFk, hlk]
    have ta' := ta
    rw [← l84] at ta'
    by_cases h0 : k = 4
    · subst h0
      have ez : zsFrom bs 4 = bs := by rw [zsFrom, List.take_of_length_le (by omega)]; simp [zFs]
      have hF : Fours bs := by rw [ez] at hFk; exact hFk
      have HT := hide (shB_t h4 hF)
      have EZ := hide ez
      clear ez
      go_wp2_with (first | (refine wpList_load_mid rfl 73 _ rfl (w.heap.size + 1) 0 rfl (fsC (zsFrom bs 4)) _ rk Tryz.underlying73 rfl (size_fsl hFk hlk) ?_) | (refine wpList_store_mid rfl 73 _ _ rfl w.heap.size 0 (fsC (zsFrom bs 4)).toArray rfl rfl ta' (size_fsa hFk hlk) (one_fs _) ?_) | (refine bodyPost_ret (res_cell_tmp Tryz.results102 _ _ w.heap.size (fsC (zsFrom bs 4)) _ rfl (World.rangeAt_setCells_same _ _ _ _ ta') Tryz.underlying73 rfl (size_fsl hFk hlk)) rfl (unhide ?_)))
      exact hide ⟨zsFrom bs 4, by rw [unhide HT], hlk, hFk, fun _ => unhide EZ, below_setCells _ (Nat.le_refl _) _ _ _ bw⟩
    · have hlt : (k : Int) < 4 := by omega
      have hkb : k < bs.length := by omega
      have hlo : (0 : Int) ≤ (k : Int) := by omega
      obtain ⟨pa, pc, c0, c1, hps⟩ := (hf k hkb).below bw
      have HU := hide (zsFrom_succ h4 (by omega : k < 4))
      have HX := hide (shB_f k hkb)
      generalize hbk : bs[k] = b at *
      have HBK := hide hbk
      clear hbk
      by_cases hb4 : b.ps.length = 4
      · have HQ := hide hps
        obtain ⟨pb, po, rfl, hr⟩ : ∃ pb po, pa = some ⟨pb, po, none⟩ ∧ wr.rangeAt pb po (psC b.ps) := by
          rcases hps with h | h
          · rw [h] at hb4; simp at hb4
          · exact h
        have hfl := cell_lt c0
        rw [hb4] at c0
        clear hps HQ
        have z2 := hide zero_ps
        generalize hzp : (psC zPs).toArray = zp at z2
        have hzs : zp.size = (psC b.ps).toArray.size := by rw [← hzp, List.size_toArray, List.size_toArray, len_psC, len_psC, hb4]; rfl
        clear hzp
        have BB : Hid (Tryz.prog.built 71 [(0, .agg (psC b.ps).toArray), (1, .int .i64 b.wn)] = some (bkC b).toArray) := built_bk b.ps b.wn hb4
        go_wp2_with fail
        refine (rowOf_yes pb po pc b.ps _ hb4 (World.rangeAt_alloc hr _)).mono ?_
        rintro e w2 ⟨rfl, b2⟩
        have s3 : wr.heap.size < w2.heap.size := by have := b2.size; simp at this; omega
        have k1 : w2.cell? ⟨wr.heap.size, 1, none⟩ = some (.int .i64 b.wn) := by rw [b2.cell (p := ⟨wr.heap.size, 1, none⟩) (by simp)]; simp
        have B2 : Below wr.heap.size wr w2 := ((Below.refl _ _).alloc (Nat.le_refl _) _).trans (b2.mono (by simp))
        have B3 := B2.alloc (B2.size) (.cells (psC b.ps).toArray 69)
        have rk3 := rangeAt_below rk B3 (by omega)
        have ta3 := there_below ta B3 (by omega)
        have tb3 := there_below tb B3 (by omega)
        have tk := there_sub tb3 (k * 21) 21 (by omega)
        have tk2 : (w2.alloc (.cells (psC b.ps).toArray 69)).there (w.heap.size + 1) (k * 21) (bkC b).length := by rw [len_bkC b hb4]; simpa using tk
        have rs := range_set bkC 21 (fun x hx => len_bkC x (hFk x hx)) k (by omega) b (len_bkC b hb4) rk3 tk
        rw [Nat.zero_add] at rs
        have bw3 := bw.trans (B3.mono (by have := bw.size; omega))
        have r66 := rangeAt_new w2 (psC b.ps) 69
        have sz3 := B3.size
        have RS := hide rs
        clear b2 rk ta tb ta' hr c0 c1 B2 B3 rk3 tk rs
        go_wp2_with (first | (refine wpList_alloc_big rfl 69 rfl zp (unhide z2) ?_) | (refine wpList_store_new rfl 69 _ _ rfl w2 zp (psC b.ps).toArray rfl rfl rfl (size_rowa hb4) hzs (one_ps b.ps) ?_) | (refine wpList_load_mid rfl 69 _ rfl w2.heap.size 0 rfl (psC b.ps) _ r66 Tryz.underlying69 rfl (size_row hb4) ?_) | (refine wpList_build_two rfl 71 _ _ rfl (.agg (psC b.ps).toArray) (.int .i64 b.wn) rfl rfl (bkC b).toArray (unhide BB) ?_) | (refine wpList_store_mid rfl 71 _ _ rfl (w.heap.size + 1) (k * 21) (bkC b).toArray rfl rfl tk2 (size_bk hb4) (one_bk b) ?_))
        go_roundw
        case rel =>
          refine ⟨k + 1, by omega, by first | rfl | go_num, fun j hj h => ?_, ?_, World.there_setCells ta3 _ _ _, World.there_setCells tb3 _ _ _, below_setCells _ (by omega) _ _ _ bw3, by rw [size_setCells]; omega⟩
          · by_cases e : j = k
            · subst e; rw [unhide HBK]; exact hb4
            · exact hnd.out j hj (by omega)
          · rw [← unhide HU]; exact unhide RS
        case measure => simp [intOf]; omega
      · have hne : ((b.ps.length : Int) != 4) = true := by simp; omega
        have z2 := hide zero_ps
        have zl := hide len_psC
        have hx4 := hide (unhide HX hb4)
        have hfl := cell_lt c0
        have hrow := hide (rowOf_no pa b.ps.length pc)
        generalize hzp : psC zPs = zp at z2 hrow
        have hz20 : zp.length = 20 := by rw [← hzp]; rfl
        have hz1 : zp.toArray.all (·.oneCell') = true := by rw [← hzp]; exact one_ps zPs
        have hzi : (Tryz.prog.info? 69).map (·.size) = some zp.toArray.size := by rw [← hzp]; exact size_rowa rfl
        clear hzp
        have HZI := hide hzi
        clear hzi
        go_wp2_with fail
        refine (unhide hrow _ hne).mono ?_
        rintro e w2 ⟨rfl, b2⟩
        have s3 : wr.heap.size < w2.heap.size := by have := b2.size; simp at this; omega
        have B2 : Below wr.heap.size wr w2 := ((Below.refl _ _).alloc (Nat.le_refl _) _).trans (b2.mono (by simp))
        have B3 := B2.alloc (B2.size) (.cells zp.toArray 69)
        have rk3 := rangeAt_below rk B3 (by omega)
        have ta3 := there_below ta' B3 (by omega)
        have bw3 := bw.trans (B3.mono (by have := bw.size; omega))
        clear b2 rk ta tb ta' c0 c1 B2 B3 hps
        go_wp2_with (first | (refine wpList_alloc_big rfl 69 rfl zp.toArray (unhide z2) ?_) | (refine wpList_store_new rfl 69 _ _ rfl w2 zp.toArray zp.toArray rfl rfl rfl (unhide HZI) rfl hz1 ?_) | (refine wpList_load_mid rfl 73 _ rfl (w.heap.size + 1) 0 rfl (fsC (zsFrom bs k)) _ rk3 Tryz.underlying73 rfl (size_fsl hFk hlk) ?_) | (refine wpList_store_mid rfl 73 _ _ rfl w.heap.size 0 (fsC (zsFrom bs k)).toArray rfl rfl ta3 (size_fsa hFk hlk) (one_fs _) ?_) | (refine bodyPost_ret (res_cell_tmp Tryz.results102 _ _ w.heap.size (fsC (zsFrom bs k)) _ rfl (World.rangeAt_setCells_same _ _ _ _ ta3) Tryz.underlying73 rfl (size_fsl hFk hlk)) rfl (unhide ?_)))
        exact hide ⟨zsFrom bs k, by rw [unhide hx4], hlk, hFk, (by rw [unhide hx4]; intro h; cases h), below_setCells _ (Nat.le_refl _) _ _ _ bw3⟩
/-- Whatever the blocks are: they are shaped just if there are four of four pages, and then they are as they were. -/
theorem shaped_any (a : Option Addr) (cap : Nat) (bs : List Bk) (w : World) (hf : FsAt w a bs) (hm : bs.length ≤ 9223372036854775807) :
    Calls Tryz.prog 102 #[.slice a bs.length cap] w fun e w' => KeptPost w bs (shB bs) e w' := by
  by_cases h4 : bs.length = 4
  · rcases hf with h | ⟨b, o, rfl, h⟩
    · rw [h] at h4; simp at h4
    · rw [h4]; exact shaped_four b o cap bs w h4 h
  · refine (shaped_no zFs fours_z rfl zero_fs a bs.length cap w (by simp; omega)).mono ?_
    rintro e w' ⟨rfl, hb⟩
    have hs := shB_n h4
    exact ⟨zFs, by rw [hs], rfl, fours_z, fun h => by (rw [hs] at h; cases h), hb⟩
theorem okB_shape {bs : List Bk} (h : okB bs = true) : shB bs = true := by
  simp only [okB, Bool.and_eq_true, List.all_eq_true] at h
  simp only [shB, Bool.and_eq_true, List.all_eq_true]
  refine ⟨h.1.1, fun b hb => ?_⟩
  have := h.1.2 b hb
  simp only [bkB, Bool.and_eq_true] at this
  exact this.1.1.1
theorem shB_noOk {bs : List Bk} (h : shB bs = false) : okB bs = false := by
  cases ho : okB bs
  · rfl
  · rw [okB_shape ho] at h; cases h

set_option maxRecDepth 100000 in
set_option maxHeartbeats 1000000 in
theorem of_any (zs : List Bk) (hzF : Fours zs) (hz4 : zs.length = 4) (hz : (Tryz.prog.info? 73).bind (·.zero) = some (.agg (fsC zs).toArray)) (a : Option Addr) (cap : Nat) (bs : List Bk) (w : World) (hf : FsAt w a bs) (hm : bs.length ≤ 9223372036854775807) :
    Calls Tryz.prog 70 #[.slice a bs.length cap] w fun e w' => KeptPost w bs (okB bs) e w' := by
  have HZ := hide hz
  clear hz
  have z84 : (fsC zs).length = 84 := by rw [len_fsC _ hzF, hz4]
  have hf1 := hide (hf.below ((Below.refl w.heap.size w).alloc (Nat.le_refl _) (.cells (fsC zs).toArray 73)))
  have t0 := there_new w (fsC zs) 73
  rw [z84] at t0
  go_enter Tryz.func70, Tryz.ntmps70
  go_wp2_with (first | (refine wpList_alloc_big rfl 73 rfl (fsC zs).toArray (unhide HZ) ?_))
  refine (shaped_any a cap bs _ (unhide hf1) hm).mono ?_
  rintro e w1 ⟨ks, rfl, hk4, hkF, hke, b1⟩
  have s1 : w.heap.size < w1.heap.size := by have := b1.size; simp at this; omega
  have k84 : (fsC ks).length = 84 := by rw [len_fsC _ hkF, hk4]
  have hsz : (fsC zs).toArray.size = (fsC ks).toArray.size := by simp [z84, k84]
  have B1 : Below w.heap.size w w1 := ((Below.refl _ _).alloc (Nat.le_refl _) _).trans (b1.mono (by simp))
  have t1 := World.there_alloc (there_below t0 b1 (by simp)) (.cells (fsC ks).toArray 73)
  have r1 := rangeAt_new w1 (fsC ks) 73
  have B2 := B1.alloc B1.size (.cells (fsC ks).toArray 73)
  rw [← k84] at t1
  clear b1 t0 z84 k84 B1
  go_wp2_with (first | (refine wpList_alloc_big rfl 73 rfl (fsC zs).toArray (unhide HZ) ?_) | (refine wpList_store_new rfl 73 _ _ rfl w1 (fsC zs).toArray (fsC ks).toArray rfl rfl rfl (size_fsa hkF hk4) hsz (one_fs ks) ?_))
  generalize hw2 : w1.alloc (.cells (fsC ks).toArray 73) = w2 at *
  have s2 : w1.heap.size < w2.heap.size := by rw [← hw2]; simp
  clear hw2
  have hi70 := size_fsl hkF hk4
  have hl84 : (fsC ks).length = 84 := by rw [len_fsC _ hkF, hk4]
  cases hs : shB bs
  · have HO := hide (shB_noOk hs)
    clear hke hs
    refine wp_region_noPanic ?_
    refine wp_region_held_drew (S := fun w' => w'.rangeAt w1.heap.size 0 (fsC ks) ∧ w'.there w.heap.size 0 (fsC ks).length ∧ Below w.heap.size w w' ∧ w2.heap.size ≤ w'.heap.size) (by kernel_rfl) ⟨by simpa using r1, by simpa using t1, B2.drew, Nat.le_refl _⟩ (fun hHeld => ?_)
    clear r1 t1 B2
    refine takeL 0 _ rfl (by kernel_rfl) (by kernel_rfl) (by kernel_rfl) (fun _ _ _ h => h) (yieldsIf_load_mid rfl 73 _ rfl w1.heap.size 0 rfl (fsC ks) _ (fun _ h => h.1) Tryz.underlying73 rfl hi70) hHeld ?_
    try simp only [Act.put, List.setIfInBounds_toArray, List.set_cons_zero, List.set_cons_succ]
    refine takeL 1 (.bool false) rfl (by kernel_rfl) (by kernel_rfl) (by kernel_rfl) (fun _ _ _ h => h) (Or.inl ⟨rfl, fun _ _ => rfl⟩) hHeld ?_
    try simp only [Act.put, List.setIfInBounds_toArray, List.set_cons_zero, List.set_cons_succ]
    refine takeL 2 (.bool false) rfl (by kernel_rfl) (by kernel_rfl) (by kernel_rfl) (fun _ _ _ h => h) (Or.inl ⟨rfl, fun _ _ => rfl⟩) hHeld ?_
    try simp only [Act.put, List.setIfInBounds_toArray, List.set_cons_zero, List.set_cons_succ]
    refine takeL 3 (undef) rfl (by kernel_rfl) (by kernel_rfl) (by kernel_rfl) (fun _ _ _ h => h) (Or.inr ⟨rfl, rfl⟩) hHeld ?_
    try simp only [Act.put, List.setIfInBounds_toArray, List.set_cons_zero, List.set_cons_succ]
    refine takeL 4 (undef) rfl (by kernel_rfl) (by kernel_rfl) (by kernel_rfl) (fun _ _ _ h => h) (Or.inr ⟨rfl, rfl⟩) hHeld ?_
    try simp only [Act.put, List.setIfInBounds_toArray, List.set_cons_zero, List.set_cons_succ]
    refine takeL 5 (.bool false) rfl (by kernel_rfl) (by kernel_rfl) (by kernel_rfl) (fun _ _ _ h => h) (Or.inl ⟨rfl, fun _ _ => rfl⟩) hHeld ?_
    try simp only [Act.put, List.setIfInBounds_toArray, List.set_cons_zero, List.set_cons_succ]
    refine oneL 6 rfl (by kernel_rfl) rfl (fun K hK => ?_)
    refine wp_store_mid 73 _ _ rfl w.heap.size 0 (fsC ks).toArray rfl rfl hHeld.2.1 (size_fsa hkF hk4) (one_fs ks) ?_
    have rr := World.rangeAt_setCells_same _ _ _ _ hHeld.2.1
    refine hK.out _ _ ⟨World.rangeAt_setCells_apart hHeld.1 _ _ _ (.inl (by omega)), World.there_setCells hHeld.2.1 _ _ _, below_setCells _ (Nat.le_refl _) _ _ _ hHeld.2.2.1, by rw [size_setCells]; exact hHeld.2.2.2⟩ (fun hHeld => ?_)
    clear hK K
    try simp only [Act.put, List.setIfInBounds_toArray, List.set_cons_zero, List.set_cons_succ]
    refine takeL 7 (.bool false) rfl (by kernel_rfl) (by kernel_rfl) (by kernel_rfl) (fun _ _ _ h => h) (Or.inl ⟨rfl, fun _ _ => rfl⟩) hHeld ?_
    try simp only [Act.put, List.setIfInBounds_toArray, List.set_cons_zero, List.set_cons_succ]
    refine wpAnyH_done (by kernel_rfl) ?_ _
    refine NoPanic.normal ?_
    go_wp2_with (first | (refine bodyPost_ret (res_cell_tmp Tryz.results70 _ _ w.heap.size (fsC ks) _ rfl rr Tryz.underlying73 rfl hi70) rfl (unhide ?_)))
    exact hide ⟨ks, by rw [unhide HO], hk4, hkF, (by rw [unhide HO]; intro h; cases h), hHeld.2.2.1⟩
  · have HE := hide (hke hs)
    have HC := hide (keptOk_any ks hk4 hkF)
    clear hke hs
    refine wp_region_noPanic ?_
    refine wp_region_held_drew (S := fun w' => w'.rangeAt w1.heap.size 0 (fsC ks) ∧ w'.there w.heap.size 0 (fsC ks).length ∧ Below w.heap.size w w' ∧ w2.heap.size ≤ w'.heap.size) (by kernel_rfl) ⟨by simpa using r1, by simpa using t1, B2.drew, Nat.le_refl _⟩ (fun hHeld => ?_)
    clear r1 t1 B2
    refine takeL 0 _ rfl (by kernel_rfl) (by kernel_rfl) (by kernel_rfl) (fun _ _ _ h => h) (yieldsIf_load_mid rfl 73 _ rfl w1.heap.size 0 rfl (fsC ks) _ (fun _ h => h.1) Tryz.underlying73 rfl hi70) hHeld ?_
    try simp only [Act.put, List.setIfInBounds_toArray, List.set_cons_zero, List.set_cons_succ]
    refine takeL 1 (.bool true) rfl (by kernel_rfl) (by kernel_rfl) (by kernel_rfl) (fun _ _ _ h => h) (Or.inl ⟨rfl, fun _ _ => rfl⟩) hHeld ?_
    try simp only [Act.put, List.setIfInBounds_toArray, List.set_cons_zero, List.set_cons_succ]
    refine takeL 2 (.bool true) rfl (by kernel_rfl) (by kernel_rfl) (by kernel_rfl) (fun _ _ _ h => h) (Or.inl ⟨rfl, fun _ _ => rfl⟩) hHeld ?_
    try simp only [Act.put, List.setIfInBounds_toArray, List.set_cons_zero, List.set_cons_succ]
    refine takeL 3 _ rfl (by kernel_rfl) (by kernel_rfl) (by kernel_rfl) (fun _ _ _ h => h) (yieldsIf_load_mid rfl 73 _ rfl w1.heap.size 0 rfl (fsC ks) _ (fun _ h => h.1) Tryz.underlying73 rfl hi70) hHeld ?_
    try simp only [Act.put, List.setIfInBounds_toArray, List.set_cons_zero, List.set_cons_succ]
    refine oneL 4 rfl (by kernel_rfl) rfl (fun K hK => ?_)
    go_simp
    refine (unhide HC _).mono ?_
    rintro e w3 ⟨rfl, b3⟩
    have hb3 := b3.size
    go_wp2_with fail
    refine hK.out _ _ ⟨rangeAt_below hHeld.1 b3 (by have := hHeld.2.2.2; omega), there_below hHeld.2.1 b3 (by have := hHeld.2.2.2; omega), hHeld.2.2.1.trans (b3.mono (hHeld.2.2.1.size)), by have := hHeld.2.2.2; omega⟩ (fun hHeld => ?_)
    clear hK K b3
    try simp only [Act.put, List.setIfInBounds_toArray, List.set_cons_zero, List.set_cons_succ]
    refine takeL 5 (.bool (okB ks)) rfl (by kernel_rfl) (by kernel_rfl) (by kernel_rfl) (fun _ _ _ h => h) (Or.inl ⟨rfl, fun _ _ => rfl⟩) hHeld ?_
    try simp only [Act.put, List.setIfInBounds_toArray, List.set_cons_zero, List.set_cons_succ]
    refine oneL 6 rfl (by kernel_rfl) rfl (fun K hK => ?_)
    refine wp_store_mid 73 _ _ rfl w.heap.size 0 (fsC ks).toArray rfl rfl hHeld.2.1 (size_fsa hkF hk4) (one_fs ks) ?_
    have rr := World.rangeAt_setCells_same _ _ _ _ hHeld.2.1
    refine hK.out _ _ ⟨World.rangeAt_setCells_apart hHeld.1 _ _ _ (.inl (by omega)), World.there_setCells hHeld.2.1 _ _ _, below_setCells _ (Nat.le_refl _) _ _ _ hHeld.2.2.1, by rw [size_setCells]; exact hHeld.2.2.2⟩ (fun hHeld => ?_)
    clear hK K
    try simp only [Act.put, List.setIfInBounds_toArray, List.set_cons_zero, List.set_cons_succ]
    refine takeL 7 (.bool (okB ks)) rfl (by kernel_rfl) (by kernel_rfl) (by kernel_rfl) (fun _ _ _ h => h) (Or.inl ⟨rfl, fun _ _ => rfl⟩) hHeld ?_
    try simp only [Act.put, List.setIfInBounds_toArray, List.set_cons_zero, List.set_cons_succ]
    refine wpAnyH_done (by kernel_rfl) ?_ _
    refine NoPanic.normal ?_
    go_wp2_with (first | (refine bodyPost_ret (res_cell_tmp Tryz.results70 _ _ w.heap.size (fsC ks) _ rfl rr Tryz.underlying73 rfl hi70) rfl (unhide ?_)))
    exact hide ⟨ks, by rw [← unhide HE], hk4, hkF, fun _ => unhide HE, hHeld.2.2.1⟩
end Go.Proofs.YtbiokmojjneleaaGreat.ImplS

/-
  Blocks in memory of their own: a row of blocks, each with a row of pages, all rows apart from each other. Nothing here walks the program.
-/
namespace Go.Proofs.YtbiokmojjneleaaGreat.Own
open Go.ChangeShapes Go.WideShapes Go.ChangeAt Go.RowKit OkA Big Fl ImplS
set_option linter.unusedVariables false
set_option linter.unusedSimpArgs false

/-- Rows g, and G of the pages, from lo on, apart: the blocks bs are laid in them; the outer row has room for n. -/
structure Own (w : World) (lo g : Nat) (G : List Nat) (bs : List Bk) (n : Nat) : Prop where
  len : G.length = bs.length
  nd : (g :: G).Nodup
  lo : ∀ x ∈ g :: G, lo ≤ x
  hi : ∀ x ∈ g :: G, x < w.heap.size
  fit : bs.length ≤ n
  room : w.there g 0 (n * 2)
  out : ∀ i (hi : i < bs.length), ∃ cap, w.cell? ⟨g, i * 2, none⟩ = some (.slice (some ⟨G[i]'(by omega), 0, none⟩) bs[i].ps.length cap)
  worn : ∀ i (hi : i < bs.length), w.cell? ⟨g, i * 2 + 1, none⟩ = some (.int .i64 bs[i].wn)
  pgs : ∀ i (hi : i < bs.length), w.rangeAt (G[i]'(by omega)) 0 (psC bs[i].ps)
  free : ∀ i (hi : i < bs.length), w.there (G[i]'(by omega)) 0 (bs[i].ps.length * 5)
  caps : ∀ i (hi : i < bs.length) (a : Option Addr) (m c : Nat), w.cell? ⟨g, i * 2, none⟩ = some (.slice a m c) → m ≤ c

variable {w w' : World} {lo g n : Nat} {G : List Nat} {bs : List Bk}

theorem Own.fs (h : Own w lo g G bs n) : FsAt w (some ⟨g, 0, none⟩) bs := .inr ⟨g, 0, rfl, fun i hi => by
  obtain ⟨cap, hc⟩ := h.out i hi
  exact ⟨_, cap, by simpa using hc, by simpa using h.worn i hi, .inr ⟨_, 0, rfl, h.pgs i hi⟩⟩⟩
theorem Own.mono (h : Own w lo g G bs n) {lo' : Nat} (hl : lo' ≤ lo) : Own w lo' g G bs n :=
  ⟨h.len, h.nd, fun x hx => Nat.le_trans hl (h.lo x hx), h.hi, h.fit, h.room, h.out, h.worn, h.pgs, h.free, h.caps⟩
theorem Own.below (h : Own w lo g G bs n) {B : Nat} (hb : Below B w w') (hB : w.heap.size ≤ B) : Own w' lo g G bs n := by
  have hg : g < B := Nat.lt_of_lt_of_le (h.hi g (by simp)) hB
  have hG : ∀ i (hi : i < bs.length), G[i]'(by have := h.len; omega) < B := fun i hi => Nat.lt_of_lt_of_le (h.hi _ (by simp)) hB
  refine ⟨h.len, h.nd, h.lo, fun x hx => Nat.lt_of_lt_of_le (h.hi x hx) hb.size, h.fit, there_below h.room hb hg, fun i hi => ?_, fun i hi => ?_, fun i hi => rangeAt_below (h.pgs i hi) hb (hG i hi), fun i hi => there_below (h.free i hi) hb (hG i hi), fun i hi a m c hc => h.caps i hi a m c (by rw [hb.cell (p := ⟨g, i * 2, none⟩) hg] at hc; exact hc)⟩
  · obtain ⟨cap, hc⟩ := h.out i hi
    exact ⟨cap, by rw [hb.cell (p := ⟨g, i * 2, none⟩) hg]; exact hc⟩
  · rw [hb.cell (p := ⟨g, i * 2 + 1, none⟩) hg]; exact h.worn i hi
/-- A new outer row. -/
theorem Own.start (hg : lo ≤ g) (hl : g < w.heap.size) (hr : w.there g 0 (n * 2)) : Own w lo g [] [] n :=
  ⟨rfl, by simp, fun x hx => by simp at hx; subst hx; exact hg, fun x hx => by simp at hx; subst hx; exact hl, Nat.zero_le _, hr, fun i hi => by simp at hi, fun i hi => by simp at hi, fun i hi => by simp at hi, fun i hi => by simp at hi, fun i hi => by simp at hi⟩
theorem cell_setCells_ne {w : World} {b o b' o' : Nat} {vs : List Value} (h : b' ≠ b ∨ o' < o ∨ o + vs.length ≤ o') : (w.setCells b o vs).cell? ⟨b', o', none⟩ = w.cell? ⟨b', o', none⟩ :=
  World.cell?_setCells_out b vs o w ⟨b', o', none⟩ (fun hb _ => by
    simp only at hb
    rcases h with h | h
    · exact absurd hb h
    · exact h)
theorem cell_setCells_eq {w : World} {b o : Nat} {vs : List Value} (ht : w.there b o vs.length) (j : Nat) (hj : j < vs.length) : (w.setCells b o vs).cell? ⟨b, o + j, none⟩ = some vs[j] :=
  World.cell?_setCells_in b vs o w (fun i hi => (ht i hi).1) j hj
/-- One block more, its pages in a row p that is apart. -/
theorem Own.push (h : Own w lo g G bs n) (hn : bs.length < n) (p cap : Nat) (b : Bk) (hp : lo ≤ p) (hps : p < w.heap.size) (hpg : p ∉ g :: G) (hr : w.rangeAt p 0 (psC b.ps)) (ht : w.there p 0 (b.ps.length * 5)) (hcap : b.ps.length ≤ cap) :
    Own (w.setCells g (bs.length * 2) [.slice (some ⟨p, 0, none⟩) b.ps.length cap, .int .i64 b.wn]) lo g (G ++ [p]) (bs ++ [b]) n := by
  have hlen := h.len
  have hne : p ≠ g := fun e => hpg (by simp [e])
  have hGg : ∀ i (hi : i < bs.length), G[i]'(by omega) ≠ g := fun i hi e => by
    have := (List.nodup_cons.1 h.nd).1
    exact this (e ▸ List.getElem_mem (by omega))
  have room2 : w.there g (bs.length * 2) 2 := by
    have := there_sub h.room (bs.length * 2) 2 (by omega)
    simpa using this
  have c0 := cell_setCells_eq (w := w) (b := g) (o := bs.length * 2) (vs := [.slice (some ⟨p, 0, none⟩) b.ps.length cap, .int .i64 b.wn]) room2 0 (by simp)
  have c1 := cell_setCells_eq (w := w) (b := g) (o := bs.length * 2) (vs := [.slice (some ⟨p, 0, none⟩) b.ps.length cap, .int .i64 b.wn]) room2 1 (by simp)
  have ecap : ∀ i, i < (bs ++ [b]).length → ∀ (a : Option Addr) (m c : Nat), (w.setCells g (bs.length * 2) [.slice (some ⟨p, 0, none⟩) b.ps.length cap, .int .i64 b.wn]).cell? ⟨g, i * 2, none⟩ = some (.slice a m c) → m ≤ c := by
    intro i hi a m c hc
    simp only [List.length_append, List.length_singleton] at hi
    by_cases e : i < bs.length
    · rw [cell_setCells_ne (.inr (.inl (by omega)))] at hc
      exact h.caps i e a m c hc
    · obtain rfl : i = bs.length := by omega
      have c2 := c0
      simp only [Nat.add_zero, List.getElem_cons_zero] at c2
      rw [c2] at hc
      simp at hc
      obtain ⟨_, rfl, rfl⟩ := hc
      exact hcap
  refine ⟨by simp [hlen], ?_, ?_, ?_, by simp; omega, World.there_setCells h.room _ _ _, ?_, ?_, ?_, ?_, ecap⟩
  · rw [← List.cons_append]
    exact List.nodup_append.2 ⟨h.nd, by simp, fun x hx y hy => by simp at hy; subst hy; intro e; subst e; exact hpg hx⟩
  · intro x hx
    rw [← List.cons_append, List.mem_append] at hx
    rcases hx with hx | hx
    · exact h.lo x hx
    · simp at hx; subst hx; exact hp
  · intro x hx
    rw [size_setCells]
    rw [← List.cons_append, List.mem_append] at hx
    rcases hx with hx | hx
    · exact h.hi x hx
    · simp at hx; subst hx; exact hps
  · intro i hi
    simp only [List.length_append, List.length_singleton] at hi
    by_cases e : i < bs.length
    · obtain ⟨cp, hc⟩ := h.out i e
      refine ⟨cp, ?_⟩
      rw [cell_setCells_ne (.inr (.inl (by omega))), List.getElem_append_left (by omega), List.getElem_append_left e]
      exact hc
    · obtain rfl : i = bs.length := by omega
      refine ⟨cap, ?_⟩
      rw [List.getElem_append_right (by omega), List.getElem_append_right (by omega)]
      simpa [hlen] using c0
  · intro i hi
    simp only [List.length_append, List.length_singleton] at hi
    by_cases e : i < bs.length
    · rw [cell_setCells_ne (.inr (.inl (by omega))), List.getElem_append_left e]
      exact h.worn i e
    · obtain rfl : i = bs.length := by omega
      rw [List.getElem_append_right (by omega)]
      simpa using c1
  · intro i hi
    simp only [List.length_append, List.length_singleton] at hi
    by_cases e : i < bs.length
    · simp only [List.getElem_append_left e, List.getElem_append_left (show i < G.length by omega)]
      exact World.rangeAt_setCells_apart (h.pgs i e) _ _ _ (.inl (hGg i e))
    · obtain rfl : i = bs.length := by omega
      have e1 : (G ++ [p])[bs.length]'(by simp [hlen]) = p := by rw [List.getElem_append_right (by omega)]; simp [hlen]
      have e2 : (bs ++ [b])[bs.length]'(by simp) = b := by rw [List.getElem_append_right (by omega)]; simp
      simp only [e1, e2]
      exact World.rangeAt_setCells_apart hr _ _ _ (.inl hne)
  · intro i hi
    simp only [List.length_append, List.length_singleton] at hi
    by_cases e : i < bs.length
    · simp only [List.getElem_append_left e, List.getElem_append_left (show i < G.length by omega)]
      exact World.there_setCells (h.free i e) _ _ _
    · obtain rfl : i = bs.length := by omega
      have e1 : (G ++ [p])[bs.length]'(by simp [hlen]) = p := by rw [List.getElem_append_right (by omega)]; simp [hlen]
      have e2 : (bs ++ [b])[bs.length]'(by simp) = b := by rw [List.getElem_append_right (by omega)]; simp
      simp only [e1, e2]
      exact World.there_setCells ht _ _ _

/-- A list of blocks in new memory: empty, or rows of its own. -/
def NewFs (w : World) (lo : Nat) (v : Value) (bs : List Bk) : Prop :=
  (bs = [] ∧ ∃ a c, v = .slice a 0 c) ∨ ∃ g G cap, v = .slice (some ⟨g, 0, none⟩) bs.length cap ∧ Own w lo g G bs bs.length
theorem NewFs.form {v : Value} (h : NewFs w lo v bs) : ∃ a cap, v = .slice a bs.length cap ∧ FsAt w a bs := by
  rcases h with ⟨rfl, a, c, rfl⟩ | ⟨g, G, cap, rfl, h⟩
  · exact ⟨a, c, rfl, .inl rfl⟩
  · exact ⟨_, cap, rfl, h.fs⟩
theorem NewFs.below {v : Value} (h : NewFs w lo v bs) {B : Nat} (hb : Below B w w') (hB : w.heap.size ≤ B) : NewFs w' lo v bs := by
  rcases h with h | ⟨g, G, cap, rfl, h⟩
  · exact .inl h
  · exact .inr ⟨g, G, cap, rfl, h.below hb hB⟩
end Go.Proofs.YtbiokmojjneleaaGreat.Own

/-
  The program's functions on blocks, for every list of blocks: whether they are ok, how many pages are clean, what is written and what is wiped; each answer in memory of its own.
-/
namespace Go.Proofs.YtbiokmojjneleaaGreat.ImplT
open Go.ChangeShapes Go.WideShapes Go.ChangeAt Go.RowKit OkA Big Fl ImplB ImplF ImplS _root_.Go.Proofs.YtbiokmojjneleaaGreat.Own
set_option linter.unusedVariables false
set_option linter.unusedSimpArgs false
attribute [local go_sem ↓] Go.wp_at_zero Go.wp_at_succ

/-- The list of the blocks, in rows of its own. -/
def ListPost (w : World) (bs : List Bk) (e : Ending) (w' : World) : Prop := ∃ g G, e = .returned (.slice (some ⟨g, 0, none⟩) 4 4) ∧ Own w' w.heap.size g G bs 4 ∧ Below w.heap.size w w'
theorem made_bs : (Tryz.prog.info? 125).map (fun i => (i.zero, i.size, i.bytes)) = some (some (.agg #[.slice none 0 0, .int .i64 0]), 2, 32) := by kernel_rfl

set_option maxRecDepth 100000 in
set_option maxHeartbeats 1000000 in
theorem list_any (bs : List Bk) (h4 : bs.length = 4) (hF : Fours bs) (w : World) :
    Calls Tryz.prog 84 #[.agg (fsC bs).toArray] w fun e w' => ListPost w bs e w' := by
  have r0 := rangeAt_new w (fsC bs) 73
  have r1 := World.rangeAt_alloc r0 (.cells (madeCells #[.slice none 0 0, .int .i64 0] 8) 125)
  have t1 : ((w.alloc (.cells (fsC bs).toArray 73)).alloc (.cells (madeCells #[.slice none 0 0, .int .i64 0] 8) 125)).there (w.heap.size + 1) 0 8 := by
    have := there_new (w.alloc (.cells (fsC bs).toArray 73)) (madeCells #[.slice none 0 0, .int .i64 0] 8).toList 125
    rw [Array.length_toList, size_madeCells, World.size_alloc] at this
    exact this
  have b0 : Below w.heap.size w ((w.alloc (.cells (fsC bs).toArray 73)).alloc (.cells (madeCells #[.slice none 0 0, .int .i64 0] 8) 125)) := ((Below.refl _ _).alloc (Nat.le_refl _) _).alloc (by simp) _
  go_enter Tryz.func84, Tryz.ntmps84
  go_wp2_with (first | (refine wpList_box_big rfl _ _ rfl (fsC bs).toArray rfl ?_) | (refine wpList_make_big rfl 23 _ _ rfl 4 rfl rfl 125 2 32 _ Tryz.underlying23 made_bs (by omega) (by omega) ?_) | (refine wpList_load_mid rfl 73 _ rfl w.heap.size 0 rfl (fsC bs) _ r1 Tryz.underlying73 rfl (size_fsl hF h4) ?_))
  clear r0 r1
  generalize hw1 : (w.alloc (.cells (fsC bs).toArray 73)).alloc (.cells (madeCells #[.slice none 0 0, .int .i64 0] 8) 125) = w1 at *
  have s1 : w.heap.size + 1 < w1.heap.size := by rw [← hw1]; simp
  clear hw1
  have o1 : Own w1 w.heap.size (w.heap.size + 1) [] [] 4 := Own.start (by omega) s1 t1
  clear t1
  go_loopw [8] (fun i w' => ∃ k : Nat, k ≤ 4 ∧ i = .int .i64 k ∧ (∃ G, Own w' w.heap.size (w.heap.size + 1) G (bs.take k) 4) ∧ Below w.heap.size w w') (fun i _ => 4 - (intOf i).toNat)
  case atStart => exact ⟨0, by omega, rfl, ⟨[], by simpa using o1⟩, b0⟩
  case round =>
    obtain ⟨k, hk, rfl, ⟨G, ok⟩, bw⟩ := hrel
    clear o1 b0
    by_cases h0 : k = 4
    · subst h0
      rw [List.take_of_length_le (by omega)] at ok
      go_wp2
      go_ret
      exact ⟨_, G, rfl, ok, bw⟩
    · have hlt : (k : Int) < 4 := by omega
      have hkb : k < bs.length := by omega
      have hlo : (0 : Int) ≤ (k : Int) := by omega
      have hex := ext_fs hF k hkb
      have hb4 : bs[k].ps.length = 4 := hF.at k hkb
      have HE := hide hex
      have HT := hide (List.take_succ_eq_append_getElem hkb)
      clear hex
      generalize bs[k] = b at *
      go_wp2_with (first | (refine wpList_index_big rfl 73 _ _ rfl (fsC bs).toArray _ (k : Int) rfl rfl 71 4 21 _ Tryz.underlying73 Tryz.underlying71 rfl (by kernel_rfl) hlo hlt (unhide HE) ?_) | (refine wpList_alloc_big rfl 71 rfl (bkC zBk).toArray zero_bk ?_) | (refine wpList_store_new rfl 71 _ _ rfl wr (bkC zBk).toArray (bkC b).toArray rfl rfl rfl (size_bk hb4) (same_bk hb4) (one_bk b) ?_))
      have rb := rangeAt_new wr (bkC b) 71
      have r2 := range_bk rb
      have c20 := worn_bk hb4 rb
      rw [Nat.zero_add] at c20
      have bb3 : Below wr.heap.size wr (wr.alloc (.cells (bkC b).toArray 71)) := (Below.refl _ _).alloc (Nat.le_refl _) _
      have o2 := ok.below bb3 (Nat.le_refl _)
      have B2 := bw.alloc bw.size (.cells (bkC b).toArray 71)
      have hgb := ok.hi (w.heap.size + 1) (by simp)
      have s2 : wr.heap.size < (wr.alloc (.cells (bkC b).toArray 71)).heap.size := by simp
      clear rb bb3 ok bw
      generalize wr.alloc (.cells (bkC b).toArray 71) = w2 at *
      generalize wr.heap.size = bb at *
      refine wp_region_noPanic ?_
      refine wp_region_held_drew (S := fun w' => w'.rangeAt bb 0 (psC b.ps) ∧ w'.cell? ⟨bb, 20, none⟩ = some (.int .i64 b.wn)) (by kernel_rfl) ⟨by simpa using r2, by simpa using c20⟩ (fun hHeld => ?_)
      have o3 := Own.below o2 ((Below.refl w2.heap.size w2).drew) (Nat.le_refl _)
      clear r2 c20 o2
      refine takeL 0 (.slice (some ⟨w.heap.size + 1, 0, none⟩) 4 4) rfl (by kernel_rfl) (by kernel_rfl) (by kernel_rfl) (fun _ _ _ h => h) (Or.inl ⟨rfl, fun _ _ => rfl⟩) hHeld ?_
      try simp only [Act.put, List.setIfInBounds_toArray, List.set_cons_zero, List.set_cons_succ]
      refine takeL 1 (.int .i64 k) rfl (by kernel_rfl) (by kernel_rfl) (by kernel_rfl) (fun _ _ _ h => h) (Or.inl ⟨rfl, fun _ _ => rfl⟩) hHeld ?_
      try simp only [Act.put, List.setIfInBounds_toArray, List.set_cons_zero, List.set_cons_succ]
      refine takeL 2 (.pointer (some ⟨bb, 0, none⟩)) rfl (by kernel_rfl) (by kernel_rfl) (by kernel_rfl) (fun _ _ _ h => h) (Or.inl ⟨rfl, fun w9 hSw => by go_simp⟩) hHeld ?_
      try simp only [Act.put, List.setIfInBounds_toArray, List.set_cons_zero, List.set_cons_succ]
      refine takeL 3 (_) rfl (by kernel_rfl) (by kernel_rfl) (by kernel_rfl) (fun _ _ _ h => h) (yieldsIf_load_mid rfl 69 _ rfl bb 0 rfl (psC b.ps) _ (fun _ h => h.1) Tryz.underlying69 rfl (size_row hb4)) hHeld ?_
      try simp only [Act.put, List.setIfInBounds_toArray, List.set_cons_zero, List.set_cons_succ]
      refine takeL 5 (.pointer (some ⟨bb, 20, none⟩)) rfl (by kernel_rfl) (by kernel_rfl) (by kernel_rfl) (fun _ _ _ h => h) (Or.inl ⟨rfl, fun w9 hSw => by go_simp⟩) hHeld ?_
      try simp only [Act.put, List.setIfInBounds_toArray, List.set_cons_zero, List.set_cons_succ]
      refine takeL 6 (.int .i64 b.wn) rfl (by kernel_rfl) (by kernel_rfl) (by kernel_rfl) (fun _ _ _ h => h) (Or.inl ⟨rfl, fun w9 hSw => by have hc := hSw.2; go_simp⟩) hHeld ?_
      try simp only [Act.put, List.setIfInBounds_toArray, List.set_cons_zero, List.set_cons_succ]
      refine oneL 4 rfl (by kernel_rfl) rfl (fun K hK => ?_)
      go_simp
      refine (rowList_any b.ps hb4 _).mono ?_
      rintro e w4 ⟨rfl, rr, tt, ss, b4⟩
      go_wp2_with fail
      refine hK.out _ _ ⟨rangeAt_below hHeld.1 b4 (by simpa using s2), by rw [b4.cell (p := ⟨bb, 20, none⟩) (by simpa using s2)]; exact hHeld.2⟩ (fun hHeld4 => ?_)
      have o4 := o3.below b4 (Nat.le_refl _)
      have B4 := B2.drew.trans (b4.mono B2.size)
      have hlt3 := o3.hi
      have b4s := b4.size
      clear o3 B2 b4 hHeld
      clear hK K
      try simp only [World.size_drew] at *
      have hHeld := hHeld4
      try simp only [Act.put, List.setIfInBounds_toArray, List.set_cons_zero, List.set_cons_succ]
      refine takeL 7 (.agg #[.slice (some ⟨w2.heap.size + 1, 0, none⟩) 4 4, .int .i64 b.wn]) rfl (by kernel_rfl) (by kernel_rfl) (by kernel_rfl) (fun _ _ _ h => h) (Or.inl ⟨rfl, fun w9 hSw => by go_simp⟩) hHeld ?_
      try simp only [Act.put, List.setIfInBounds_toArray, List.set_cons_zero, List.set_cons_succ]
      refine takeL 8 (.pointer (some ⟨w.heap.size + 1, k * 2, none⟩)) rfl (by kernel_rfl) (by kernel_rfl) (by kernel_rfl) (fun _ _ _ h => h) (Or.inl ⟨rfl, fun w9 hSw => by go_simp⟩) hHeld ?_
      try simp only [Act.put, List.setIfInBounds_toArray, List.set_cons_zero, List.set_cons_succ]
      refine oneL 9 rfl (by kernel_rfl) rfl (fun K hK => ?_)
      have tk : w4.there (w.heap.size + 1) (k * 2) 2 := by have := there_sub o4.room (k * 2) 2 (by omega); simpa using this
      refine wp_store_mid 125 _ _ rfl (w.heap.size + 1) (k * 2) #[.slice (some ⟨w2.heap.size + 1, 0, none⟩) 4 4, .int .i64 b.wn] rfl rfl tk (by kernel_rfl) (one_two rfl rfl) ?_
      have tl : (bs.take k).length = k := by simp; omega
      have op := o4.push (by omega) (w2.heap.size + 1) 4 b (by omega) (by omega) (fun h => by have := hlt3 _ h; omega) rr (by rw [hb4]; exact tt) (by omega)
      rw [tl, hb4] at op
      refine hK.out _ _ ⟨World.rangeAt_setCells_apart hHeld.1 _ _ _ (.inl (by omega)), by rw [cell_setCells_ne (.inl (by omega))]; exact hHeld.2⟩ (fun hHeld => ?_)
      clear hK K
      try simp only [Act.put, List.setIfInBounds_toArray, List.set_cons_zero, List.set_cons_succ]
      refine wpAnyH_done (by kernel_rfl) ?_ _
      refine NoPanic.normal ?_
      go_wp2
      go_roundw
      case rel =>
        refine ⟨k + 1, by omega, by first | rfl | go_num, ⟨G ++ [w2.heap.size + 1], by rw [unhide HT]; exact op⟩, below_setCells _ (by omega) _ _ _ B4⟩
      case measure => simp [intOf]; omega
theorem here : True := trivial
end Go.Proofs.YtbiokmojjneleaaGreat.ImplT

/-
  The program's FlashOk, FlashClean and FlashNew, for every list of blocks.
-/
namespace Go.Proofs.YtbiokmojjneleaaGreat.ImplU
open Go.ChangeShapes Go.WideShapes Go.ChangeAt Go.RowKit OkA Big Fl ImplB ImplF ImplS _root_.Go.Proofs.YtbiokmojjneleaaGreat.Own ImplT
set_option linter.unusedVariables false
set_option linter.unusedSimpArgs false

theorem ofz_any (a : Option Addr) (cap : Nat) (bs : List Bk) (w : World) (hf : FsAt w a bs) (hm : bs.length ≤ 9223372036854775807) :
    Calls Tryz.prog 70 #[.slice a bs.length cap] w fun e w' => KeptPost w bs (okB bs) e w' := of_any zFs fours_z rfl zero_fs a cap bs w hf hm

/-- A zero row of blocks, without its cells. -/
theorem zrow : ∃ zf : Array Value, (Tryz.prog.info? 73).bind (·.zero) = some (.agg zf) ∧ zf.size = 84 := ⟨(fsC zFs).toArray, zero_fs, rfl⟩

def cleanR (bs : List Bk) (blk : Int) : Int := if okB bs && inB blk 0 3 then 4 - usedN (bs.getD blk.toNat zBk).ps else -1
theorem ok_len {bs : List Bk} (h : okB bs = true) : bs.length = 4 := by
  simp only [okB, Bool.and_eq_true, beq_iff_eq] at h; exact h.1.1
theorem ok_fours {bs : List Bk} (h : okB bs = true) : Fours bs := fun b hb => by
  simp only [okB, Bool.and_eq_true, List.all_eq_true] at h
  have := h.1.2 b hb
  simp only [bkB, Bool.and_eq_true, beq_iff_eq] at this
  exact this.1.1.1
theorem in_range {blk : Int} (h : inB blk 0 3 = true) : ∃ k : Nat, blk = (k : Int) ∧ k < 4 := by
  simp only [inB, decide_eq_true_eq] at h
  exact ⟨blk.toNat, by omega, by omega⟩
theorem sub_fs {w : World} {g : Nat} {bs : List Bk} (hF : Fours bs) (h : w.rangeAt g 0 (fsC bs)) (k : Nat) (hk : k < bs.length) : w.rangeAt g (k * 21) (bkC bs[k]) := by
  have := rangeAt_sub h (k * 21) 21
  rw [part_fs bs hF k hk, Nat.zero_add] at this
  exact this

theorem built_new : Tryz.prog.built 73 [] = some (fsC zFs).toArray := by kernel_rfl

set_option maxRecDepth 100000 in
set_option maxHeartbeats 400000 in
theorem flashNew_any (w : World) : Calls Tryz.prog 73 #[] w fun e w' => ListPost w zFs e w' := by
  have HB := hide built_new
  have HL := hide (list_any zFs rfl fours_z)
  have hsz : zFs.length = 4 := rfl
  generalize zFs = zs at *
  go_enter Tryz.func73, Tryz.ntmps73
  go_wp2_with (first | (refine wpList_build_big rfl 73 #[] rfl [] (by simp) (fsC zs).toArray (unhide HB) ?_))
  refine (unhide HL _).mono ?_
  rintro e w1 ⟨g, G, rfl, h⟩
  go_wp2
  go_ret
  exact ⟨g, G, rfl, h⟩
theorem here : True := trivial
end Go.Proofs.YtbiokmojjneleaaGreat.ImplU
