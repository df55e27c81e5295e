/-
  Texts that belong together, one behind the other: Ok2, SpecF.
-/
import Derived.Test.YtkikeapfjpnkgaaBaI
import Derived.Test.YtkikeapfjpnkgaaBaG

/-
  Plain lists: blocks that are ok stay ok when a record is written, or a block is wiped. Nothing here walks the program.
-/
namespace Go.Proofs.Ytkikeapfjpnkgaa.Ok2
open Go.ChangeShapes Go.WideShapes Go.ChangeAt Go.RowKit OkA Big Fl ImplB ImplF ImplS _root_.Go.Proofs.Ytkikeapfjpnkgaa.Own ImplT ImplU SpecA SpecB SpecC SpecD SpecW
set_option linter.unusedVariables false
set_option linter.unusedSimpArgs false

theorem okB_iff (bs : List Bk) : okB bs = true ↔ bs.length = 4 ∧ (∀ b ∈ bs, bkB b = true) ∧ (seqs bs).Nodup := by
  simp [okB, nodB_iff, and_assoc]
theorem bkB_iff (b : Bk) : bkB b = true ↔ b.ps.length = 4 ∧ (0 ≤ b.wn ∧ b.wn ≤ 200) ∧ (∀ p ∈ b.ps, pgB p = true) ∧ tailB b.ps = true := by
  simp [bkB, inB, and_assoc]
theorem mem_set {α : Type} {l : List α} {k : Nat} {y x : α} (h : x ∈ l.set k y) : x ∈ l ∨ x = y := List.mem_or_eq_of_mem_set h
theorem seqsP_set (ps : List Pg) (u : Nat) (p : Pg) (hu : u < ps.length) (h : seqP ps[u] = none) : (seqsP (ps.set u p)).Perm ((seqP p).toList ++ seqsP ps) := by
  induction ps generalizing u with
  | nil => simp at hu
  | cons q r ih =>
    cases u with
    | zero =>
      simp only [List.getElem_cons_zero] at h
      simp only [List.set_cons_zero, seqsP, List.filterMap_cons, h]
      cases seqP p <;> simp
    | succ u =>
      simp only [List.getElem_cons_succ] at h
      have := ih u (by simpa using hu) h
      simp only [List.set_cons_succ]
      unfold seqsP at this ⊢
      simp only [List.filterMap_cons]
      cases seqP q with
      | none => exact this
      | some x => exact (List.Perm.cons x this).trans List.perm_middle.symm
theorem seqs_set (bs : List Bk) (k : Nat) (b : Bk) (l : List Int) (hk : k < bs.length) (h : (seqsP b.ps).Perm (l ++ seqsP bs[k].ps)) : (seqs (bs.set k b)).Perm (l ++ seqs bs) := by
  induction bs generalizing k with
  | nil => simp at hk
  | cons q r ih =>
    cases k with
    | zero =>
      simp only [List.getElem_cons_zero] at h
      simp only [List.set_cons_zero, seqs, List.flatMap_cons]
      rw [← List.append_assoc]
      exact h.append_right _
    | succ k =>
      simp only [List.getElem_cons_succ] at h
      have := ih k (by simpa using hk) h
      simp only [List.set_cons_succ]
      unfold seqs at this ⊢
      simp only [List.flatMap_cons]
      refine (this.append_left _).trans ?_
      rw [← List.append_assoc, ← List.append_assoc]
      exact List.perm_append_comm.append_right _
theorem seqs_drop (bs : List Bk) (k : Nat) (b : Bk) (hk : k < bs.length) (h : seqsP b.ps = []) : (seqs (bs.set k b)).Sublist (seqs bs) := by
  induction bs generalizing k with
  | nil => simp at hk
  | cons q r ih =>
    cases k with
    | zero => simp only [List.set_cons_zero, seqs, List.flatMap_cons, h, List.nil_append]; exact List.sublist_append_right _ _
    | succ k =>
      have := ih k (by simpa using hk)
      simp only [List.set_cons_succ]
      unfold seqs at this ⊢
      simp only [List.flatMap_cons]
      exact this.append_left _
theorem getD_in (bs : List Bk) (k : Nat) (hk : k < bs.length) : bs.getD k zBk = bs[k] := by rw [List.getD_eq_getElem?_getD, List.getElem?_eq_getElem hk]; rfl
theorem list_four {α : Type} {l : List α} (h : l.length = 4) : ∃ a b c d, l = [a, b, c, d] := by
  match l, h with
  | [a, b, c, d], _ => exact ⟨a, b, c, d, rfl⟩
/-- The first clean page is clean. -/
theorem used_clean (ps : List Pg) (h : usedN ps < ps.length) : clB ps[usedN ps] = true := by
  induction ps with
  | nil => simp at h
  | cons p r ih =>
    by_cases h0 : usedN r = 0
    · cases hc : clB p
      · have e : usedN (p :: r) = 1 := by simp [usedN, h0, hc]
        simp only [e] at h ⊢
        have hr := (usedN_zero r).1 h0
        rw [List.all_eq_true] at hr
        simp only [List.getElem_cons_succ]
        exact hr _ (List.getElem_mem _)
      · have e : usedN (p :: r) = 0 := by simp [usedN, h0, hc]
        simp only [e, List.getElem_cons_zero, hc]
    · have e : usedN (p :: r) = usedN r + 1 := by simp [usedN, h0]
      simp only [e] at h ⊢
      simp only [List.getElem_cons_succ]
      exact ih (by simpa using h)
theorem used_set (ps : List Pg) (h4 : ps.length = 4) (p : Pg) (hp : clB p = false) (h : usedN ps < 4) (ht : tailB ps = true) : tailB (ps.set (usedN ps) p) = true ∧ usedN (ps.set (usedN ps) p) = usedN ps + 1 := by
  obtain ⟨a, b, c, d, rfl⟩ := list_four h4
  revert h ht
  cases ha : clB a <;> cases hb : clB b <;> cases hc : clB c <;> cases hd : clB d <;> simp [usedN, tailB, ha, hb, hc, hd, hp]
theorem pgW_st (torn : Bool) (rk rs ra rv : Int) : clB (pgW torn rk rs ra rv) = false := by cases torn <;> rfl
theorem pgW_ok (torn : Bool) (rk rs ra rv : Int) (h : recB rk rs ra rv = true) : pgB (pgW torn rk rs ra rv) = true := by
  cases torn
  · simpa [pgW, pgB] using h
  · rfl
theorem wrL_len (bs : List Bk) (k : Nat) (p : Pg) : (wrL bs k p).length = bs.length := by simp [wrL]
theorem wrN_no {bs : List Bk} {k : Nat} {rs : Int} (h : wrN bs k rs = false) : usedN (bs.getD k zBk).ps ≠ 4 ∧ hasB bs rs = false := by
  simpa [wrN] using h
theorem okB_wr (bs : List Bk) (k : Nat) (hk : k < 4) (hok : okB bs = true) (torn : Bool) (rk rs ra rv : Int) (hr : recB rk rs ra rv = true) (hn : wrN bs k rs = false) : okB (wrL bs k (pgW torn rk rs ra rv)) = true := by
  obtain ⟨h4, hb, hd⟩ := (okB_iff bs).1 hok
  have hkb : k < bs.length := by omega
  obtain ⟨hu, hh⟩ := wrN_no hn
  have hg := getD_in bs k hkb
  rw [hg] at hu
  obtain ⟨g4, gw, gp, gt⟩ := (bkB_iff _).1 (hb bs[k] (List.getElem_mem hkb))
  have hul : usedN bs[k].ps < bs[k].ps.length := by have := usedN_le bs[k].ps; omega
  have hcl := used_clean _ hul
  obtain ⟨t1, t2⟩ := used_set bs[k].ps g4 (pgW torn rk rs ra rv) (pgW_st _ _ _ _ _) (by omega) gt
  refine (okB_iff _).2 ⟨by rw [wrL_len]; exact h4, fun b hm => ?_, ?_⟩
  · unfold wrL at hm
    rcases mem_set hm with hm | rfl
    · exact hb b hm
    · rw [hg]
      refine (bkB_iff _).2 ⟨by simpa using g4, gw, fun p hp => ?_, t1⟩
      rcases mem_set hp with hp | rfl
      · exact gp p hp
      · exact pgW_ok _ _ _ _ _ hr
  · have hs : seqP bs[k].ps[usedN bs[k].ps] = none := by
      unfold seqP; rw [if_neg]
      simp [clB] at hcl; omega
    have p1 := seqsP_set bs[k].ps (usedN bs[k].ps) (pgW torn rk rs ra rv) hul hs
    have p2 := seqs_set bs k ⟨bs[k].ps.set (usedN bs[k].ps) (pgW torn rk rs ra rv), bs[k].wn⟩ _ hkb p1
    unfold wrL; rw [hg]
    rw [p2.nodup_iff]
    cases torn
    · have : (seqP (pgW false rk rs ra rv)).toList = [rs] := rfl
      rw [this]
      simp only [List.singleton_append, List.nodup_cons]
      exact ⟨by simpa [hasB] using hh, hd⟩
    · exact hd
theorem wiL_len (bs : List Bk) (k : Nat) (torn : Bool) : (wiL bs k torn).length = bs.length := by simp [wiL]
theorem pgS_ok (torn : Bool) : pgB (pgS torn) = true := by cases torn <;> rfl
theorem seqs_wi (torn : Bool) : seqsP (List.replicate 4 (pgS torn)) = [] := by cases torn <;> rfl
theorem tail_wi (torn : Bool) : tailB (List.replicate 4 (pgS torn)) = true := by cases torn <;> rfl
theorem okB_wi (bs : List Bk) (k : Nat) (hk : k < 4) (hok : okB bs = true) (torn : Bool) (hn : wiN bs k = false) : okB (wiL bs k torn) = true := by
  obtain ⟨h4, hb, hd⟩ := (okB_iff bs).1 hok
  have hkb : k < bs.length := by omega
  have hg := getD_in bs k hkb
  obtain ⟨g4, gw, gp, gt⟩ := (bkB_iff _).1 (hb bs[k] (List.getElem_mem hkb))
  unfold wiN at hn; rw [hg] at hn
  simp at hn
  refine (okB_iff _).2 ⟨by rw [wiL_len]; exact h4, fun b hm => ?_, ?_⟩
  · unfold wiL wiB at hm
    rcases mem_set hm with hm | rfl
    · exact hb b hm
    · rw [hg]
      exact (bkB_iff _).2 ⟨by simp, by simp only; omega, fun p hp => by rw [List.eq_of_mem_replicate hp]; exact pgS_ok _, tail_wi _⟩
  · unfold wiL wiB; rw [hg]
    exact hd.sublist (seqs_drop bs k _ hkb (seqs_wi torn))
end Go.Proofs.Ytkikeapfjpnkgaa.Ok2

/-
  The specification's finding: the greatest number of a block's records.
-/
namespace Go.Proofs.Ytkikeapfjpnkgaa.SpecF
open Go.ChangeShapes Go.WideShapes Go.ChangeAt Go.RowKit OkA Big Fl ImplB ImplF ImplS _root_.Go.Proofs.Ytkikeapfjpnkgaa.Own ImplT ImplU SpecA SpecB
set_option linter.unusedVariables false
set_option linter.unusedSimpArgs false

def mx (m s : Int) : Int := if m < s then s else m
def mostN (ps : List Pg) : Int := ps.foldl (fun m p => mx m p.s) 0
theorem mostN_take (ps : List Pg) (j : Nat) (hj : j < ps.length) : mostN (ps.take (j + 1)) = mx (mostN (ps.take j)) ps[j].s := by
  unfold mostN
  rw [List.take_succ_eq_append_getElem hj, List.foldl_append]
  rfl

set_option maxHeartbeats 1000000 in
theorem most_any (a : Option Addr) (cap : Nat) (ps : List Pg) (wn : Int) (w : World) (h : PsAt w a ps) (hl : ps.length ≤ 1048576) :
    Calls Try.prog 64 #[.agg #[.slice a ps.length cap, .int .i64 wn]] w fun e w' => e = .returned (.int .i64 (mostN ps)) ∧ Below w.heap.size w w' := by
  have B0 : Below w.heap.size w (w.alloc (.cells #[.slice a ps.length cap, .int .i64 wn] 36)) := (Below.refl _ _).alloc (Nat.le_refl _) _
  have H := hide (h.below B0)
  have c0 : (w.alloc (.cells #[.slice a ps.length cap, .int .i64 wn] 36)).cell? ⟨w.heap.size, 0, none⟩ = some (.slice a ps.length cap) := by
    rw [World.cell?_alloc_at _ _ _ _ rfl]; rfl
  have HN : Hid (mostN (ps.take ps.length) = mostN ps) := by show _ = _; rw [List.take_of_length_le (Nat.le_refl _)]
  clear h
  generalize hn : ps.length = n at *
  have HL := hide hn
  clear hn
  have hli : (n : Int) ≤ 1048576 := by omega
  go_enter Try.func64, Try.ntmps64
  go_wp2
  generalize w.alloc (.cells #[.slice a n cap, .int .i64 wn] 36) = w1 at *
  go_loop [3, 4] (fun m i => ∃ k : Nat, k ≤ n ∧ i = .int .i64 k ∧ m = .int .i64 (mostN (ps.take k))) (fun _ i => n - (intOf i).toNat)
  case atStart => exact ⟨0, by omega, rfl, rfl⟩
  case round =>
    obtain ⟨k, hk, rfl, rfl⟩ := hrel
    by_cases h0 : k = n
    · subst h0
      go_wp2
      go_ret
      exact ⟨by rw [← unhide HN]; rfl, B0⟩
    · have hlt : (k : Int) < (n : Int) := by omega
      have hkb : k < ps.length := by have := unhide HL; omega
      have hlo : (0 : Int) ≤ (k : Int) := by omega
      obtain ⟨b1, o1, rfl, g1⟩ : ∃ b o, a = some ⟨b, o, none⟩ ∧ w1.rangeAt b o (psC ps) := by
        rcases unhide H with rfl | h
        · simp at hkb
        · exact h
      have d2 := (PsAt.cells g1 k hkb).2.2.1
      have HT := hide (mostN_take ps k hkb)
      clear g1
      generalize ps[k].s = s at *
      generalize hm : mostN (ps.take k) = m at *
      go_wp2
      go_round
      case rel => exact ⟨k + 1, by omega, by first | rfl | go_num, by rw [unhide HT]; rfl⟩
      case measure => simp [intOf]; omega

def mostB (bs : List Bk) : Int := bs.foldl (fun m b => mx m (mostN b.ps)) 0
theorem mostB_take (bs : List Bk) (j : Nat) (hj : j < bs.length) : mostB (bs.take (j + 1)) = mx (mostB (bs.take j)) (mostN bs[j].ps) := by
  unfold mostB
  rw [List.take_succ_eq_append_getElem hj, List.foldl_append]
  rfl
set_option maxHeartbeats 1000000 in
theorem next_any (a : Option Addr) (cap : Nat) (bs : List Bk) (w : World) (hf : FsAt w a bs) (hl : bs.length ≤ 1048576) (hp : ∀ b ∈ bs, b.ps.length ≤ 1048576) :
    Calls Try.prog 75 #[.slice a bs.length cap] w fun e w' => e = .returned (.int .i64 (wrap64 (mostB bs + 1))) ∧ Below w.heap.size w w' := by
  have H := hide hf
  have HP := hide hp
  have HN : Hid (mostB (bs.take bs.length) = mostB bs) := by show _ = _; rw [List.take_of_length_le (Nat.le_refl _)]
  clear hf hp
  generalize hn : bs.length = n at *
  have HL := hide hn
  clear hn
  have hli : (n : Int) ≤ 1048576 := by omega
  go_enter Try.func75, Try.ntmps75
  go_wp2
  go_loopw [3, 4] (fun m i w' => ∃ k : Nat, k ≤ n ∧ i = .int .i64 k ∧ m = .int .i64 (mostB (bs.take k)) ∧ Below w.heap.size w w') (fun _ i _ => n - (intOf i).toNat)
  case atStart => exact ⟨0, by omega, rfl, rfl, Below.refl _ _⟩
  case round =>
    obtain ⟨k, hk, rfl, rfl, bw⟩ := hrel
    by_cases h0 : k = n
    · subst h0
      rw [unhide HN]
      go_wp2
      go_ret
      exact ⟨rfl, bw⟩
    · have hlt : (k : Int) < (n : Int) := by omega
      have hkb : k < bs.length := by have := unhide HL; omega
      have hlo : (0 : Int) ≤ (k : Int) := by omega
      obtain ⟨b1, o1, rfl, g1⟩ : ∃ b o, a = some ⟨b, o, none⟩ ∧ ∀ i (hi : i < bs.length), BkAt wr b (o + i * 2) bs[i] := by
        rcases (unhide H).below bw with rfl | h
        · simp at hkb
        · exact h
      obtain ⟨p1, c1, d0, d1, q1⟩ := g1 k hkb
      have HC := hide (most_any p1 c1 bs[k].ps bs[k].wn wr q1 (unhide HP _ (List.getElem_mem hkb)))
      have HT := hide (mostB_take bs k hkb)
      clear g1 q1
      generalize bs[k].ps.length = q at *
      generalize mostN bs[k].ps = s at *
      generalize bs[k].wn = wn at *
      generalize hm : mostB (bs.take k) = m at *
      go_wp2_with fail
      refine (unhide HC).mono ?_
      rintro e w2 ⟨rfl, b2⟩
      have B2 := bw.trans (b2.mono bw.size)
      clear b2 bw d0 d1 HC
      go_wp2
      go_roundw
      case rel => exact ⟨k + 1, by omega, by first | rfl | go_num, by rw [unhide HT]; rfl, B2⟩
      case measure => simp [intOf]; omega
end Go.Proofs.Ytkikeapfjpnkgaa.SpecF
