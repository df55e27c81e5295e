/-
  Texts that belong together, one behind the other: LawsA, LawsB.
-/
import Derived.Test.YtogfelpdgeionaaGreatHaE
import Derived.Deep.RegionHeld3
import Derived.Deep.DrawnRows

/-
  The laws' helpers, for every list of blocks: how much there is of it; the same as the program's own blocks, in memory of its own.
-/
namespace Go.Proofs.YtogfelpdgeionaaGreat.LawsA
open Go.ChangeShapes Go.WideShapes Go.ChangeAt Go.RowKit OkA Big Fl ImplB ImplF ImplS _root_.Go.Proofs.YtogfelpdgeionaaGreat.Own ImplT ImplU SpecA SpecB
set_option linter.unusedVariables false
set_option linter.unusedSimpArgs false

/-! How much. -/
def szR (l : Int) (n : Nat) : Int := if l - n < 0 then -1 else l - n
set_option maxHeartbeats 400000 in
theorem szPageS_any (a : Option Addr) (n cap : Nat) (l : Int) (w : World) (h0 : 0 ≤ l) (h1 : l ≤ 1048576) (hn : (n : Int) ≤ 9223372036854775807) :
    Calls Tryz.prog 234 #[.slice a n cap, .int .i64 l] w fun e w' => e = .returned (.int .i64 (szR l n)) ∧ w' = w := by
  by_cases h : l - n < 0
  · have HR : Hid (szR l n = -1) := if_pos h
    go_enter Tryz.func234, Tryz.ntmps234
    go_wp2
    go_ret
    exact ⟨by rw [unhide HR]; rfl, rfl⟩
  · have HR : Hid (szR l n = l - n) := if_neg h
    go_enter Tryz.func234, Tryz.ntmps234
    go_wp2
    go_ret
    exact ⟨by rw [unhide HR]; rfl, rfl⟩
set_option maxHeartbeats 400000 in
theorem szBlock_any (a : Option Addr) (n cap : Nat) (wn l : Int) (w : World) (h0 : 0 ≤ l) (h1 : l ≤ 1048576) (hn : (n : Int) ≤ 9223372036854775807) :
    Calls Tryz.prog 190 #[.agg #[.slice a n cap, .int .i64 wn], .int .i64 l] w fun e w' => e = .returned (.int .i64 (szR l n)) ∧ Below w.heap.size w w' := by
  have HC := hide (szPageS_any a n cap l (w.alloc (.cells #[.slice a n cap, .int .i64 wn] 226)) h0 h1 hn)
  by_cases h : l - n < 0
  · have hR : szR l n = -1 := if_pos h
    rw [hR] at HC ⊢
    clear hR
    go_enter Tryz.func190, Tryz.ntmps190
    go_wp2_with (go_at_call 234; refine (unhide HC).mono ?_; rintro e w' ⟨rfl, rfl⟩)
    go_ret
    exact ⟨rfl, (Below.refl _ _).alloc (Nat.le_refl _) _⟩
  · have hR : szR l n = l - n := if_neg h
    rw [hR] at HC ⊢
    clear hR
    go_enter Tryz.func190, Tryz.ntmps190
    go_wp2_with (go_at_call 234; refine (unhide HC).mono ?_; rintro e w' ⟨rfl, rfl⟩)
    go_ret
    exact ⟨rfl, (Below.refl _ _).alloc (Nat.le_refl _) _⟩

/-- Where it is not below 0 there is not much. -/
def SzPost (w : World) (bs : List Bk) (e : Ending) (w' : World) : Prop := ∃ r : Int, e = .returned (.int .i64 r) ∧ -1 ≤ r ∧ r ≤ 1048576 ∧ (0 ≤ r → bs.length ≤ 1048576 ∧ ∀ b ∈ bs, b.ps.length ≤ 1048576) ∧ Below w.heap.size w w'
/-- No list is longer than memory. -/
def Fit (bs : List Bk) : Prop := (bs.length : Int) ≤ 9223372036854775807 ∧ ∀ b ∈ bs, (b.ps.length : Int) ≤ 9223372036854775807

set_option maxHeartbeats 1000000 in
theorem szBlockS_any (a : Option Addr) (cap : Nat) (bs : List Bk) (w : World) (hf : FsAt w a bs) (hfit : Fit bs) :
    Calls Tryz.prog 124 #[.slice a bs.length cap, .int .i64 1048576] w fun e w' => SzPost w bs e w' := by
  have hl := hfit.1
  by_cases h : (1048576 : Int) - bs.length < 0
  · go_enter Tryz.func124, Tryz.ntmps124
    go_wp2
    go_ret
    exact ⟨-1, rfl, by omega, by omega, fun h => by omega, Below.refl _ _⟩
  have hlen : bs.length ≤ 1048576 := by omega
  have HF := hide hf
  clear hf
  go_enter Tryz.func124, Tryz.ntmps124
  go_wp2
  go_loopw [1, 5] (fun l i w' => ∃ (k : Nat) (q : Int), k ≤ bs.length ∧ i = .int .i64 k ∧ l = .int .i64 q ∧ 0 ≤ q ∧ q ≤ 1048576 ∧ Hid (∀ j (hj : j < bs.length), j < k → bs[j].ps.length ≤ 1048576) ∧ Below w.heap.size w w') (fun _ i _ => bs.length - (intOf i).toNat)
  case atStart => exact ⟨0, _, by omega, rfl, rfl, by omega, by omega, fun j hj h => by omega, Below.refl _ _⟩
  case round =>
    obtain ⟨k, q, hk, rfl, rfl, hq0, hq1, hall, bw⟩ := hrel
    by_cases h0 : k = bs.length
    · subst h0
      go_wp2
      go_ret
      exact ⟨q, rfl, by omega, hq1, fun _ => ⟨hlen, fun b hb => by
        obtain ⟨j, hj, rfl⟩ := List.getElem_of_mem hb
        exact hall.out j hj hj⟩, bw⟩
    · have hlt : (k : Int) < (bs.length : Int) := by omega
      have hkb : k < bs.length := by omega
      have hlo : (0 : Int) ≤ (k : Int) := by omega
      obtain ⟨fb, fo, rfl, hb⟩ : ∃ fb fo, a = some ⟨fb, fo, none⟩ ∧ ∀ i (hi : i < bs.length), BkAt w fb (fo + i * 2) bs[i] := by
        rcases unhide HF with rfl | h
        · simp at hkb
        · exact h
      obtain ⟨pa, pc, c0, c1, _⟩ := (hb k hkb).below bw
      have hn : (bs[k].ps.length : Int) ≤ 9223372036854775807 := hfit.2 _ (List.getElem_mem hkb)
      generalize hbk : bs[k] = b at *
      have HBK := hide hbk
      clear hbk hb
      have HC := hide (szBlock_any pa b.ps.length pc b.wn q wr hq0 hq1 hn)
      by_cases hneg : q - b.ps.length < 0
      · have hR : szR q b.ps.length = -1 := if_pos hneg
        rw [hR] at HC
        clear hR
        go_wp2_with fail
        refine (unhide HC).mono ?_
        rintro e w2 ⟨rfl, b2⟩
        clear c0 c1
        go_wp2
        go_ret
        exact ⟨-1, rfl, by omega, by omega, fun h => by omega, bw.trans (b2.mono bw.size)⟩
      · have hR : szR q b.ps.length = q - b.ps.length := if_neg hneg
        rw [hR] at HC
        clear hR
        go_wp2_with fail
        refine (unhide HC).mono ?_
        rintro e w2 ⟨rfl, b2⟩
        clear c0 c1
        go_wp2
        go_roundw
        case rel =>
          refine ⟨k + 1, _, by omega, by first | rfl | go_num, rfl, by omega, by omega, fun j hj h => ?_, bw.trans (b2.mono bw.size)⟩
          by_cases e : j = k
          · subst e; rw [unhide HBK]; omega
          · exact hall.out j hj (by omega)
        case measure => simp [intOf]; omega

theorem cell_top (w : World) (cs : Array Value) (T : TypeId) (n j : Nat) (v : Value) (h : n = w.heap.size) (hv : cs[j]? = some v) : (w.alloc (.cells cs T)).cell? ⟨n, j, none⟩ = some v := by
  rw [World.cell?_alloc_at cs T n j h, hv]
/-! The same as the program's blocks. -/
theorem zpg : (Tryz.prog.info? 102).bind (·.zero) = some (.agg (pgC zPg).toArray) := by kernel_rfl
theorem size_pg (p : Pg) : (Tryz.prog.info? 102).map (·.size) = some (pgC p).length := by rw [len_pgC]; kernel_rfl
theorem size_pga (p : Pg) : (Tryz.prog.info? 102).map (·.size) = some (pgC p).toArray.size := by rw [List.size_toArray, len_pgC]; kernel_rfl
theorem one_pg (p : Pg) : (pgC p).toArray.all (·.oneCell') = true := all_oneCell_toArray (one_pgC p)
theorem one_rec (k s a v : Int) : #[Value.int .i64 k, .int .i64 s, .int .i64 a, .int .i64 v].all (·.oneCell') = true := all_oneCell_toArray (cs := [.int .i64 k, .int .i64 s, .int .i64 a, .int .i64 v]) (by intro x hx; simp at hx; rcases hx with rfl | rfl | rfl | rfl <;> rfl)

def recC (p : Pg) : Array Value := #[.int .i64 p.k, .int .i64 p.s, .int .i64 p.a, .int .i64 p.v]
theorem one_recC (p : Pg) : (recC p).all (·.oneCell') = true := one_rec _ _ _ _
theorem size_recC (p : Pg) : (Tryz.prog.info? 35).map (·.size) = some (recC p).size := by show _ = some 4; kernel_rfl
set_option maxHeartbeats 1000000 in
theorem toPage_any (p : Pg) (w : World) :
    Calls Tryz.prog 265 #[.agg #[.int .i64 p.st, .int .i64 p.k, .int .i64 p.s, .int .i64 p.a, .int .i64 p.v]] w fun e w' => e = .returned (.agg (pgC p).toArray) ∧ Below w.heap.size w w' := by
  go_enter Tryz.func265, Tryz.ntmps265
  go_wp2_with fail
  refine (toRec_any _ _ _ _ _).mono ?_
  rintro e w1 ⟨rfl, b1⟩
  generalize hW : ((w.alloc (.cells #[.int .i64 p.st, .int .i64 p.k, .int .i64 p.s, .int .i64 p.a, .int .i64 p.v] 307)).alloc (.cells #[.int .i64 0, .int .i64 0, .int .i64 0, .int .i64 0, .int .i64 0] 102)).alloc (.cells #[.int .i64 p.st, .int .i64 0, .int .i64 0, .int .i64 0, .int .i64 0] 102) = W at b1
  have sW : W.heap.size = w.heap.size + 1 + 1 + 1 := by rw [← hW]; simp
  have t2 : W.there (w.heap.size + 1) 0 5 := by
    rw [← hW]
    have := World.there_alloc (there_new (w.alloc (.cells #[.int .i64 p.st, .int .i64 p.k, .int .i64 p.s, .int .i64 p.a, .int .i64 p.v] 307)) [.int .i64 0, .int .i64 0, .int .i64 0, .int .i64 0, .int .i64 0] 102) (.cells #[.int .i64 p.st, .int .i64 0, .int .i64 0, .int .i64 0, .int .i64 0] 102)
    simpa using this
  have t3 : W.there (w.heap.size + 1 + 1) 0 5 := by
    rw [← hW]
    have := there_new ((w.alloc (.cells #[.int .i64 p.st, .int .i64 p.k, .int .i64 p.s, .int .i64 p.a, .int .i64 p.v] 307)).alloc (.cells #[.int .i64 0, .int .i64 0, .int .i64 0, .int .i64 0, .int .i64 0] 102)) [.int .i64 p.st, .int .i64 0, .int .i64 0, .int .i64 0, .int .i64 0] 102
    simpa using this
  have r3 : W.cell? ⟨w.heap.size + 1 + 1, 0, none⟩ = some (.int .i64 p.st) := by
    rw [← hW]
    exact cell_top _ _ _ _ _ _ (by simp) rfl
  have B0 : Below w.heap.size w W := by rw [← hW]; exact (((Below.refl _ _).alloc (Nat.le_refl _) _).alloc (by simp) _).alloc (by simp; omega) _
  have T2 := there_below t2 b1 (by omega)
  have T3 := there_below t3 b1 (by omega)
  rw [← b1.cell (p := ⟨w.heap.size + 1 + 1, 0, none⟩) (by show w.heap.size + 1 + 1 < _; omega)] at r3
  have B1 := B0.trans (b1.mono (by omega))
  have T4 : w1.there (w.heap.size + 1 + 1) 1 (recC p).size := by have := there_sub T3 1 4 (by omega); rw [Nat.zero_add] at this; exact this
  have R3 : (w1.setCells (w.heap.size + 1 + 1) 1 (recC p).toList).rangeAt (w.heap.size + 1 + 1) 0 (pgC p) := by
    have h1 := World.rangeAt_setCells_same w1 (w.heap.size + 1 + 1) 1 (recC p).toList T4
    refine (range_app (l1 := [.int .i64 p.st])).2 ⟨fun j v hv => ?_, h1⟩
    obtain ⟨rfl, rfl⟩ : j = 0 ∧ v = .int .i64 p.st := by
      cases j with
      | zero => simpa using hv.symm
      | succ j => simp at hv
    rw [Own.cell_setCells_ne (.inr (.inl (by omega)))]
    exact r3
  have T5 : (w1.setCells (w.heap.size + 1 + 1) 1 (recC p).toList).there (w.heap.size + 1) 0 (pgC p).toArray.size := World.there_setCells T2 _ _ _
  have R5 := World.rangeAt_setCells_same _ _ _ (pgC p) T5
  have hrc : #[.int .i64 p.k, .int .i64 p.s, .int .i64 p.a, .int .i64 p.v] = recC p := rfl
  clear hW b1 t2 t3 r3 T2 T3 B0 sW
  rw [hrc]
  clear hrc
  have o4 := one_recC p
  have HI := hide (size_recC p)
  have o5 := one_pg p
  have HI5 := hide (size_pga p)
  have HI6 := hide (size_pg p)
  generalize recC p = rc at *
  generalize hpc : pgC p = pc at *
  have HPC := hide hpc
  clear hpc
  go_wp2_with (first | (refine wpList_store_mid rfl 35 _ _ rfl (w.heap.size + 1 + 1) 1 rc rfl rfl T4 (unhide HI) o4 ?_) | (refine wpList_load_mid rfl 102 _ rfl (w.heap.size + 1 + 1) 0 rfl pc _ R3 Tryz.underlying102 rfl (unhide HI6) ?_) | (refine wpList_store_mid rfl 102 _ _ rfl (w.heap.size + 1) 0 pc.toArray rfl rfl T5 (unhide HI5) o5 ?_) | (refine bodyPost_ret (res_cell_mid Tryz.results265 _ _ (w.heap.size + 1) pc _ rfl R5 Tryz.underlying102 rfl (unhide HI6)) rfl (unhide ?_)))
  exact hide ⟨by rw [unhide HPC], below_setCells _ (by omega) _ _ _ (below_setCells _ (by omega) _ _ _ B1)⟩

theorem psC_take (ps : List Pg) (k : Nat) (hk : k < ps.length) : psC (ps.take (k + 1)) = psC (ps.take k) ++ pgC ps[k] := by
  rw [List.take_succ_eq_append_getElem hk]; simp only [psC, List.flatMap_append, List.flatMap_cons, List.flatMap_nil, List.append_nil]
theorem there_made (w : World) (z : Array Value) (n : Nat) (T : TypeId) : (w.alloc (.cells (madeCells z n) T)).there w.heap.size 0 n := by
  have := there_new w (madeCells z n).toList T
  rw [Array.length_toList, size_madeCells] at this
  exact this

/-- A row of pages in new memory. -/
def RowPost (w : World) (ps : List Pg) (e : Ending) (w' : World) : Prop := e = .returned (.slice (some ⟨w.heap.size, 0, none⟩) ps.length ps.length) ∧ w'.rangeAt w.heap.size 0 (psC ps) ∧ w'.there w.heap.size 0 (ps.length * 5) ∧ w.heap.size < w'.heap.size ∧ Below w.heap.size w w'

set_option maxHeartbeats 1000000 in
theorem toPageS_any (a : Option Addr) (cap : Nat) (ps : List Pg) (w : World) (hps : PsAt w a ps) (hl : ps.length ≤ 1048576) :
    Calls Tryz.prog 235 #[.slice a ps.length cap] w fun e w' => RowPost w ps e w' := by
  have t0 := there_made w #[.int .i64 0, .int .i64 0, .int .i64 0, .int .i64 0, .int .i64 0] (ps.length * 5) 102
  have b0 : Below w.heap.size w (w.alloc (.cells (madeCells #[.int .i64 0, .int .i64 0, .int .i64 0, .int .i64 0, .int .i64 0] (ps.length * 5)) 102)) := (Below.refl _ _).alloc (Nat.le_refl _) _
  have hli : (ps.length : Int) ≤ 1048576 := by omega
  have HP := hide hps
  clear hps
  go_enter Tryz.func235, Tryz.ntmps235
  go_wp2_with (first | (refine wpList_make_big rfl 207 _ _ rfl ps.length rfl rfl 102 5 40 (.agg #[.int .i64 0, .int .i64 0, .int .i64 0, .int .i64 0, .int .i64 0]) Tryz.underlying207 (by kernel_rfl) (by omega) (by omega) ?_))
  generalize hw1 : w.alloc (.cells (madeCells #[.int .i64 0, .int .i64 0, .int .i64 0, .int .i64 0, .int .i64 0] (ps.length * 5)) 102) = w1 at *
  have s1 : w.heap.size < w1.heap.size := by rw [← hw1]; simp
  clear hw1
  go_loopw [4] (fun i w' => ∃ k : Nat, k ≤ ps.length ∧ i = .int .i64 k ∧ w'.rangeAt w.heap.size 0 (psC (ps.take k)) ∧ w'.there w.heap.size 0 (ps.length * 5) ∧ w.heap.size < w'.heap.size ∧ Below w.heap.size w w') (fun i _ => ps.length - (intOf i).toNat)
  case atStart => exact ⟨0, by omega, rfl, (fun j v hv => by simp [psC] at hv), t0, s1, b0⟩
  case round =>
    obtain ⟨k, hk, rfl, rk, tk, sk, bw⟩ := hrel
    clear t0 b0
    by_cases h0 : k = ps.length
    · subst h0
      rw [List.take_of_length_le (Nat.le_refl _)] at rk
      go_wp2
      go_ret
      exact ⟨rfl, rk, tk, sk, bw⟩
    · have hlt : (k : Int) < (ps.length : Int) := by omega
      have hkb : k < ps.length := by omega
      have hlo : (0 : Int) ≤ (k : Int) := by omega
      obtain ⟨pb, po, rfl, hr⟩ : ∃ pb po, a = some ⟨pb, po, none⟩ ∧ w.rangeAt pb po (psC ps) := by
        rcases unhide HP with rfl | h
        · simp at hkb
        · exact h
      obtain ⟨d0, d1, d2, d3, d4⟩ := PsAt.cells (rangeAt_below hr bw (cell_lt (PsAt.cells hr k hkb).1)) k hkb
      have HT := hide (psC_take ps k hkb)
      have lk : (psC (ps.take k)).length = k * 5 := by rw [len_psC, List.length_take, Nat.min_eq_left (by omega)]
      have LK := hide lk
      clear lk hr
      generalize ps[k] = p at *
      go_wp2_with fail
      refine (toPage_any p _).mono ?_
      rintro e w2 ⟨rfl, b2⟩
      have rk2 := rangeAt_below rk b2 sk
      have tk2 := there_below tk b2 sk
      have tk3 : w2.there w.heap.size (k * 5) (pgC p).toArray.size := by have := there_sub tk2 (k * 5) 5 (by omega); rw [Nat.zero_add] at this; exact this
      have bw2 := bw.trans (b2.mono bw.size)
      have ss := b2.size
      have o5 := one_pg p
      have HI5 := hide (size_pga p)
      have HL := hide (len_pgC p)
      clear d0 d1 d2 d3 d4 rk tk b2
      generalize pgC p = pc at *
      go_wp2_with (first | (refine wpList_store_mid rfl 102 _ _ rfl w.heap.size (k * 5) pc.toArray rfl rfl tk3 (unhide HI5) o5 ?_))
      go_roundw
      case rel =>
        refine ⟨k + 1, by omega, by first | rfl | go_num, ?_, World.there_setCells tk2 _ _ _, by rw [size_setCells]; omega, below_setCells _ (Nat.le_refl _) _ _ _ bw2⟩
        rw [unhide HT, range_app, unhide LK, Nat.zero_add]
        exact ⟨World.rangeAt_setCells_apart rk2 _ _ _ (.inr (.inl (by rw [unhide LK]; omega))), World.rangeAt_setCells_same _ _ _ _ tk3⟩
      case measure => simp [intOf]; omega
end Go.Proofs.YtogfelpdgeionaaGreat.LawsA

/-
  The laws' helpers, for every list of blocks: a list of the program's own blocks out of the law's argument, in rows of its own; whether two lists of blocks are the same.
-/
namespace Go.Proofs.YtogfelpdgeionaaGreat.LawsB
open Go.ChangeShapes Go.WideShapes Go.ChangeAt Go.RowKit OkA Big Fl ImplB ImplF ImplS _root_.Go.Proofs.YtogfelpdgeionaaGreat.Own ImplT ImplU SpecA SpecB LawsA
set_option linter.unusedVariables false
set_option linter.unusedSimpArgs false
attribute [local go_sem ↓] Go.wp_at_zero Go.wp_at_succ

theorem three_new (w : World) (A B C : Array Value) (T1 T2 T3 : TypeId) : (∀ j v, A[j]? = some v → (((w.alloc (.cells A T1)).alloc (.cells B T2)).alloc (.cells C T3)).cell? ⟨w.heap.size, j, none⟩ = some v) ∧ (∀ j v, B[j]? = some v → (((w.alloc (.cells A T1)).alloc (.cells B T2)).alloc (.cells C T3)).cell? ⟨w.heap.size + 1, j, none⟩ = some v) ∧ (∀ j v, C[j]? = some v → (((w.alloc (.cells A T1)).alloc (.cells B T2)).alloc (.cells C T3)).cell? ⟨w.heap.size + 1 + 1, j, none⟩ = some v) ∧
    (∀ j, (((w.alloc (.cells A T1)).alloc (.cells B T2)).alloc (.cells C T3)).frozen? ⟨w.heap.size + 1, j, none⟩ = false) ∧ (∀ j, (((w.alloc (.cells A T1)).alloc (.cells B T2)).alloc (.cells C T3)).frozen? ⟨w.heap.size + 1 + 1, j, none⟩ = false) := by
  refine ⟨fun j v h => ?_, fun j v h => ?_, fun j v h => cell_top _ _ _ _ _ _ (by simp) h, fun j => ?_, fun j => ?_⟩
  · rw [World.cell?_alloc_lt _ _ _ (by simp; omega), World.cell?_alloc_lt _ _ _ (by simp)]; exact cell_top _ _ _ _ _ _ rfl h
  · rw [World.cell?_alloc_lt _ _ _ (by simp)]; exact cell_top _ _ _ _ _ _ (by simp) h
  · rw [World.frozen?_alloc_past _ _ _ (by simp)]; exact frozen_of_row _ _ _ B T2 (by have := heap_alloc_new (w.alloc (.cells A T1)) (.cells B T2); rwa [World.size_alloc] at this)
  · exact frozen_of_row _ _ _ C T3 (by have := heap_alloc_new ((w.alloc (.cells A T1)).alloc (.cells B T2)) (.cells C T3); rwa [World.size_alloc, World.size_alloc] at this)
def blkL (p n : Nat) (wn : Int) : List Value := [.slice (some ⟨p, 0, none⟩) n n, .int .i64 wn]
def BlkPost (w : World) (b : Bk) (e : Ending) (w' : World) : Prop := ∃ p, e = .returned (.agg (blkL p b.ps.length b.wn).toArray) ∧ w.heap.size ≤ p ∧ p < w'.heap.size ∧ w'.rangeAt p 0 (psC b.ps) ∧ w'.there p 0 (b.ps.length * 5) ∧ Below w.heap.size w w'
theorem size_blk (p n : Nat) (wn : Int) : (Tryz.prog.info? 209).map (·.size) = some (blkL p n wn).length := by show _ = some 2; kernel_rfl
theorem size_blka (p n : Nat) (wn : Int) : (Tryz.prog.info? 209).map (·.size) = some (blkL p n wn).toArray.size := by show _ = some 2; kernel_rfl
theorem one_blk (p n : Nat) (wn : Int) : (blkL p n wn).toArray.all (·.oneCell') = true := one_two rfl rfl

set_option maxHeartbeats 1000000 in
theorem toBlock_any (a : Option Addr) (cap : Nat) (b : Bk) (w : World) (hps : PsAt w a b.ps) (hl : b.ps.length ≤ 1048576) :
    Calls Tryz.prog 191 #[.agg #[.slice a b.ps.length cap, .int .i64 b.wn]] w fun e w' => BlkPost w b e w' := by
  have bz : Below w.heap.size w (((w.alloc (.cells #[.slice a b.ps.length cap, .int .i64 b.wn] 226)).alloc (.cells #[.slice none 0 0, .int .i64 0] 209)).alloc (.cells #[.slice none 0 0, .int .i64 0] 209)) := (((Below.refl _ _).alloc (Nat.le_refl _) _).alloc (by simp) _).alloc (by simp; omega) _
  have HC := hide (toPageS_any a cap b.ps _ (hps.below bz) hl)
  clear hps
  go_enter Tryz.func191, Tryz.ntmps191
  go_wp2_with fail
  refine (unhide HC).mono ?_
  rintro e w1 ⟨rfl, rr, tt, ss, b1⟩
  obtain ⟨g1, g2, g3, g4, g5⟩ := three_new w #[.slice a b.ps.length cap, .int .i64 b.wn] #[.slice none 0 0, .int .i64 0] #[.slice none 0 0, .int .i64 0] 226 209 209
  have k1 : w1.cell? ⟨w.heap.size, 1, none⟩ = some (.int .i64 b.wn) := by rw [b1.cell (p := ⟨w.heap.size, 1, none⟩) (by simp; omega)]; exact g1 1 _ rfl
  have u0 : w1.cell? ⟨w.heap.size + 1, 0, none⟩ = some (.slice none 0 0) := by rw [b1.cell (p := ⟨w.heap.size + 1, 0, none⟩) (by simp)]; exact g2 0 _ rfl
  have v0 : w1.cell? ⟨w.heap.size + 1 + 1, 0, none⟩ = some (.slice none 0 0) := by rw [b1.cell (p := ⟨w.heap.size + 1 + 1, 0, none⟩) (by simp)]; exact g3 0 _ rfl
  have fu0 : w1.frozen? ⟨w.heap.size + 1, 0, none⟩ = false := by rw [b1.frozen (p := ⟨w.heap.size + 1, 0, none⟩) (by simp)]; exact g4 0
  have fv0 : w1.frozen? ⟨w.heap.size + 1 + 1, 0, none⟩ = false := by rw [b1.frozen (p := ⟨w.heap.size + 1 + 1, 0, none⟩) (by simp)]; exact g5 0
  have u1 : w1.cell? ⟨w.heap.size + 1, 1, none⟩ = some (.int .i64 0) := by rw [b1.cell (p := ⟨w.heap.size + 1, 1, none⟩) (by simp)]; exact g2 1 _ rfl
  have v1 : w1.cell? ⟨w.heap.size + 1 + 1, 1, none⟩ = some (.int .i64 0) := by rw [b1.cell (p := ⟨w.heap.size + 1 + 1, 1, none⟩) (by simp)]; exact g3 1 _ rfl
  have fu1 : w1.frozen? ⟨w.heap.size + 1, 1, none⟩ = false := by rw [b1.frozen (p := ⟨w.heap.size + 1, 1, none⟩) (by simp)]; exact g4 1
  have fv1 : w1.frozen? ⟨w.heap.size + 1 + 1, 1, none⟩ = false := by rw [b1.frozen (p := ⟨w.heap.size + 1 + 1, 1, none⟩) (by simp)]; exact g5 1
  clear g1 g2 g3 g4 g5
  have B1 := bz.trans (b1.mono bz.size)
  simp only [World.size_alloc] at rr tt ss
  clear b1 bz HC
  go_wp2
  have r5 : ((((w1.setCell ⟨w.heap.size + 1 + 1, 0, none⟩ (.slice (some ⟨w.heap.size + 1 + 1 + 1, 0, none⟩) b.ps.length b.ps.length)).setCell ⟨w.heap.size + 1 + 1, 1, none⟩ (.int .i64 b.wn)).setCell ⟨w.heap.size + 1, 0, none⟩ (.slice (some ⟨w.heap.size + 1 + 1 + 1, 0, none⟩) b.ps.length b.ps.length)).setCell ⟨w.heap.size + 1, 1, none⟩ (.int .i64 b.wn)).rangeAt (w.heap.size + 1) 0 (blkL (w.heap.size + 1 + 1 + 1) b.ps.length b.wn) := by
    intro j x hj
    match j, hj with
    | 0, hj => (obtain rfl : x = .slice (some ⟨w.heap.size + 1 + 1 + 1, 0, none⟩) b.ps.length b.ps.length := by simpa [blkL] using hj.symm); go_cell
    | 1, hj => (obtain rfl : x = .int .i64 b.wn := by simpa [blkL] using hj.symm); go_cell
    | n + 2, hj => simp [blkL] at hj
  refine bodyPost_ret (res_cell_mid Tryz.results191 _ _ (w.heap.size + 1) _ _ rfl r5 Tryz.underlying209 rfl (size_blk _ _ _)) rfl ⟨w.heap.size + 1 + 1 + 1, rfl, by omega, by simpa using ss, ?_, ?_, ?_⟩
  · intro j x hj
    rw [World.cell?_setCell_other _ _ _ _ (addr_ne (by omega)), World.cell?_setCell_other _ _ _ _ (addr_ne (by omega)), World.cell?_setCell_other _ _ _ _ (addr_ne (by omega)), World.cell?_setCell_other _ _ _ _ (addr_ne (by omega))]
    exact rr j x hj
  · intro j hj
    rw [World.cell?_setCell_other _ _ _ _ (addr_ne (by omega)), World.cell?_setCell_other _ _ _ _ (addr_ne (by omega)), World.cell?_setCell_other _ _ _ _ (addr_ne (by omega)), World.cell?_setCell_other _ _ _ _ (addr_ne (by omega))]
    simp only [World.frozen?_setCell]
    exact tt j hj
  · exact (((B1.setCell (by show w.heap.size ≤ w.heap.size + 1 + 1; omega) _).setCell (by show w.heap.size ≤ w.heap.size + 1 + 1; omega) _).setCell (by show w.heap.size ≤ w.heap.size + 1; omega) _).setCell (by show w.heap.size ≤ w.heap.size + 1; omega) _

set_option maxHeartbeats 1000000 in
theorem toBlockS_any (a : Option Addr) (cap : Nat) (bs : List Bk) (w : World) (hf : FsAt w a bs) (hl : bs.length ≤ 1048576) (hp : ∀ b ∈ bs, b.ps.length ≤ 1048576) :
    Calls Tryz.prog 127 #[.slice a bs.length cap] w fun e w' => ∃ g G, e = .returned (.slice (some ⟨g, 0, none⟩) bs.length bs.length) ∧ Own w' w.heap.size g G bs bs.length ∧ Below w.heap.size w w' := by
  have t0 := there_made w #[.slice none 0 0, .int .i64 0] (bs.length * 2) 209
  have b0 : Below w.heap.size w (w.alloc (.cells (madeCells #[.slice none 0 0, .int .i64 0] (bs.length * 2)) 209)) := (Below.refl _ _).alloc (Nat.le_refl _) _
  have hli : (bs.length : Int) ≤ 1048576 := by omega
  have HF := hide hf
  have HP := hide hp
  clear hf hp
  go_enter Tryz.func127, Tryz.ntmps127
  go_wp2_with (first | (refine wpList_make_big rfl 23 _ _ rfl bs.length rfl rfl 209 2 32 (.agg #[.slice none 0 0, .int .i64 0]) Tryz.underlying23 made_bs (by omega) (by omega) ?_))
  generalize hw1 : w.alloc (.cells (madeCells #[.slice none 0 0, .int .i64 0] (bs.length * 2)) 209) = w1 at *
  have s1 : w.heap.size < w1.heap.size := by rw [← hw1]; simp
  clear hw1
  have o1 : Own w1 w.heap.size w.heap.size [] [] bs.length := Own.start (Nat.le_refl _) s1 t0
  clear t0
  go_loopw [4] (fun i w' => ∃ k : Nat, k ≤ bs.length ∧ i = .int .i64 k ∧ (∃ G, Own w' w.heap.size w.heap.size G (bs.take k) bs.length) ∧ Below w.heap.size w w') (fun i _ => bs.length - (intOf i).toNat)
  case atStart => exact ⟨0, by omega, rfl, ⟨[], by simpa using o1⟩, b0⟩
  case round =>
    obtain ⟨k, hk, rfl, ⟨G, ok⟩, bw⟩ := hrel
    clear o1 b0
    by_cases h0 : k = bs.length
    · subst h0
      rw [List.take_of_length_le (Nat.le_refl _)] at ok
      go_wp2
      go_ret
      exact ⟨w.heap.size, G, rfl, ok, bw⟩
    · have hlt : (k : Int) < (bs.length : Int) := by omega
      have hkb : k < bs.length := by omega
      have hlo : (0 : Int) ≤ (k : Int) := by omega
      obtain ⟨fb, fo, rfl, hb⟩ : ∃ fb fo, a = some ⟨fb, fo, none⟩ ∧ ∀ i (hi : i < bs.length), BkAt w fb (fo + i * 2) bs[i] := by
        rcases unhide HF with rfl | h
        · simp at hkb
        · exact h
      obtain ⟨pa, pc, c0, c1, hps⟩ := (hb k hkb).below bw
      have hpl := unhide HP _ (List.getElem_mem hkb)
      have HT := hide (List.take_succ_eq_append_getElem hkb)
      clear hb
      generalize bs[k] = b at *
      have HC := hide (toBlock_any pa pc b wr hps hpl)
      clear hps
      go_wp2_with fail
      refine (unhide HC).mono ?_
      rintro e w2 ⟨p, rfl, hp1, hp2, rr, tt, b2⟩
      have o2 := ok.below b2 (Nat.le_refl _)
      have hnew := ok.hi
      have hlw := bw.size
      have tl : (bs.take k).length = k := by simp; omega
      have tk3 : w2.there w.heap.size (k * 2) (blkL p b.ps.length b.wn).toArray.size := by have := there_sub o2.room (k * 2) 2 (by omega); rw [Nat.zero_add] at this; exact this
      have op : Own (w2.setCells w.heap.size (k * 2) (blkL p b.ps.length b.wn)) w.heap.size w.heap.size (G ++ [p]) (bs.take k ++ [b]) bs.length := by
        have := o2.push (by omega) p b.ps.length b (by omega) hp2 (fun h => by have := hnew _ h; omega) rr tt (Nat.le_refl _)
        rw [tl] at this; exact this
      have bw2 := bw.trans (b2.mono bw.size)
      have HI := hide (size_blka p b.ps.length b.wn)
      have o5 := one_blk p b.ps.length b.wn
      clear c0 c1 HC rr tt b2 ok o2
      generalize blkL p b.ps.length b.wn = bc at *
      go_wp2_with (first | (refine wpList_store_mid rfl 209 _ _ rfl w.heap.size (k * 2) bc.toArray rfl rfl tk3 (unhide HI) o5 ?_))
      go_roundw
      case rel => exact ⟨k + 1, by omega, by first | rfl | go_num, ⟨G ++ [p], by rw [unhide HT]; exact op⟩, below_setCells _ (Nat.le_refl _) _ _ _ bw2⟩
      case measure => simp [intOf]; omega
end Go.Proofs.YtogfelpdgeionaaGreat.LawsB
