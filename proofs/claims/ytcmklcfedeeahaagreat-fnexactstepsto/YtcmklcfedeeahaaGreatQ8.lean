/-
  Texts that belong together, one behind the other: LawsA, LawsB, LawsE, OpenF, Mark.
-/
import Derived.Test.YtcmklcfedeeahaaGreatQ7
import Derived.Deep.RegionHeld3
import Derived.Deep.DrawnRows
import Derived.ShutString
import Derived.ChangeOld
import Derived.Deep.Slices
import Derived.ChangeSame
import Derived.Lib.SmallJoins

/-
  The laws' helpers, for every list of blocks: how much there is of it; the same as the program's own blocks, in memory of its own.
-/
namespace Go.Proofs.YtcmklcfedeeahaaGreat.LawsA
open Go.ChangeShapes Go.WideShapes Go.ChangeAt Go.RowKit OkA Big Fl ImplB ImplF ImplS Own ImplT ImplU SpecA SpecB
set_option linter.unusedVariables false
set_option linter.unusedSimpArgs false

/-! How much. -/
def szR (l : Int) (n : Nat) : Int := if l - n < 0 then -1 else l - n
set_option maxHeartbeats 400000 in
theorem szPageS_any (a : Option Addr) (n cap : Nat) (l : Int) (w : World) (h0 : 0 ≤ l) (h1 : l ≤ 1048576) (hn : (n : Int) ≤ 9223372036854775807) :
    Calls Tryz.prog 58 #[.slice a n cap, .int .i64 l] w fun e w' => e = .returned (.int .i64 (szR l n)) ∧ w' = w := by
  by_cases h : l - n < 0
  · have HR : Hid (szR l n = -1) := if_pos h
    go_enter Tryz.func58, Tryz.ntmps58
    go_wp2
    go_ret
    exact ⟨by rw [unhide HR]; rfl, rfl⟩
  · have HR : Hid (szR l n = l - n) := if_neg h
    go_enter Tryz.func58, Tryz.ntmps58
    go_wp2
    go_ret
    exact ⟨by rw [unhide HR]; rfl, rfl⟩
set_option maxHeartbeats 400000 in
theorem szBlock_any (a : Option Addr) (n cap : Nat) (wn l : Int) (w : World) (h0 : 0 ≤ l) (h1 : l ≤ 1048576) (hn : (n : Int) ≤ 9223372036854775807) :
    Calls Tryz.prog 36 #[.agg #[.slice a n cap, .int .i64 wn], .int .i64 l] w fun e w' => e = .returned (.int .i64 (szR l n)) ∧ Below w.heap.size w w' := by
  have HC := hide (szPageS_any a n cap l (w.alloc (.cells #[.slice a n cap, .int .i64 wn] 93)) h0 h1 hn)
  by_cases h : l - n < 0
  · have hR : szR l n = -1 := if_pos h
    rw [hR] at HC ⊢
    clear hR
    go_enter Tryz.func36, Tryz.ntmps36
    go_wp2_with (go_at_call 58; refine (unhide HC).mono ?_; rintro e w' ⟨rfl, rfl⟩)
    go_ret
    exact ⟨rfl, (Below.refl _ _).alloc (Nat.le_refl _) _⟩
  · have hR : szR l n = l - n := if_neg h
    rw [hR] at HC ⊢
    clear hR
    go_enter Tryz.func36, Tryz.ntmps36
    go_wp2_with (go_at_call 58; refine (unhide HC).mono ?_; rintro e w' ⟨rfl, rfl⟩)
    go_ret
    exact ⟨rfl, (Below.refl _ _).alloc (Nat.le_refl _) _⟩

/-- Where it is not below 0 there is not much. -/
def SzPost (w : World) (bs : List Bk) (e : Ending) (w' : World) : Prop := ∃ r : Int, e = .returned (.int .i64 r) ∧ -1 ≤ r ∧ r ≤ 1048576 ∧ (0 ≤ r → bs.length ≤ 1048576 ∧ ∀ b ∈ bs, b.ps.length ≤ 1048576) ∧ Below w.heap.size w w'
/-- No list is longer than memory. -/
def Fit (bs : List Bk) : Prop := (bs.length : Int) ≤ 9223372036854775807 ∧ ∀ b ∈ bs, (b.ps.length : Int) ≤ 9223372036854775807

set_option maxHeartbeats 1000000 in
theorem szBlockS_any (a : Option Addr) (cap : Nat) (bs : List Bk) (w : World) (hf : FsAt w a bs) (hfit : Fit bs) :
    Calls Tryz.prog 15 #[.slice a bs.length cap, .int .i64 1048576] w fun e w' => SzPost w bs e w' := by
  have hl := hfit.1
  by_cases h : (1048576 : Int) - bs.length < 0
  · go_enter Tryz.func15, Tryz.ntmps15
    go_wp2
    go_ret
    exact ⟨-1, rfl, by omega, by omega, fun h => by omega, Below.refl _ _⟩
  have hlen : bs.length ≤ 1048576 := by omega
  have HF := hide hf
  clear hf
  go_enter Tryz.func15, Tryz.ntmps15
  go_wp2
  go_loopw [1, 5] (fun l i w' => ∃ (k : Nat) (q : Int), k ≤ bs.length ∧ i = .int .i64 k ∧ l = .int .i64 q ∧ 0 ≤ q ∧ q ≤ 1048576 ∧ Hid (∀ j (hj : j < bs.length), j < k → bs[j].ps.length ≤ 1048576) ∧ Below w.heap.size w w') (fun _ i _ => bs.length - (intOf i).toNat)
  case atStart => exact ⟨0, _, by omega, rfl, rfl, by omega, by omega, fun j hj h => by omega, Below.refl _ _⟩
  case round =>
    obtain ⟨k, q, hk, rfl, rfl, hq0, hq1, hall, bw⟩ := hrel
    by_cases h0 : k = bs.length
    · subst h0
      go_wp2
      go_ret
      exact ⟨q, rfl, by omega, hq1, fun _ => ⟨hlen, fun b hb => by
        obtain ⟨j, hj, rfl⟩ := List.getElem_of_mem hb
        exact hall.out j hj hj⟩, bw⟩
    · have hlt : (k : Int) < (bs.length : Int) := by omega
      have hkb : k < bs.length := by omega
      have hlo : (0 : Int) ≤ (k : Int) := by omega
      obtain ⟨fb, fo, rfl, hb⟩ : ∃ fb fo, a = some ⟨fb, fo, none⟩ ∧ ∀ i (hi : i < bs.length), BkAt w fb (fo + i * 2) bs[i] := by
        rcases unhide HF with rfl | h
        · simp at hkb
        · exact h
      obtain ⟨pa, pc, c0, c1, _⟩ := (hb k hkb).below bw
      have hn : (bs[k].ps.length : Int) ≤ 9223372036854775807 := hfit.2 _ (List.getElem_mem hkb)
      generalize hbk : bs[k] = b at *
      have HBK := hide hbk
      clear hbk hb
      have HC := hide (szBlock_any pa b.ps.length pc b.wn q wr hq0 hq1 hn)
      by_cases hneg : q - b.ps.length < 0
      · have hR : szR q b.ps.length = -1 := if_pos hneg
        rw [hR] at HC
        clear hR
        go_wp2_with fail
        refine (unhide HC).mono ?_
        rintro e w2 ⟨rfl, b2⟩
        clear c0 c1
        go_wp2
        go_ret
        exact ⟨-1, rfl, by omega, by omega, fun h => by omega, bw.trans (b2.mono bw.size)⟩
      · have hR : szR q b.ps.length = q - b.ps.length := if_neg hneg
        rw [hR] at HC
        clear hR
        go_wp2_with fail
        refine (unhide HC).mono ?_
        rintro e w2 ⟨rfl, b2⟩
        clear c0 c1
        go_wp2
        go_roundw
        case rel =>
          refine ⟨k + 1, _, by omega, by first | rfl | go_num, rfl, by omega, by omega, fun j hj h => ?_, bw.trans (b2.mono bw.size)⟩
          by_cases e : j = k
          · subst e; rw [unhide HBK]; omega
          · exact hall.out j hj (by omega)
        case measure => simp [intOf]; omega

theorem cell_top (w : World) (cs : Array Value) (T : TypeId) (n j : Nat) (v : Value) (h : n = w.heap.size) (hv : cs[j]? = some v) : (w.alloc (.cells cs T)).cell? ⟨n, j, none⟩ = some v := by
  rw [World.cell?_alloc_at cs T n j h, hv]
/-! The same as the program's blocks. -/
theorem zpg : (Tryz.prog.info? 59).bind (·.zero) = some (.agg (pgC zPg).toArray) := by kernel_rfl
theorem size_pg (p : Pg) : (Tryz.prog.info? 59).map (·.size) = some (pgC p).length := by rw [len_pgC]; kernel_rfl
theorem size_pga (p : Pg) : (Tryz.prog.info? 59).map (·.size) = some (pgC p).toArray.size := by rw [List.size_toArray, len_pgC]; kernel_rfl
theorem one_pg (p : Pg) : (pgC p).toArray.all (·.oneCell') = true := all_oneCell_toArray (one_pgC p)
theorem one_rec (k s a v : Int) : #[Value.int .i64 k, .int .i64 s, .int .i64 a, .int .i64 v].all (·.oneCell') = true := all_oneCell_toArray (cs := [.int .i64 k, .int .i64 s, .int .i64 a, .int .i64 v]) (by intro x hx; simp at hx; rcases hx with rfl | rfl | rfl | rfl <;> rfl)

def recC (p : Pg) : Array Value := #[.int .i64 p.k, .int .i64 p.s, .int .i64 p.a, .int .i64 p.v]
theorem one_recC (p : Pg) : (recC p).all (·.oneCell') = true := one_rec _ _ _ _
theorem size_recC (p : Pg) : (Tryz.prog.info? 46).map (·.size) = some (recC p).size := by show _ = some 4; kernel_rfl
set_option maxHeartbeats 1000000 in
theorem toPage_any (p : Pg) (w : World) :
    Calls Tryz.prog 87 #[.agg #[.int .i64 p.st, .int .i64 p.k, .int .i64 p.s, .int .i64 p.a, .int .i64 p.v]] w fun e w' => e = .returned (.agg (pgC p).toArray) ∧ Below w.heap.size w w' := by
  go_enter Tryz.func87, Tryz.ntmps87
  go_wp2_with fail
  refine (toRec_any _ _ _ _ _).mono ?_
  rintro e w1 ⟨rfl, b1⟩
  generalize hW : ((w.alloc (.cells #[.int .i64 p.st, .int .i64 p.k, .int .i64 p.s, .int .i64 p.a, .int .i64 p.v] 145)).alloc (.cells #[.int .i64 0, .int .i64 0, .int .i64 0, .int .i64 0, .int .i64 0] 59)).alloc (.cells #[.int .i64 p.st, .int .i64 0, .int .i64 0, .int .i64 0, .int .i64 0] 59) = W at b1
  have sW : W.heap.size = w.heap.size + 1 + 1 + 1 := by rw [← hW]; simp
  have t2 : W.there (w.heap.size + 1) 0 5 := by
    rw [← hW]
    have := World.there_alloc (there_new (w.alloc (.cells #[.int .i64 p.st, .int .i64 p.k, .int .i64 p.s, .int .i64 p.a, .int .i64 p.v] 145)) [.int .i64 0, .int .i64 0, .int .i64 0, .int .i64 0, .int .i64 0] 59) (.cells #[.int .i64 p.st, .int .i64 0, .int .i64 0, .int .i64 0, .int .i64 0] 59)
    simpa using this
  have t3 : W.there (w.heap.size + 1 + 1) 0 5 := by
    rw [← hW]
    have := there_new ((w.alloc (.cells #[.int .i64 p.st, .int .i64 p.k, .int .i64 p.s, .int .i64 p.a, .int .i64 p.v] 145)).alloc (.cells #[.int .i64 0, .int .i64 0, .int .i64 0, .int .i64 0, .int .i64 0] 59)) [.int .i64 p.st, .int .i64 0, .int .i64 0, .int .i64 0, .int .i64 0] 59
    simpa using this
  have r3 : W.cell? ⟨w.heap.size + 1 + 1, 0, none⟩ = some (.int .i64 p.st) := by
    rw [← hW]
    exact cell_top _ _ _ _ _ _ (by simp) rfl
  have B0 : Below w.heap.size w W := by rw [← hW]; exact (((Below.refl _ _).alloc (Nat.le_refl _) _).alloc (by simp) _).alloc (by simp; omega) _
  have T2 := there_below t2 b1 (by omega)
  have T3 := there_below t3 b1 (by omega)
  rw [← b1.cell (p := ⟨w.heap.size + 1 + 1, 0, none⟩) (by show w.heap.size + 1 + 1 < _; omega)] at r3
  have B1 := B0.trans (b1.mono (by omega))
  have T4 : w1.there (w.heap.size + 1 + 1) 1 (recC p).size := by have := there_sub T3 1 4 (by omega); rw [Nat.zero_add] at this; exact this
  have R3 : (w1.setCells (w.heap.size + 1 + 1) 1 (recC p).toList).rangeAt (w.heap.size + 1 + 1) 0 (pgC p) := by
    have h1 := World.rangeAt_setCells_same w1 (w.heap.size + 1 + 1) 1 (recC p).toList T4
    refine (range_app (l1 := [.int .i64 p.st])).2 ⟨fun j v hv => ?_, h1⟩
    obtain ⟨rfl, rfl⟩ : j = 0 ∧ v = .int .i64 p.st := by
      cases j with
      | zero => simpa using hv.symm
      | succ j => simp at hv
    rw [Own.cell_setCells_ne (.inr (.inl (by omega)))]
    exact r3
  have T5 : (w1.setCells (w.heap.size + 1 + 1) 1 (recC p).toList).there (w.heap.size + 1) 0 (pgC p).toArray.size := World.there_setCells T2 _ _ _
  have R5 := World.rangeAt_setCells_same _ _ _ (pgC p) T5
  have hrc : #[.int .i64 p.k, .int .i64 p.s, .int .i64 p.a, .int .i64 p.v] = recC p := rfl
  clear hW b1 t2 t3 r3 T2 T3 B0 sW
  rw [hrc]
  clear hrc
  have o4 := one_recC p
  have HI := hide (size_recC p)
  have o5 := one_pg p
  have HI5 := hide (size_pga p)
  have HI6 := hide (size_pg p)
  generalize recC p = rc at *
  generalize hpc : pgC p = pc at *
  have HPC := hide hpc
  clear hpc
  go_wp2_with (first | (refine wpList_store_mid rfl 46 _ _ rfl (w.heap.size + 1 + 1) 1 rc rfl rfl T4 (unhide HI) o4 ?_) | (refine wpList_load_mid rfl 59 _ rfl (w.heap.size + 1 + 1) 0 rfl pc _ R3 Tryz.underlying59 rfl (unhide HI6) ?_) | (refine wpList_store_mid rfl 59 _ _ rfl (w.heap.size + 1) 0 pc.toArray rfl rfl T5 (unhide HI5) o5 ?_) | (refine bodyPost_ret (res_cell_mid Tryz.results87 _ _ (w.heap.size + 1) pc _ rfl R5 Tryz.underlying59 rfl (unhide HI6)) rfl (unhide ?_)))
  exact hide ⟨by rw [unhide HPC], below_setCells _ (by omega) _ _ _ (below_setCells _ (by omega) _ _ _ B1)⟩

theorem psC_take (ps : List Pg) (k : Nat) (hk : k < ps.length) : psC (ps.take (k + 1)) = psC (ps.take k) ++ pgC ps[k] := by
  rw [List.take_succ_eq_append_getElem hk]; simp only [psC, List.flatMap_append, List.flatMap_cons, List.flatMap_nil, List.append_nil]
theorem there_made (w : World) (z : Array Value) (n : Nat) (T : TypeId) : (w.alloc (.cells (madeCells z n) T)).there w.heap.size 0 n := by
  have := there_new w (madeCells z n).toList T
  rw [Array.length_toList, size_madeCells] at this
  exact this

/-- A row of pages in new memory. -/
def RowPost (w : World) (ps : List Pg) (e : Ending) (w' : World) : Prop := e = .returned (.slice (some ⟨w.heap.size, 0, none⟩) ps.length ps.length) ∧ w'.rangeAt w.heap.size 0 (psC ps) ∧ w'.there w.heap.size 0 (ps.length * 5) ∧ w.heap.size < w'.heap.size ∧ Below w.heap.size w w'

set_option maxHeartbeats 1000000 in
theorem toPageS_any (a : Option Addr) (cap : Nat) (ps : List Pg) (w : World) (hps : PsAt w a ps) (hl : ps.length ≤ 1048576) :
    Calls Tryz.prog 65 #[.slice a ps.length cap] w fun e w' => RowPost w ps e w' := by
  have t0 := there_made w #[.int .i64 0, .int .i64 0, .int .i64 0, .int .i64 0, .int .i64 0] (ps.length * 5) 59
  have b0 : Below w.heap.size w (w.alloc (.cells (madeCells #[.int .i64 0, .int .i64 0, .int .i64 0, .int .i64 0, .int .i64 0] (ps.length * 5)) 59)) := (Below.refl _ _).alloc (Nat.le_refl _) _
  have hli : (ps.length : Int) ≤ 1048576 := by omega
  have HP := hide hps
  clear hps
  go_enter Tryz.func65, Tryz.ntmps65
  go_wp2_with (first | (refine wpList_make_big rfl 101 _ _ rfl ps.length rfl rfl 59 5 40 (.agg #[.int .i64 0, .int .i64 0, .int .i64 0, .int .i64 0, .int .i64 0]) Tryz.underlying101 (by kernel_rfl) (by omega) (by omega) ?_))
  generalize hw1 : w.alloc (.cells (madeCells #[.int .i64 0, .int .i64 0, .int .i64 0, .int .i64 0, .int .i64 0] (ps.length * 5)) 59) = w1 at *
  have s1 : w.heap.size < w1.heap.size := by rw [← hw1]; simp
  clear hw1
  go_loopw [4] (fun i w' => ∃ k : Nat, k ≤ ps.length ∧ i = .int .i64 k ∧ w'.rangeAt w.heap.size 0 (psC (ps.take k)) ∧ w'.there w.heap.size 0 (ps.length * 5) ∧ w.heap.size < w'.heap.size ∧ Below w.heap.size w w') (fun i _ => ps.length - (intOf i).toNat)
  case atStart => exact ⟨0, by omega, rfl, (fun j v hv => by simp [psC] at hv), t0, s1, b0⟩
  case round =>
    obtain ⟨k, hk, rfl, rk, tk, sk, bw⟩ := hrel
    clear t0 b0
    by_cases h0 : k = ps.length
    · subst h0
      rw [List.take_of_length_le (Nat.le_refl _)] at rk
      go_wp2
      go_ret
      exact ⟨rfl, rk, tk, sk, bw⟩
    · have hlt : (k : Int) < (ps.length : Int) := by omega
      have hkb : k < ps.length := by omega
      have hlo : (0 : Int) ≤ (k : Int) := by omega
      obtain ⟨pb, po, rfl, hr⟩ : ∃ pb po, a = some ⟨pb, po, none⟩ ∧ w.rangeAt pb po (psC ps) := by
        rcases unhide HP with rfl | h
        · simp at hkb
        · exact h
      obtain ⟨d0, d1, d2, d3, d4⟩ := PsAt.cells (rangeAt_below hr bw (cell_lt (PsAt.cells hr k hkb).1)) k hkb
      have HT := hide (psC_take ps k hkb)
      have lk : (psC (ps.take k)).length = k * 5 := by rw [len_psC, List.length_take, Nat.min_eq_left (by omega)]
      have LK := hide lk
      clear lk hr
      generalize ps[k] = p at *
      go_wp2_with fail
      refine (toPage_any p _).mono ?_
      rintro e w2 ⟨rfl, b2⟩
      have rk2 := rangeAt_below rk b2 sk
      have tk2 := there_below tk b2 sk
      have tk3 : w2.there w.heap.size (k * 5) (pgC p).toArray.size := by have := there_sub tk2 (k * 5) 5 (by omega); rw [Nat.zero_add] at this; exact this
      have bw2 := bw.trans (b2.mono bw.size)
      have ss := b2.size
      have o5 := one_pg p
      have HI5 := hide (size_pga p)
      have HL := hide (len_pgC p)
      clear d0 d1 d2 d3 d4 rk tk b2
      generalize pgC p = pc at *
      go_wp2_with (first | (refine wpList_store_mid rfl 59 _ _ rfl w.heap.size (k * 5) pc.toArray rfl rfl tk3 (unhide HI5) o5 ?_))
      go_roundw
      case rel =>
        refine ⟨k + 1, by omega, by first | rfl | go_num, ?_, World.there_setCells tk2 _ _ _, by rw [size_setCells]; omega, below_setCells _ (Nat.le_refl _) _ _ _ bw2⟩
        rw [unhide HT, range_app, unhide LK, Nat.zero_add]
        exact ⟨World.rangeAt_setCells_apart rk2 _ _ _ (.inr (.inl (by rw [unhide LK]; omega))), World.rangeAt_setCells_same _ _ _ _ tk3⟩
      case measure => simp [intOf]; omega
end Go.Proofs.YtcmklcfedeeahaaGreat.LawsA

/-
  The laws' helpers, for every list of blocks: a list of the program's own blocks out of the law's argument, in rows of its own; whether two lists of blocks are the same.
-/
namespace Go.Proofs.YtcmklcfedeeahaaGreat.LawsB
open Go.ChangeShapes Go.WideShapes Go.ChangeAt Go.RowKit OkA Big Fl ImplB ImplF ImplS Own ImplT ImplU SpecA SpecB LawsA
set_option linter.unusedVariables false
set_option linter.unusedSimpArgs false
attribute [local go_sem ↓] Go.wp_at_zero Go.wp_at_succ

theorem three_new (w : World) (A B C : Array Value) (T1 T2 T3 : TypeId) : (∀ j v, A[j]? = some v → (((w.alloc (.cells A T1)).alloc (.cells B T2)).alloc (.cells C T3)).cell? ⟨w.heap.size, j, none⟩ = some v) ∧ (∀ j v, B[j]? = some v → (((w.alloc (.cells A T1)).alloc (.cells B T2)).alloc (.cells C T3)).cell? ⟨w.heap.size + 1, j, none⟩ = some v) ∧ (∀ j v, C[j]? = some v → (((w.alloc (.cells A T1)).alloc (.cells B T2)).alloc (.cells C T3)).cell? ⟨w.heap.size + 1 + 1, j, none⟩ = some v) ∧
    (∀ j, (((w.alloc (.cells A T1)).alloc (.cells B T2)).alloc (.cells C T3)).frozen? ⟨w.heap.size + 1, j, none⟩ = false) ∧ (∀ j, (((w.alloc (.cells A T1)).alloc (.cells B T2)).alloc (.cells C T3)).frozen? ⟨w.heap.size + 1 + 1, j, none⟩ = false) := by
  refine ⟨fun j v h => ?_, fun j v h => ?_, fun j v h => cell_top _ _ _ _ _ _ (by simp) h, fun j => ?_, fun j => ?_⟩
  · rw [World.cell?_alloc_lt _ _ _ (by simp; omega), World.cell?_alloc_lt _ _ _ (by simp)]; exact cell_top _ _ _ _ _ _ rfl h
  · rw [World.cell?_alloc_lt _ _ _ (by simp)]; exact cell_top _ _ _ _ _ _ (by simp) h
  · rw [World.frozen?_alloc_past _ _ _ (by simp)]; exact frozen_of_row _ _ _ B T2 (by have := heap_alloc_new (w.alloc (.cells A T1)) (.cells B T2); rwa [World.size_alloc] at this)
  · exact frozen_of_row _ _ _ C T3 (by have := heap_alloc_new ((w.alloc (.cells A T1)).alloc (.cells B T2)) (.cells C T3); rwa [World.size_alloc, World.size_alloc] at this)
def blkL (p n : Nat) (wn : Int) : List Value := [.slice (some ⟨p, 0, none⟩) n n, .int .i64 wn]
def BlkPost (w : World) (b : Bk) (e : Ending) (w' : World) : Prop := ∃ p, e = .returned (.agg (blkL p b.ps.length b.wn).toArray) ∧ w.heap.size ≤ p ∧ p < w'.heap.size ∧ w'.rangeAt p 0 (psC b.ps) ∧ w'.there p 0 (b.ps.length * 5) ∧ Below w.heap.size w w'
theorem size_blk (p n : Nat) (wn : Int) : (Tryz.prog.info? 103).map (·.size) = some (blkL p n wn).length := by show _ = some 2; kernel_rfl
theorem size_blka (p n : Nat) (wn : Int) : (Tryz.prog.info? 103).map (·.size) = some (blkL p n wn).toArray.size := by show _ = some 2; kernel_rfl
theorem one_blk (p n : Nat) (wn : Int) : (blkL p n wn).toArray.all (·.oneCell') = true := one_two rfl rfl

set_option maxHeartbeats 1000000 in
theorem toBlock_any (a : Option Addr) (cap : Nat) (b : Bk) (w : World) (hps : PsAt w a b.ps) (hl : b.ps.length ≤ 1048576) :
    Calls Tryz.prog 43 #[.agg #[.slice a b.ps.length cap, .int .i64 b.wn]] w fun e w' => BlkPost w b e w' := by
  have bz : Below w.heap.size w (((w.alloc (.cells #[.slice a b.ps.length cap, .int .i64 b.wn] 93)).alloc (.cells #[.slice none 0 0, .int .i64 0] 103)).alloc (.cells #[.slice none 0 0, .int .i64 0] 103)) := (((Below.refl _ _).alloc (Nat.le_refl _) _).alloc (by simp) _).alloc (by simp; omega) _
  have HC := hide (toPageS_any a cap b.ps _ (hps.below bz) hl)
  clear hps
  go_enter Tryz.func43, Tryz.ntmps43
  go_wp2_with fail
  refine (unhide HC).mono ?_
  rintro e w1 ⟨rfl, rr, tt, ss, b1⟩
  obtain ⟨g1, g2, g3, g4, g5⟩ := three_new w #[.slice a b.ps.length cap, .int .i64 b.wn] #[.slice none 0 0, .int .i64 0] #[.slice none 0 0, .int .i64 0] 93 103 103
  have k1 : w1.cell? ⟨w.heap.size, 1, none⟩ = some (.int .i64 b.wn) := by rw [b1.cell (p := ⟨w.heap.size, 1, none⟩) (by simp; omega)]; exact g1 1 _ rfl
  have u0 : w1.cell? ⟨w.heap.size + 1, 0, none⟩ = some (.slice none 0 0) := by rw [b1.cell (p := ⟨w.heap.size + 1, 0, none⟩) (by simp)]; exact g2 0 _ rfl
  have v0 : w1.cell? ⟨w.heap.size + 1 + 1, 0, none⟩ = some (.slice none 0 0) := by rw [b1.cell (p := ⟨w.heap.size + 1 + 1, 0, none⟩) (by simp)]; exact g3 0 _ rfl
  have fu0 : w1.frozen? ⟨w.heap.size + 1, 0, none⟩ = false := by rw [b1.frozen (p := ⟨w.heap.size + 1, 0, none⟩) (by simp)]; exact g4 0
  have fv0 : w1.frozen? ⟨w.heap.size + 1 + 1, 0, none⟩ = false := by rw [b1.frozen (p := ⟨w.heap.size + 1 + 1, 0, none⟩) (by simp)]; exact g5 0
  have u1 : w1.cell? ⟨w.heap.size + 1, 1, none⟩ = some (.int .i64 0) := by rw [b1.cell (p := ⟨w.heap.size + 1, 1, none⟩) (by simp)]; exact g2 1 _ rfl
  have v1 : w1.cell? ⟨w.heap.size + 1 + 1, 1, none⟩ = some (.int .i64 0) := by rw [b1.cell (p := ⟨w.heap.size + 1 + 1, 1, none⟩) (by simp)]; exact g3 1 _ rfl
  have fu1 : w1.frozen? ⟨w.heap.size + 1, 1, none⟩ = false := by rw [b1.frozen (p := ⟨w.heap.size + 1, 1, none⟩) (by simp)]; exact g4 1
  have fv1 : w1.frozen? ⟨w.heap.size + 1 + 1, 1, none⟩ = false := by rw [b1.frozen (p := ⟨w.heap.size + 1 + 1, 1, none⟩) (by simp)]; exact g5 1
  clear g1 g2 g3 g4 g5
  have B1 := bz.trans (b1.mono bz.size)
  simp only [World.size_alloc] at rr tt ss
  clear b1 bz HC
  go_wp2
  have r5 : ((((w1.setCell ⟨w.heap.size + 1 + 1, 0, none⟩ (.slice (some ⟨w.heap.size + 1 + 1 + 1, 0, none⟩) b.ps.length b.ps.length)).setCell ⟨w.heap.size + 1 + 1, 1, none⟩ (.int .i64 b.wn)).setCell ⟨w.heap.size + 1, 0, none⟩ (.slice (some ⟨w.heap.size + 1 + 1 + 1, 0, none⟩) b.ps.length b.ps.length)).setCell ⟨w.heap.size + 1, 1, none⟩ (.int .i64 b.wn)).rangeAt (w.heap.size + 1) 0 (blkL (w.heap.size + 1 + 1 + 1) b.ps.length b.wn) := by
    intro j x hj
    match j, hj with
    | 0, hj => (obtain rfl : x = .slice (some ⟨w.heap.size + 1 + 1 + 1, 0, none⟩) b.ps.length b.ps.length := by simpa [blkL] using hj.symm); go_cell
    | 1, hj => (obtain rfl : x = .int .i64 b.wn := by simpa [blkL] using hj.symm); go_cell
    | n + 2, hj => simp [blkL] at hj
  refine bodyPost_ret (res_cell_mid Tryz.results43 _ _ (w.heap.size + 1) _ _ rfl r5 Tryz.underlying103 rfl (size_blk _ _ _)) rfl ⟨w.heap.size + 1 + 1 + 1, rfl, by omega, by simpa using ss, ?_, ?_, ?_⟩
  · intro j x hj
    rw [World.cell?_setCell_other _ _ _ _ (addr_ne (by omega)), World.cell?_setCell_other _ _ _ _ (addr_ne (by omega)), World.cell?_setCell_other _ _ _ _ (addr_ne (by omega)), World.cell?_setCell_other _ _ _ _ (addr_ne (by omega))]
    exact rr j x hj
  · intro j hj
    rw [World.cell?_setCell_other _ _ _ _ (addr_ne (by omega)), World.cell?_setCell_other _ _ _ _ (addr_ne (by omega)), World.cell?_setCell_other _ _ _ _ (addr_ne (by omega)), World.cell?_setCell_other _ _ _ _ (addr_ne (by omega))]
    simp only [World.frozen?_setCell]
    exact tt j hj
  · exact (((B1.setCell (by show w.heap.size ≤ w.heap.size + 1 + 1; omega) _).setCell (by show w.heap.size ≤ w.heap.size + 1 + 1; omega) _).setCell (by show w.heap.size ≤ w.heap.size + 1; omega) _).setCell (by show w.heap.size ≤ w.heap.size + 1; omega) _

set_option maxHeartbeats 1000000 in
theorem toBlockS_any (a : Option Addr) (cap : Nat) (bs : List Bk) (w : World) (hf : FsAt w a bs) (hl : bs.length ≤ 1048576) (hp : ∀ b ∈ bs, b.ps.length ≤ 1048576) :
    Calls Tryz.prog 21 #[.slice a bs.length cap] w fun e w' => ∃ g G, e = .returned (.slice (some ⟨g, 0, none⟩) bs.length bs.length) ∧ Own w' w.heap.size g G bs bs.length ∧ Below w.heap.size w w' := by
  have t0 := there_made w #[.slice none 0 0, .int .i64 0] (bs.length * 2) 103
  have b0 : Below w.heap.size w (w.alloc (.cells (madeCells #[.slice none 0 0, .int .i64 0] (bs.length * 2)) 103)) := (Below.refl _ _).alloc (Nat.le_refl _) _
  have hli : (bs.length : Int) ≤ 1048576 := by omega
  have HF := hide hf
  have HP := hide hp
  clear hf hp
  go_enter Tryz.func21, Tryz.ntmps21
  go_wp2_with (first | (refine wpList_make_big rfl 29 _ _ rfl bs.length rfl rfl 103 2 32 (.agg #[.slice none 0 0, .int .i64 0]) Tryz.underlying29 made_bs (by omega) (by omega) ?_))
  generalize hw1 : w.alloc (.cells (madeCells #[.slice none 0 0, .int .i64 0] (bs.length * 2)) 103) = w1 at *
  have s1 : w.heap.size < w1.heap.size := by rw [← hw1]; simp
  clear hw1
  have o1 : Own w1 w.heap.size w.heap.size [] [] bs.length := Own.start (Nat.le_refl _) s1 t0
  clear t0
  go_loopw [4] (fun i w' => ∃ k : Nat, k ≤ bs.length ∧ i = .int .i64 k ∧ (∃ G, Own w' w.heap.size w.heap.size G (bs.take k) bs.length) ∧ Below w.heap.size w w') (fun i _ => bs.length - (intOf i).toNat)
  case atStart => exact ⟨0, by omega, rfl, ⟨[], by simpa using o1⟩, b0⟩
  case round =>
    obtain ⟨k, hk, rfl, ⟨G, ok⟩, bw⟩ := hrel
    clear o1 b0
    by_cases h0 : k = bs.length
    · subst h0
      rw [List.take_of_length_le (Nat.le_refl _)] at ok
      go_wp2
      go_ret
      exact ⟨w.heap.size, G, rfl, ok, bw⟩
    · have hlt : (k : Int) < (bs.length : Int) := by omega
      have hkb : k < bs.length := by omega
      have hlo : (0 : Int) ≤ (k : Int) := by omega
      obtain ⟨fb, fo, rfl, hb⟩ : ∃ fb fo, a = some ⟨fb, fo, none⟩ ∧ ∀ i (hi : i < bs.length), BkAt w fb (fo + i * 2) bs[i] := by
        rcases unhide HF with rfl | h
        · simp at hkb
        · exact h
      obtain ⟨pa, pc, c0, c1, hps⟩ := (hb k hkb).below bw
      have hpl := unhide HP _ (List.getElem_mem hkb)
      have HT := hide (List.take_succ_eq_append_getElem hkb)
      clear hb
      generalize bs[k] = b at *
      have HC := hide (toBlock_any pa pc b wr hps hpl)
      clear hps
      go_wp2_with fail
      refine (unhide HC).mono ?_
      rintro e w2 ⟨p, rfl, hp1, hp2, rr, tt, b2⟩
      have o2 := ok.below b2 (Nat.le_refl _)
      have hnew := ok.hi
      have hlw := bw.size
      have tl : (bs.take k).length = k := by simp; omega
      have tk3 : w2.there w.heap.size (k * 2) (blkL p b.ps.length b.wn).toArray.size := by have := there_sub o2.room (k * 2) 2 (by omega); rw [Nat.zero_add] at this; exact this
      have op : Own (w2.setCells w.heap.size (k * 2) (blkL p b.ps.length b.wn)) w.heap.size w.heap.size (G ++ [p]) (bs.take k ++ [b]) bs.length := by
        have := o2.push (by omega) p b.ps.length b (by omega) hp2 (fun h => by have := hnew _ h; omega) rr tt
        rw [tl] at this; exact this
      have bw2 := bw.trans (b2.mono bw.size)
      have HI := hide (size_blka p b.ps.length b.wn)
      have o5 := one_blk p b.ps.length b.wn
      clear c0 c1 HC rr tt b2 ok o2
      generalize blkL p b.ps.length b.wn = bc at *
      go_wp2_with (first | (refine wpList_store_mid rfl 103 _ _ rfl w.heap.size (k * 2) bc.toArray rfl rfl tk3 (unhide HI) o5 ?_))
      go_roundw
      case rel => exact ⟨k + 1, by omega, by first | rfl | go_num, ⟨G ++ [p], by rw [unhide HT]; exact op⟩, below_setCells _ (Nat.le_refl _) _ _ _ bw2⟩
      case measure => simp [intOf]; omega
end Go.Proofs.YtcmklcfedeeahaaGreat.LawsB

/-
  The laws' helpers: whether two lists of blocks are the same: true of two that hold the same, wherever they lie.
-/
namespace Go.Proofs.YtcmklcfedeeahaaGreat.LawsE
open Go.ChangeShapes Go.WideShapes Go.ChangeAt Go.RowKit OkA Big Fl ImplB ImplF ImplS Own ImplT ImplU SpecA SpecB LawsA LawsB
set_option linter.unusedVariables false
set_option linter.unusedSimpArgs false
attribute [local go_sem ↓] Go.wp_at_zero Go.wp_at_succ

set_option maxHeartbeats 400000 in
theorem eqRec_any (k s a v : Int) (w : World) :
    Calls Tryz.prog 55 #[.agg #[.int .i64 k, .int .i64 s, .int .i64 a, .int .i64 v], .agg #[.int .i64 k, .int .i64 s, .int .i64 a, .int .i64 v]] w fun e w' => e = .returned (.bool true) ∧ Below w.heap.size w w' := by
  go_enter Tryz.func55, Tryz.ntmps55
  go_wp2
  go_ret
  exact ⟨rfl, ((Below.refl _ _).alloc (Nat.le_refl _) _).alloc (by simp) _⟩
set_option maxHeartbeats 400000 in
theorem eqPage_any (p : Pg) (w : World) :
    Calls Tryz.prog 105 #[.agg (pgC p).toArray, .agg (pgC p).toArray] w fun e w' => e = .returned (.bool true) ∧ Below w.heap.size w w' := by
  show Calls Tryz.prog 105 #[.agg #[.int .i64 p.st, .int .i64 p.k, .int .i64 p.s, .int .i64 p.a, .int .i64 p.v], .agg #[.int .i64 p.st, .int .i64 p.k, .int .i64 p.s, .int .i64 p.a, .int .i64 p.v]] w _
  go_enter Tryz.func105, Tryz.ntmps105
  go_wp2_with fail
  refine (eqRec_any _ _ _ _ _).mono ?_
  rintro e w1 ⟨rfl, b1⟩
  have B0 : ∀ x y, Below w.heap.size w ((w.alloc x).alloc y) := fun x y => ((Below.refl _ _).alloc (Nat.le_refl _) _).alloc (by simp) _
  have B1 := (B0 _ _).trans (b1.mono (B0 _ _).size)
  clear b1 B0
  go_wp2
  go_ret
  exact ⟨rfl, B1⟩
theorem PsAt.drew {w : World} {a : Option Addr} {ps : List Pg} (h : PsAt w a ps) : PsAt w.drew a ps := h.below ((Below.refl _ _).drew)
theorem range_pg {w : World} {b o : Nat} {ps : List Pg} (h : w.rangeAt b o (psC ps)) (k : Nat) (hk : k < ps.length) : w.rangeAt b (o + k * 5) (pgC ps[k]) := by
  have := rangeAt_sub h (k * 5) 5
  rwa [part_ps ps k hk] at this

set_option maxHeartbeats 1000000 in
theorem eqPageS_any (a1 a2 : Option Addr) (cap1 cap2 : Nat) (ps : List Pg) (w : World) (h1 : PsAt w a1 ps) (h2 : PsAt w a2 ps) (hl : ps.length ≤ 1048576) :
    Calls Tryz.prog 84 #[.slice a1 ps.length cap1, .slice a2 ps.length cap2] w fun e w' => e = .returned (.bool true) ∧ Below w.heap.size w w' := by
  have hli : (ps.length : Int) ≤ 1048576 := by omega
  have H1 := hide h1
  have H2 := hide h2
  clear h1 h2
  go_enter Tryz.func84, Tryz.ntmps84
  go_wp2
  go_loopw [5] (fun i w' => ∃ k : Nat, k ≤ ps.length ∧ i = .int .i64 k ∧ Below w.heap.size w w') (fun i _ => ps.length - (intOf i).toNat)
  case atStart => exact ⟨0, by omega, rfl, Below.refl _ _⟩
  case round =>
    obtain ⟨k, hk, rfl, bw⟩ := hrel
    by_cases h0 : k = ps.length
    · subst h0
      go_wp2
      go_ret
      exact ⟨rfl, bw⟩
    · have hlt : (k : Int) < (ps.length : Int) := by omega
      have hkb : k < ps.length := by omega
      have hlo : (0 : Int) ≤ (k : Int) := by omega
      obtain ⟨b1, o1, rfl, g1⟩ : ∃ b o, a1 = some ⟨b, o, none⟩ ∧ wr.rangeAt b o (psC ps) := by
        rcases (unhide H1).below bw with rfl | h
        · simp at hkb
        · exact h
      obtain ⟨b2, o2, rfl, g2⟩ : ∃ b o, a2 = some ⟨b, o, none⟩ ∧ wr.rangeAt b o (psC ps) := by
        rcases (unhide H2).below bw with rfl | h
        · simp at hkb
        · exact h
      have l1 := cell_lt (PsAt.cells g1 k hkb).1
      have l2 := cell_lt (PsAt.cells g2 k hkb).1
      have x1 := range_pg g1 k hkb
      have x2 := range_pg g2 k hkb
      have HC := hide (eqPage_any ps[k])
      have HS1 := hide (size_pg ps[k])
      have HS2 := hide (size_pg ps[k])
      clear g1 g2
      generalize pgC ps[k] = pc at *
      go_wp2_with fail
      refine wp_region_noPanic ?_
      refine wp_region_held_drew (S := fun w' => w'.rangeAt b1 (o1 + k * 5) pc ∧ w'.rangeAt b2 (o2 + k * 5) pc) (by kernel_rfl) (⟨by simpa using x1, by simpa using x2⟩) (fun hHeld => ?_)
      refine takeL 0 (.slice (some ⟨b1, o1, none⟩) ps.length cap1) rfl (by kernel_rfl) (by kernel_rfl) (by kernel_rfl) (fun _ _ _ h => h) (Or.inl ⟨rfl, fun _ _ => rfl⟩) hHeld ?_
      try simp only [Act.put, List.setIfInBounds_toArray, List.set_cons_zero, List.set_cons_succ]
      refine takeL 1 (.int .i64 k) rfl (by kernel_rfl) (by kernel_rfl) (by kernel_rfl) (fun _ _ _ h => h) (Or.inl ⟨rfl, fun _ _ => rfl⟩) hHeld ?_
      try simp only [Act.put, List.setIfInBounds_toArray, List.set_cons_zero, List.set_cons_succ]
      refine takeL 2 (.pointer (some ⟨b1, o1 + k * 5, none⟩)) rfl (by kernel_rfl) (by kernel_rfl) (by kernel_rfl) (fun _ _ _ h => h) (Or.inl ⟨rfl, fun w9 hSw => by go_simp⟩) hHeld ?_
      try simp only [Act.put, List.setIfInBounds_toArray, List.set_cons_zero, List.set_cons_succ]
      refine takeL 3 (_) rfl (by kernel_rfl) (by kernel_rfl) (by kernel_rfl) (fun _ _ _ h => h) (yieldsIf_load_mid rfl 59 _ rfl b1 (o1 + k * 5) rfl pc _ (fun _ h => h.1) Tryz.underlying59 rfl (unhide HS1)) hHeld ?_
      try simp only [Act.put, List.setIfInBounds_toArray, List.set_cons_zero, List.set_cons_succ]
      refine takeL 4 (.slice (some ⟨b2, o2, none⟩) ps.length cap2) rfl (by kernel_rfl) (by kernel_rfl) (by kernel_rfl) (fun _ _ _ h => h) (Or.inl ⟨rfl, fun _ _ => rfl⟩) hHeld ?_
      try simp only [Act.put, List.setIfInBounds_toArray, List.set_cons_zero, List.set_cons_succ]
      refine takeL 5 (.int .i64 k) rfl (by kernel_rfl) (by kernel_rfl) (by kernel_rfl) (fun _ _ _ h => h) (Or.inl ⟨rfl, fun _ _ => rfl⟩) hHeld ?_
      try simp only [Act.put, List.setIfInBounds_toArray, List.set_cons_zero, List.set_cons_succ]
      refine takeL 6 (.pointer (some ⟨b2, o2 + k * 5, none⟩)) rfl (by kernel_rfl) (by kernel_rfl) (by kernel_rfl) (fun _ _ _ h => h) (Or.inl ⟨rfl, fun w9 hSw => by go_simp⟩) hHeld ?_
      try simp only [Act.put, List.setIfInBounds_toArray, List.set_cons_zero, List.set_cons_succ]
      refine takeL 7 (_) rfl (by kernel_rfl) (by kernel_rfl) (by kernel_rfl) (fun _ _ _ h => h) (yieldsIf_load_mid rfl 59 _ rfl b2 (o2 + k * 5) rfl pc _ (fun _ h => h.2) Tryz.underlying59 rfl (unhide HS2)) hHeld ?_
      try simp only [Act.put, List.setIfInBounds_toArray, List.set_cons_zero, List.set_cons_succ]
      refine oneL 8 rfl (by kernel_rfl) rfl (fun K hK => ?_)
      go_simp
      refine (unhide HC _).mono ?_
      rintro e wz ⟨rfl, bz⟩
      go_wp2_with fail
      refine hK.out _ _ ⟨rangeAt_below hHeld.1 bz (by simpa using l1), rangeAt_below hHeld.2 bz (by simpa using l2)⟩ (fun hHeld => ?_)
      clear hK K
      try simp only [Act.put, List.setIfInBounds_toArray, List.set_cons_zero, List.set_cons_succ]
      refine takeL 9 (.bool false) rfl (by kernel_rfl) (by kernel_rfl) (by kernel_rfl) (fun _ _ _ h => h) (Or.inl ⟨rfl, fun w9 hSw => by go_simp⟩) hHeld ?_
      try simp only [Act.put, List.setIfInBounds_toArray, List.set_cons_zero, List.set_cons_succ]
      refine wpAnyH_done (by kernel_rfl) ?_ _
      refine NoPanic.normal ?_
      have B2 := bw.drew.trans (bz.mono bw.size)
      clear bz bw x1 x2
      go_wp2
      go_roundw
      case rel => exact ⟨k + 1, by omega, by first | rfl | go_num, B2⟩
      case measure => simp [intOf]; omega

set_option maxHeartbeats 400000 in
theorem eqBlock_any (a1 a2 : Option Addr) (cap1 cap2 : Nat) (b : Bk) (w : World) (h1 : PsAt w a1 b.ps) (h2 : PsAt w a2 b.ps) (hl : b.ps.length ≤ 1048576) :
    Calls Tryz.prog 54 #[.agg #[.slice a1 b.ps.length cap1, .int .i64 b.wn], .agg #[.slice a2 b.ps.length cap2, .int .i64 b.wn]] w fun e w' => e = .returned (.bool true) ∧ Below w.heap.size w w' := by
  have B0 : Below w.heap.size w ((w.alloc (.cells #[.slice a1 b.ps.length cap1, .int .i64 b.wn] 103)).alloc (.cells #[.slice a2 b.ps.length cap2, .int .i64 b.wn] 103)) := ((Below.refl _ _).alloc (Nat.le_refl _) _).alloc (by simp) _
  have HC := hide (eqPageS_any a1 a2 cap1 cap2 b.ps _ (h1.below B0) (h2.below B0) hl)
  clear h1 h2
  go_enter Tryz.func54, Tryz.ntmps54
  go_wp2_with fail
  refine (unhide HC).mono ?_
  rintro e w1 ⟨rfl, b1⟩
  have k1 : w1.cell? ⟨w.heap.size, 1, none⟩ = some (.int .i64 b.wn) := by rw [b1.cell (p := ⟨w.heap.size, 1, none⟩) (by simp; omega), World.cell?_alloc_lt _ _ _ (by simp)]; exact cell_top _ _ _ _ _ _ rfl rfl
  have k2 : w1.cell? ⟨w.heap.size + 1, 1, none⟩ = some (.int .i64 b.wn) := by rw [b1.cell (p := ⟨w.heap.size + 1, 1, none⟩) (by simp)]; exact cell_top _ _ _ _ _ _ (by simp) rfl
  have B1 := B0.trans (b1.mono B0.size)
  clear b1 B0 HC
  go_wp2
  go_ret
  exact ⟨rfl, B1⟩

theorem blk_range {w : World} {b o : Nat} {x y : Value} (h0 : w.cell? ⟨b, o, none⟩ = some x) (h1 : w.cell? ⟨b, o + 1, none⟩ = some y) : w.rangeAt b o [x, y] := fun j v hv => by
  match j, hv with
  | 0, hv => (obtain rfl : v = x := by simpa using hv.symm); exact h0
  | 1, hv => (obtain rfl : v = y := by simpa using hv.symm); exact h1
  | n + 2, hv => simp at hv

set_option maxHeartbeats 1000000 in
theorem eqBlockS_any (a1 a2 : Option Addr) (cap1 cap2 : Nat) (bs : List Bk) (w : World) (h1 : FsAt w a1 bs) (h2 : FsAt w a2 bs) (hl : bs.length ≤ 1048576) (hp : ∀ b ∈ bs, b.ps.length ≤ 1048576) :
    Calls Tryz.prog 29 #[.slice a1 bs.length cap1, .slice a2 bs.length cap2] w fun e w' => e = .returned (.bool true) ∧ Below w.heap.size w w' := by
  have hli : (bs.length : Int) ≤ 1048576 := by omega
  have H1 := hide h1
  have H2 := hide h2
  have HP := hide hp
  clear h1 h2 hp
  go_enter Tryz.func29, Tryz.ntmps29
  go_wp2
  go_loopw [5] (fun i w' => ∃ k : Nat, k ≤ bs.length ∧ i = .int .i64 k ∧ Below w.heap.size w w') (fun i _ => bs.length - (intOf i).toNat)
  case atStart => exact ⟨0, by omega, rfl, Below.refl _ _⟩
  case round =>
    obtain ⟨k, hk, rfl, bw⟩ := hrel
    by_cases h0 : k = bs.length
    · subst h0
      go_wp2
      go_ret
      exact ⟨rfl, bw⟩
    · have hlt : (k : Int) < (bs.length : Int) := by omega
      have hkb : k < bs.length := by omega
      have hlo : (0 : Int) ≤ (k : Int) := by omega
      obtain ⟨b1, o1, rfl, g1⟩ : ∃ b o, a1 = some ⟨b, o, none⟩ ∧ ∀ i (hi : i < bs.length), BkAt wr b (o + i * 2) bs[i] := by
        rcases (unhide H1).below bw with rfl | h
        · simp at hkb
        · exact h
      obtain ⟨b2, o2, rfl, g2⟩ : ∃ b o, a2 = some ⟨b, o, none⟩ ∧ ∀ i (hi : i < bs.length), BkAt wr b (o + i * 2) bs[i] := by
        rcases (unhide H2).below bw with rfl | h
        · simp at hkb
        · exact h
      obtain ⟨p1, c1, d0, d1, q1⟩ := g1 k hkb
      obtain ⟨p2, c2, e0, e1, q2⟩ := g2 k hkb
      have l1 := cell_lt d0
      have l2 := cell_lt e0
      have x1 := blk_range d0 d1
      have x2 := blk_range e0 e1
      have HC := hide (fun (w : World) (h : PsAt w p1 bs[k].ps) (h' : PsAt w p2 bs[k].ps) => eqBlock_any p1 p2 c1 c2 bs[k] w h h' (unhide HP _ (List.getElem_mem hkb)))
      have HS1 : Hid ((Tryz.prog.info? 103).map (·.size) = some [Value.slice p1 bs[k].ps.length c1, Value.int .i64 bs[k].wn].length) := by show _ = some 2; kernel_rfl
      have HS2 : Hid ((Tryz.prog.info? 103).map (·.size) = some [Value.slice p2 bs[k].ps.length c2, Value.int .i64 bs[k].wn].length) := by show _ = some 2; kernel_rfl
      have hpc : #[Value.slice p1 bs[k].ps.length c1, Value.int .i64 bs[k].wn] = [Value.slice p1 bs[k].ps.length c1, Value.int .i64 bs[k].wn].toArray := rfl
      have hqc : #[Value.slice p2 bs[k].ps.length c2, Value.int .i64 bs[k].wn] = [Value.slice p2 bs[k].ps.length c2, Value.int .i64 bs[k].wn].toArray := rfl
      clear g1 g2 d0 d1 e0 e1 hpc hqc
      generalize [Value.slice p1 bs[k].ps.length c1, Value.int .i64 bs[k].wn] = pc at *
      generalize [Value.slice p2 bs[k].ps.length c2, Value.int .i64 bs[k].wn] = qc at *
      go_wp2_with fail
      refine wp_region_noPanic ?_
      refine wp_region_held_drew (S := fun w' => w'.rangeAt b1 (o1 + k * 2) pc ∧ w'.rangeAt b2 (o2 + k * 2) qc) (by kernel_rfl) (⟨by simpa using x1, by simpa using x2⟩) (fun hHeld => ?_)
      refine takeL 0 (.slice (some ⟨b1, o1, none⟩) bs.length cap1) rfl (by kernel_rfl) (by kernel_rfl) (by kernel_rfl) (fun _ _ _ h => h) (Or.inl ⟨rfl, fun _ _ => rfl⟩) hHeld ?_
      try simp only [Act.put, List.setIfInBounds_toArray, List.set_cons_zero, List.set_cons_succ]
      refine takeL 1 (.int .i64 k) rfl (by kernel_rfl) (by kernel_rfl) (by kernel_rfl) (fun _ _ _ h => h) (Or.inl ⟨rfl, fun _ _ => rfl⟩) hHeld ?_
      try simp only [Act.put, List.setIfInBounds_toArray, List.set_cons_zero, List.set_cons_succ]
      refine takeL 2 (.pointer (some ⟨b1, o1 + k * 2, none⟩)) rfl (by kernel_rfl) (by kernel_rfl) (by kernel_rfl) (fun _ _ _ h => h) (Or.inl ⟨rfl, fun w9 hSw => by go_simp⟩) hHeld ?_
      try simp only [Act.put, List.setIfInBounds_toArray, List.set_cons_zero, List.set_cons_succ]
      refine takeL 3 (_) rfl (by kernel_rfl) (by kernel_rfl) (by kernel_rfl) (fun _ _ _ h => h) (yieldsIf_load_mid rfl 103 _ rfl b1 (o1 + k * 2) rfl pc _ (fun _ h => h.1) Tryz.underlying103 rfl (unhide HS1)) hHeld ?_
      try simp only [Act.put, List.setIfInBounds_toArray, List.set_cons_zero, List.set_cons_succ]
      refine takeL 4 (.slice (some ⟨b2, o2, none⟩) bs.length cap2) rfl (by kernel_rfl) (by kernel_rfl) (by kernel_rfl) (fun _ _ _ h => h) (Or.inl ⟨rfl, fun _ _ => rfl⟩) hHeld ?_
      try simp only [Act.put, List.setIfInBounds_toArray, List.set_cons_zero, List.set_cons_succ]
      refine takeL 5 (.int .i64 k) rfl (by kernel_rfl) (by kernel_rfl) (by kernel_rfl) (fun _ _ _ h => h) (Or.inl ⟨rfl, fun _ _ => rfl⟩) hHeld ?_
      try simp only [Act.put, List.setIfInBounds_toArray, List.set_cons_zero, List.set_cons_succ]
      refine takeL 6 (.pointer (some ⟨b2, o2 + k * 2, none⟩)) rfl (by kernel_rfl) (by kernel_rfl) (by kernel_rfl) (fun _ _ _ h => h) (Or.inl ⟨rfl, fun w9 hSw => by go_simp⟩) hHeld ?_
      try simp only [Act.put, List.setIfInBounds_toArray, List.set_cons_zero, List.set_cons_succ]
      refine takeL 7 (_) rfl (by kernel_rfl) (by kernel_rfl) (by kernel_rfl) (fun _ _ _ h => h) (yieldsIf_load_mid rfl 103 _ rfl b2 (o2 + k * 2) rfl qc _ (fun _ h => h.2) Tryz.underlying103 rfl (unhide HS2)) hHeld ?_
      try simp only [Act.put, List.setIfInBounds_toArray, List.set_cons_zero, List.set_cons_succ]
      refine oneL 8 rfl (by kernel_rfl) rfl (fun K hK => ?_)
      go_simp
      refine (unhide HC _ (PsAt.drew q1) (PsAt.drew q2)).mono ?_
      rintro e wz ⟨rfl, bz⟩
      go_wp2_with fail
      refine hK.out _ _ ⟨rangeAt_below hHeld.1 bz (by simpa using l1), rangeAt_below hHeld.2 bz (by simpa using l2)⟩ (fun hHeld => ?_)
      clear hK K
      try simp only [Act.put, List.setIfInBounds_toArray, List.set_cons_zero, List.set_cons_succ]
      refine takeL 9 (.bool false) rfl (by kernel_rfl) (by kernel_rfl) (by kernel_rfl) (fun _ _ _ h => h) (Or.inl ⟨rfl, fun w9 hSw => by go_simp⟩) hHeld ?_
      try simp only [Act.put, List.setIfInBounds_toArray, List.set_cons_zero, List.set_cons_succ]
      refine wpAnyH_done (by kernel_rfl) ?_ _
      refine NoPanic.normal ?_
      have B2 := bw.drew.trans (bz.mono bw.size)
      clear bz bw x1 x2
      go_wp2
      go_roundw
      case rel => exact ⟨k + 1, by omega, by first | rfl | go_num, B2⟩
      case measure => simp [intOf]; omega
end Go.Proofs.YtcmklcfedeeahaaGreat.LawsE

/-
  A law's argument that is a list of blocks, opened: whatever it is, blocks and pages of ints lie there.
-/
namespace Go.Proofs.YtcmklcfedeeahaaGreat.OpenF
open Go.ChangeShapes Go.WideShapes Go.ChangeAt Go.RowKit Go.Joins Go.Deep OkA Big Fl ImplS LawsA
set_option linter.unusedVariables false
set_option linter.unusedSimpArgs false

theorem range_flat {α : Type} (f : α → List Value) (n : Nat) {w : World} {b : Nat} : ∀ (l : List α) (o : Nat), (∀ x ∈ l, (f x).length = n) → (∀ i (hi : i < l.length), w.rangeAt b (o + i * n) (f l[i])) → w.rangeAt b o (l.flatMap f)
  | [], o, _, _ => fun j v hv => by simp at hv
  | x :: r, o, h1, h2 => by
    rw [List.flatMap_cons, range_app, h1 x (by simp)]
    refine ⟨by have := h2 0 (by simp); rw [Nat.zero_mul, Nat.add_zero] at this; exact this, range_flat f n r (o + n) (fun y hy => h1 y (by simp [hy])) fun i hi => ?_⟩
    have := h2 (i + 1) (by simpa using hi)
    rw [show o + n + i * n = o + (i + 1) * n by rw [Nat.add_mul]; omega]
    simpa using this
theorem spot_none {w : World} {b o : Nat} {s : Option Nat} {v : Value} (h : w.cell? ⟨b, o, s⟩ = some v) : s = none := by simpa using World.cell?_spot h

theorem list2 {cs : List Value} (h : cs.length = 2) : ∃ a b, cs = [a, b] := by
  match cs, h with
  | [a, b], _ => exact ⟨a, b, rfl⟩
theorem list4 {cs : List Value} (h : cs.length = 4) : ∃ a b c d, cs = [a, b, c, d] := by
  match cs, h with
  | [a, b, c, d], _ => exact ⟨a, b, c, d, rfl⟩
theorem list5 {cs : List Value} (h : cs.length = 5) : ∃ a b c d e, cs = [a, b, c, d, e] := by
  match cs, h with
  | [a, b, c, d, e], _ => exact ⟨a, b, c, d, e, rfl⟩
variable {H : Type} {enc : TypeId × Value → H} {w : World}

theorem open_rec {fuel : Nat} {cs : List Value} {x : DataW H × List MemPlace} (h : DataW.trod enc Tryz.prog w 0 (fun _ => true) true fuel 55 cs = some x) :
    ∃ k s a v : Int, cs = [.int .i64 k, .int .i64 s, .int .i64 a, .int .i64 v] := by
  obtain ⟨y0, y1, y2, y3, n, _, hl, h0, h1, h2, h3⟩ := trod_struct4 Tryz.underlying55 h
  rw [show Tryz.prog.cellsOf 55 = 4 by kernel_rfl] at hl
  obtain ⟨c0, c1, c2, c3, rfl⟩ := list4 hl
  rw [show Tryz.prog.cellsOf 3 = 1 by kernel_rfl] at h0 h1 h2 h3
  obtain ⟨x0, e0, _, _⟩ := DataW.trod_int Tryz.underlying3 h0
  obtain ⟨x1, e1, _, _⟩ := DataW.trod_int Tryz.underlying3 h1
  obtain ⟨x2, e2, _, _⟩ := DataW.trod_int Tryz.underlying3 h2
  obtain ⟨x3, e3, _, _⟩ := DataW.trod_int Tryz.underlying3 h3
  simp at e0 e1 e2 e3
  subst e0 e1 e2 e3
  exact ⟨_, _, _, _, rfl⟩
theorem open_page {fuel : Nat} {cs : List Value} {x : DataW H × List MemPlace} (h : DataW.trod enc Tryz.prog w 0 (fun _ => true) true fuel 145 cs = some x) : ∃ p : Pg, cs = pgC p := by
  obtain ⟨y0, y1, n, _, hl, h0, h1⟩ := trod_struct2 Tryz.underlying145 h
  rw [show Tryz.prog.cellsOf 145 = 5 by kernel_rfl] at hl
  obtain ⟨c0, c1, c2, c3, c4, rfl⟩ := list5 hl
  rw [show Tryz.prog.cellsOf 3 = 1 by kernel_rfl] at h0
  rw [show Tryz.prog.cellsOf 55 = 4 by kernel_rfl] at h1
  obtain ⟨x0, e0, _, _⟩ := DataW.trod_int Tryz.underlying3 h0
  obtain ⟨k, s, a, v, e1⟩ := open_rec h1
  simp at e0 e1
  obtain ⟨rfl, rfl, rfl, rfl⟩ := e1
  subst e0
  exact ⟨⟨x0, k, s, a, v⟩, rfl⟩
theorem open_pages {fuel : Nat} {V : Value} {x : DataW H × List MemPlace} (h : DataW.trod enc Tryz.prog w 0 (fun _ => true) true fuel 91 [V] = some x) :
    ∃ a ps cap, V = .slice a (ps : List Pg).length cap ∧ PsAt w a ps ∧ ps.length ≤ 9223372036854775807 := by
  rcases open_slice Tryz.underlying91 h with ⟨h0, _⟩ | ⟨a, len, cap, m, n, D, Pl, hc, _, hl, hm, hmm, _, hx⟩
  · simp at h0; subst h0; exact ⟨none, [], 0, rfl, .inl rfl, by simp⟩
  · simp at hc
    subst hc
    have hlm : len ≤ m := by rw [hmm]; simp; exact hl
    rw [show Tryz.prog.cellsOf 145 = 5 by kernel_rfl] at hx
    have hp : ∀ i, i < len → ∃ p : Pg, ∀ j, j < 5 → w.cell? ((a.add (i * 5)).add j) = (pgC p)[j]? := fun i hi => by
      obtain ⟨cs', h1, h2⟩ := hx i (by omega)
      obtain ⟨p, rfl⟩ := open_page h2
      obtain ⟨_, _, h3⟩ := World.cells?_some h1
      exact ⟨p, h3⟩
    have : Inhabited Pg := ⟨⟨0, 0, 0, 0, 0⟩⟩
    obtain ⟨P, hP⟩ := choose_lt hp
    refine ⟨some a, (List.range len).map P, cap, by simp, ?_, ?_⟩
    · by_cases h0 : len = 0
      · subst h0; exact .inl rfl
      · obtain ⟨b, o, s⟩ := a
        have c0 := hP 0 (by omega) 0 (by omega)
        rw [Nat.zero_mul] at c0
        have hs : s = none := by
          have : w.cell? ⟨b, o, s⟩ = some (.int .i64 (P 0).st) := by simpa [Addr.add, pgC] using c0
          exact spot_none this
        subst hs
        refine .inr ⟨b, o, rfl, range_flat pgC 5 _ o (fun _ _ => rfl) fun i hi j v hv => ?_⟩
        simp only [List.length_map, List.length_range] at hi
        simp only [List.getElem_map, List.getElem_range] at hv
        have hj : j < 5 := by have := (List.getElem?_eq_some_iff.1 hv).1; simpa [len_pgC] using this
        have := hP i hi j hj
        rw [Addr.add_mid, Addr.add_mid] at this
        rw [this]; exact hv
    · simp
      have h1 := hm
      unfold maxLen at h1
      omega
theorem open_block {fuel : Nat} {cs : List Value} {x : DataW H × List MemPlace} (h : DataW.trod enc Tryz.prog w 0 (fun _ => true) true fuel 93 cs = some x) :
    ∃ (b : Bk) (a : Option Addr) (cap : Nat), cs = [.slice a b.ps.length cap, .int .i64 b.wn] ∧ PsAt w a b.ps ∧ b.ps.length ≤ 9223372036854775807 := by
  obtain ⟨y0, y1, n, _, hl, h0, h1⟩ := trod_struct2 Tryz.underlying93 h
  rw [show Tryz.prog.cellsOf 93 = 2 by kernel_rfl] at hl
  obtain ⟨c0, c1, rfl⟩ := list2 hl
  rw [show Tryz.prog.cellsOf 3 = 1 by kernel_rfl] at h1
  rw [show Tryz.prog.cellsOf 91 = 1 by kernel_rfl] at h0
  obtain ⟨x0, e0, _, _⟩ := DataW.trod_int Tryz.underlying3 h1
  obtain ⟨a, ps, cap, e1, hps, hle⟩ := open_pages h0
  simp at e0
  subst e0 e1
  exact ⟨⟨ps, x0⟩, a, cap, rfl, hps, hle⟩
theorem open_flash {fuel : Nat} {V : Value} {x : DataW H × List MemPlace} (h : DataW.trod enc Tryz.prog w 0 (fun _ => true) true fuel 22 [V] = some x) :
    ∃ a bs cap, V = .slice a (bs : List Bk).length cap ∧ FsAt w a bs ∧ Fit bs := by
  rcases open_slice Tryz.underlying22 h with ⟨h0, _⟩ | ⟨a, len, cap, m, n, D, Pl, hc, _, hl, hm, hmm, _, hx⟩
  · simp at h0; subst h0; exact ⟨none, [], 0, rfl, .inl rfl, by simp, fun b hb => by simp at hb⟩
  · simp at hc
    subst hc
    have hlm : len ≤ m := by rw [hmm]; simp; exact hl
    rw [show Tryz.prog.cellsOf 93 = 2 by kernel_rfl] at hx
    have hp : ∀ i, i < len → ∃ b : Bk, b.ps.length ≤ 9223372036854775807 ∧ ∃ pa pc, w.cell? ((a.add (i * 2)).add 0) = some (.slice pa b.ps.length pc) ∧ w.cell? ((a.add (i * 2)).add 1) = some (.int .i64 b.wn) ∧ PsAt w pa b.ps := fun i hi => by
      obtain ⟨cs', h1, h2⟩ := hx i (by omega)
      obtain ⟨b, pa, pc, rfl, hps, hle⟩ := open_block h2
      obtain ⟨_, _, h3⟩ := World.cells?_some h1
      exact ⟨b, hle, pa, pc, h3 0 (by omega), h3 1 (by omega), hps⟩
    have : Inhabited Bk := ⟨⟨[], 0⟩⟩
    obtain ⟨B, hB⟩ := choose_lt hp
    refine ⟨some a, (List.range len).map B, cap, by simp, ?_, ?_, ?_⟩
    · by_cases h0 : len = 0
      · subst h0; exact .inl rfl
      · obtain ⟨b, o, s⟩ := a
        obtain ⟨_, pa, pc, c0, _⟩ := hB 0 (by omega)
        rw [Nat.zero_mul] at c0
        have hs : s = none := by
          have : w.cell? ⟨b, o, s⟩ = some (.slice pa (B 0).ps.length pc) := by simpa [Addr.add] using c0
          exact spot_none this
        subst hs
        refine .inr ⟨b, o, rfl, fun i hi => ?_⟩
        simp only [List.length_map, List.length_range] at hi
        obtain ⟨_, pa, pc, d0, d1, d2⟩ := hB i hi
        simp only [List.getElem_map, List.getElem_range]
        rw [Addr.add_mid, Addr.add_mid] at d0 d1
        exact ⟨pa, pc, d0, d1, d2⟩
    · simp
      have h1 := hm
      unfold maxLen at h1
      omega
    · intro b hb
      simp at hb
      obtain ⟨i, hi, rfl⟩ := hb
      have := (hB i hi).1
      omega
end Go.Proofs.YtcmklcfedeeahaaGreat.OpenF

/-
  The laws' marks: numbers laid into every cell of blocks that stand in rows of their own, and looked for again.
-/
namespace Go.Proofs.YtcmklcfedeeahaaGreat.MarkB
open Go.ChangeShapes Go.WideShapes Go.ChangeAt Go.RowKit OkA Big Fl ImplB ImplF ImplS Own ImplT ImplU SpecA SpecB SpecC SpecD
set_option linter.unusedVariables false
set_option linter.unusedSimpArgs false

def mkP (m : Int) : Pg := ⟨m, m + 1, m + 2, m + 3, m + 4⟩
def mkPs (n : Nat) (k : Int) : List Pg := (List.range n).map fun i => mkP (k + 5 * (i : Nat))
def mkB (m : Int) : Bk := ⟨mkPs 4 m, m + 20⟩
def mkBs (n : Nat) (k : Int) : List Bk := (List.range n).map fun i => mkB (k + 21 * (i : Nat))
theorem mkPs_len (n : Nat) (k : Int) : (mkPs n k).length = n := by simp [mkPs]
theorem mkBs_len (n : Nat) (k : Int) : (mkBs n k).length = n := by simp [mkBs]
theorem mkPs_succ (n : Nat) (k : Int) : mkPs (n + 1) k = mkPs n k ++ [mkP (k + 5 * (n : Nat))] := by simp [mkPs, List.range_succ]
theorem mkBs_succ (n : Nat) (k : Int) : mkBs (n + 1) k = mkBs n k ++ [mkB (k + 21 * (n : Nat))] := by simp [mkBs, List.range_succ]
theorem mkPs_at (n : Nat) (k : Int) (i : Nat) (hi : i < (mkPs n k).length) : (mkPs n k)[i] = mkP (k + 5 * (i : Nat)) := by simp [mkPs]
theorem mkBs_at (n : Nat) (k : Int) (i : Nat) (hi : i < (mkBs n k).length) : (mkBs n k)[i] = mkB (k + 21 * (i : Nat)) := by simp [mkBs]
theorem setCells_append (b : Nat) : ∀ (x y : List Value) (d : Nat) (w : World), w.setCells b d (x ++ y) = (w.setCells b d x).setCells b (d + x.length) y
  | [], _, _, _ => rfl
  | v :: r, y, d, w => by
    simp only [List.cons_append, World.setCells, List.length_cons]
    rw [setCells_append b r y (d + 1), show d + 1 + r.length = d + (r.length + 1) by omega]
theorem mark_step (w : World) (pb j : Nat) (k : Int) : w.setCells pb 0 (psC (mkPs (j + 1) k)) =
    (((((w.setCells pb 0 (psC (mkPs j k))).setCell ⟨pb, j * 5, none⟩ (.int .i64 (k + 5 * (j : Nat)))).setCell ⟨pb, j * 5 + 1, none⟩ (.int .i64 (k + 5 * (j : Nat) + 1))).setCell ⟨pb, j * 5 + 2, none⟩ (.int .i64 (k + 5 * (j : Nat) + 2))).setCell ⟨pb, j * 5 + 3, none⟩ (.int .i64 (k + 5 * (j : Nat) + 3))).setCell ⟨pb, j * 5 + 4, none⟩ (.int .i64 (k + 5 * (j : Nat) + 4)) := by
  have e : psC (mkPs (j + 1) k) = psC (mkPs j k) ++ pgC (mkP (k + 5 * (j : Nat))) := by rw [mkPs_succ]; simp [psC]
  rw [e, setCells_append, len_psC, mkPs_len, Nat.zero_add]
  rfl
theorem there_some {w : World} {b o n : Nat} (h : w.there b o n) (j : Nat) (hj : j < n) : ∃ v, w.cell? ⟨b, o + j, none⟩ = some v := Option.isSome_iff_exists.1 (h j hj).1

set_option maxHeartbeats 1000000 in
theorem markPageS_any (pb cap n : Nat) (k : Int) (w : World) (hk0 : 0 ≤ k) (hk1 : k ≤ 1000) (hn : n ≤ 4) (ht : w.there pb 0 (n * 5)) :
    Calls Tryz.prog 56 #[.slice (some ⟨pb, 0, none⟩) n cap, .int .i64 k] w fun e w' => e = .returned (.int .i64 (k + 5 * (n : Nat))) ∧ w' = w.setCells pb 0 (psC (mkPs n k)) := by
  have HT := hide ht
  clear ht
  go_enter Tryz.func56, Tryz.ntmps56
  go_wp2
  go_loopw [5, 1] (fun i m w' => ∃ (j : Nat) (M : Int), j ≤ n ∧ i = .int .i64 j ∧ m = .int .i64 M ∧ M = k + 5 * (j : Nat) ∧ Hid (w' = w.setCells pb 0 (psC (mkPs j k)))) (fun i _ _ => n - (intOf i).toNat)
  case atStart => exact ⟨0, k, by omega, rfl, rfl, by omega, rfl⟩
  case round =>
    obtain ⟨j, M, hj, rfl, rfl, hM, hw⟩ := hrel
    by_cases h0 : j = n
    · subst h0
      have HW := hw
      go_wp2
      go_ret
      exact ⟨by rw [hM]; rfl, unhide HW⟩
    · have hlt : (j : Int) < (n : Int) := by omega
      have hlo : (0 : Int) ≤ (j : Int) := by omega
      have tr : wr.there pb 0 (n * 5) := by rw [unhide hw]; exact World.there_setCells (unhide HT) _ _ _
      obtain ⟨v0, c0⟩ := there_some tr (j * 5) (by omega)
      obtain ⟨v1, c1⟩ := there_some tr (j * 5 + 1) (by omega)
      obtain ⟨v2, c2⟩ := there_some tr (j * 5 + 2) (by omega)
      obtain ⟨v3, c3⟩ := there_some tr (j * 5 + 3) (by omega)
      obtain ⟨v4, c4⟩ := there_some tr (j * 5 + 4) (by omega)
      have f0 := (tr (j * 5) (by omega)).2
      have f1 := (tr (j * 5 + 1) (by omega)).2
      have f2 := (tr (j * 5 + 2) (by omega)).2
      have f3 := (tr (j * 5 + 3) (by omega)).2
      have f4 := (tr (j * 5 + 4) (by omega)).2
      simp only [Nat.zero_add] at c0 c1 c2 c3 c4 f0 f1 f2 f3 f4
      have HM := hide (mark_step w pb j k)
      rw [← unhide hw, ← hM] at HM
      have hM0 : 0 ≤ M := by omega
      have hM1 : M ≤ 2000 := by omega
      clear tr hw
      go_wp2
      go_roundw
      case rel =>
        refine ⟨j + 1, M + 5, by omega, by first | rfl | go_num, by first | rfl | go_num, by omega, ?_⟩
        show _ = _
        rw [unhide HM, hM]
        simp only [Nat.add_assoc, Int.add_assoc, Int.reduceAdd, Nat.reduceAdd]
      case measure => simp [intOf]; omega

set_option maxHeartbeats 1000000 in
theorem heldPageS_any (pb po cap n : Nat) (k : Int) (w : World) (hk0 : 0 ≤ k) (hk1 : k ≤ 1000) (hn : n ≤ 4) (hr : w.rangeAt pb po (psC (mkPs n k))) :
    Calls Tryz.prog 57 #[.slice (some ⟨pb, po, none⟩) n cap, .int .i64 k] w fun e w' => e = .returned (.int .i64 (k + 5 * (n : Nat))) ∧ w' = w := by
  have HR := hide hr
  clear hr
  go_enter Tryz.func57, Tryz.ntmps57
  go_wp2
  go_loop [5, 1] (fun i m => ∃ (j : Nat) (M : Int), j ≤ n ∧ i = .int .i64 j ∧ m = .int .i64 M ∧ M = k + 5 * (j : Nat)) (fun i _ => n - (intOf i).toNat)
  case atStart => exact ⟨0, k, by omega, rfl, rfl, by omega⟩
  case round =>
    obtain ⟨j, M, hj, rfl, rfl, hM⟩ := hrel
    by_cases h0 : j = n
    · subst h0
      go_wp2
      go_ret
      exact ⟨by first | rfl | (rw [hM]; rfl), rfl⟩
    · have hlt : (j : Int) < (n : Int) := by omega
      have hlo : (0 : Int) ≤ (j : Int) := by omega
      obtain ⟨c0, c1, c2, c3, c4⟩ := PsAt.cells (unhide HR) j (by rw [mkPs_len]; omega)
      rw [mkPs_at, ← hM] at c0 c1 c2 c3 c4
      simp only [mkP] at c0 c1 c2 c3 c4
      have hM0 : 0 ≤ M := by omega
      have hM1 : M ≤ 2000 := by omega
      have HM := hide hM
      clear hM
      go_wp2
      go_round
      case rel => exact ⟨j + 1, M + 5, by omega, by first | rfl | go_num, by first | rfl | go_num, by have := unhide HM; omega⟩
      case measure => simp [intOf]; omega

set_option maxHeartbeats 1000000 in
theorem heldBlockS_any (a : Option Addr) (cap n : Nat) (k : Int) (w : World) (hk0 : 0 ≤ k) (hk1 : k ≤ 100) (hn : n ≤ 4) (hf : FsAt w a (mkBs n k)) :
    Calls Tryz.prog 34 #[.slice a n cap, .int .i64 k] w fun e w' => e = .returned (.int .i64 (k + 21 * (n : Nat))) ∧ w' = w := by
  have HF := hide hf
  clear hf
  go_enter Tryz.func34, Tryz.ntmps34
  go_wp2
  go_loop [5, 1] (fun i m => ∃ (j : Nat) (M : Int), j ≤ n ∧ i = .int .i64 j ∧ m = .int .i64 M ∧ M = k + 21 * (j : Nat)) (fun i _ => n - (intOf i).toNat)
  case atStart => exact ⟨0, k, by omega, rfl, rfl, by omega⟩
  case round =>
    obtain ⟨j, M, hj, rfl, rfl, hM⟩ := hrel
    by_cases h0 : j = n
    · subst h0
      go_wp2
      go_ret
      exact ⟨by first | rfl | (rw [hM]; rfl), rfl⟩
    · have hlt : (j : Int) < (n : Int) := by omega
      have hlo : (0 : Int) ≤ (j : Int) := by omega
      obtain ⟨b1, o1, rfl, g1⟩ : ∃ b o, a = some ⟨b, o, none⟩ ∧ ∀ i (hi : i < (mkBs n k).length), BkAt w b (o + i * 2) (mkBs n k)[i] := by
        rcases unhide HF with h | h
        · have := congrArg List.length h; rw [mkBs_len] at this; simp at this; omega
        · exact h
      obtain ⟨pa, pc, c0, c1, hps⟩ := g1 j (by rw [mkBs_len]; omega)
      rw [mkBs_at, ← hM] at c0 c1 hps
      simp only [mkB, mkPs_len] at c0 c1 hps
      obtain ⟨pb, po, rfl, hr⟩ : ∃ pb po, pa = some ⟨pb, po, none⟩ ∧ w.rangeAt pb po (psC (mkPs 4 M)) := by
        rcases hps with h | h
        · have := congrArg List.length h; rw [mkPs_len] at this; simp at this
        · exact h
      have hM0 : 0 ≤ M := by omega
      have hM1 : M ≤ 1000 := by omega
      have HC := hide (heldPageS_any pb po pc 4 M w hM0 hM1 (by omega) hr)
      have HM := hide hM
      clear hM g1 hps hr
      go_wp2_with (go_at_call 57; refine (unhide HC).mono ?_; rintro e w' ⟨rfl, hw'⟩; obtain rfl := hw'.symm; rw [show M + 5 * ((4 : Nat) : Int) = M + 20 by omega])
      go_round
      case rel => exact ⟨j + 1, M + 21, by omega, by first | rfl | go_num, by first | rfl | go_num, by have := unhide HM; omega⟩
      case measure => simp [intOf]; omega

/-- A block is laid over a block. -/
theorem _root_.Go.Proofs.YtcmklcfedeeahaaGreat.Own.Own.block {w : World} {lo g n : Nat} {G : List Nat} {bs : List Bk} (h : Own w lo g G bs n) (k : Nat) (hk : k < bs.length) (ps : List Pg) (hl : ps.length = bs[k].ps.length) (wn : Int) :
    Own ((w.setCells (G[k]'(by have := h.len; omega)) 0 (psC ps)).setCells g (k * 2 + 1) [.int .i64 wn]) lo g G (bs.set k ⟨ps, wn⟩) n := by
  have hlen := h.len
  have hGg : ∀ i (hi : i < G.length), G[i] ≠ g := fun i hi e => (List.nodup_cons.1 h.nd).1 (e ▸ List.getElem_mem hi)
  have hGG : ∀ i (hi : i < G.length), i ≠ k → G[i] ≠ G[k]'(by omega) := fun i hi hne e => by
    have hp := List.pairwise_iff_getElem.1 (List.nodup_cons.1 h.nd).2
    rcases Nat.lt_or_gt_of_ne hne with q | q
    · exact hp i k hi (by omega) q e
    · exact hp k i (by omega) hi q e.symm
  have hfit := h.fit
  have tk : w.there (G[k]'(by omega)) 0 (psC ps).length := by rw [len_psC, hl]; exact h.free k hk
  have tg : (w.setCells (G[k]'(by omega)) 0 (psC ps)).there g (k * 2 + 1) 1 := by
    have := there_sub (World.there_setCells h.room (G[k]'(by omega)) 0 (psC ps)) (k * 2 + 1) 1 (by omega)
    simpa using this
  refine ⟨by simp [hlen], h.nd, h.lo, fun x hx => by rw [size_setCells, size_setCells]; exact h.hi x hx, by simpa using h.fit, World.there_setCells (World.there_setCells h.room _ _ _) _ _ _, fun i hi => ?_, fun i hi => ?_, fun i hi => ?_, fun i hi => ?_⟩
  · simp only [List.length_set] at hi
    obtain ⟨c, hc⟩ := h.out i hi
    refine ⟨c, ?_⟩
    rw [cell_setCells_ne (.inr (by simp; omega)), cell_setCells_ne (.inl (hGg k (by omega)).symm), hc]
    by_cases e : i = k
    · subst e; simp [hl]
    · rw [List.getElem_set_ne (fun q => e q.symm)]
  · simp only [List.length_set] at hi
    by_cases e : i = k
    · subst e
      have := cell_setCells_eq (vs := [.int .i64 wn]) tg 0 (by simp)
      simpa using this
    · rw [cell_setCells_ne (.inr (by simp; omega)), cell_setCells_ne (.inl (hGg k (by omega)).symm), List.getElem_set_ne (fun q => e q.symm)]
      exact h.worn i hi
  · simp only [List.length_set] at hi
    refine World.rangeAt_setCells_apart ?_ _ _ _ (.inl (hGg i (by omega)))
    by_cases e : i = k
    · subst e
      simp only [List.getElem_set_self]
      intro j v hv
      obtain ⟨hj, rfl⟩ := List.getElem?_eq_some_iff.1 hv
      exact cell_setCells_eq tk j hj
    · rw [List.getElem_set_ne (fun q => e q.symm)]
      exact World.rangeAt_setCells_apart (h.pgs i hi) _ _ _ (.inl (hGG i (by omega) e))
  · simp only [List.length_set] at hi
    refine World.there_setCells (World.there_setCells ?_ _ _ _) _ _ _
    by_cases e : i = k
    · subst e
      simp only [List.getElem_set_self, hl]
      exact h.free i hk
    · rw [List.getElem_set_ne (fun q => e q.symm)]
      exact h.free i hi
theorem mix_len (j : Nat) (k : Int) (bs : List Bk) (hj : j ≤ bs.length) : (mkBs j k ++ bs.drop j).length = bs.length := by simp [mkBs_len]; omega
theorem mix_at (j : Nat) (k : Int) (bs : List Bk) (hj : j < bs.length) : (mkBs j k ++ bs.drop j)[j]'(by rw [mix_len j k bs (by omega)]; exact hj) = bs[j] := by
  rw [List.getElem_append_right (by rw [mkBs_len]; omega)]
  simp [mkBs_len]
theorem mix_set (j : Nat) (k : Int) (bs : List Bk) (hj : j < bs.length) : (mkBs j k ++ bs.drop j).set j (mkB (k + 21 * (j : Nat))) = mkBs (j + 1) k ++ bs.drop (j + 1) := by
  rw [List.set_append_right _ _ (by rw [mkBs_len]; omega), mkBs_len, Nat.sub_self, mkBs_succ, List.drop_eq_getElem_cons hj]
  simp only [List.set_cons_zero, List.append_assoc, List.singleton_append]

def MarkPost (w : World) (lo g N n : Nat) (G : List Nat) (k : Int) (e : Ending) (w' : World) : Prop := e = .returned (.int .i64 (k + 21 * (n : Nat))) ∧ Own w' lo g G (mkBs n k) N ∧ Below lo w w' ∧ w'.heap.size = w.heap.size
set_option maxHeartbeats 1000000 in
theorem markBlockS_any (lo g cap N : Nat) (G : List Nat) (bs : List Bk) (k : Int) (w : World) (o : Own w lo g G bs N) (hF : Fours bs) (h4 : bs.length ≤ 4) (hk0 : 0 ≤ k) (hk1 : k ≤ 100) :
    Calls Tryz.prog 32 #[.slice (some ⟨g, 0, none⟩) bs.length cap, .int .i64 k] w fun e w' => MarkPost w lo g N bs.length G k e w' := by
  have HO := hide o
  have HF := hide hF
  clear o hF
  go_enter Tryz.func32, Tryz.ntmps32
  go_wp2
  go_loopw [5, 1] (fun i m w' => ∃ (j : Nat) (M : Int), j ≤ bs.length ∧ i = .int .i64 j ∧ m = .int .i64 M ∧ M = k + 21 * (j : Nat) ∧ Own w' lo g G (mkBs j k ++ bs.drop j) N ∧ Below lo w w' ∧ w'.heap.size = w.heap.size) (fun i _ _ => bs.length - (intOf i).toNat)
  case atStart => exact ⟨0, k, by omega, rfl, rfl, by omega, by simpa [mkBs] using unhide HO, Below.refl _ _, rfl⟩
  case round =>
    obtain ⟨j, M, hj, rfl, rfl, hM, oj, bj, sj⟩ := hrel
    by_cases h0 : j = bs.length
    · subst h0
      go_wp2
      go_ret
      refine ⟨by rw [hM]; rfl, ?_, bj, sj⟩
      rw [List.drop_eq_nil_of_le (Nat.le_refl _), List.append_nil] at oj
      exact oj
    · have hlt : (j : Int) < (bs.length : Int) := by omega
      have hjb : j < bs.length := by omega
      have hlo : (0 : Int) ≤ (j : Int) := by omega
      have hlen := oj.len
      have hml := mix_len j k bs hj
      have hj' : j < (mkBs j k ++ bs.drop j).length := by omega
      have hma := mix_at j k bs hjb
      have hb4 : bs[j].ps.length = 4 := (unhide HF).at j hjb
      obtain ⟨pc, c0⟩ := oj.out j hj'
      have c1 := oj.worn j hj'
      have tp := oj.free j hj'
      have hne : g ≠ G[j]'(by omega) := fun e => (List.nodup_cons.1 oj.nd).1 (e ▸ List.getElem_mem _)
      have hgl : lo ≤ g := oj.lo g (by simp)
      have hpl : lo ≤ G[j]'(by omega) := oj.lo _ (List.mem_cons_of_mem _ (List.getElem_mem _))
      have OB := hide (oj.block j hj' (mkPs 4 M) (by rw [mkPs_len, hma, hb4]) (M + 20))
      rw [show (⟨mkPs 4 M, M + 20⟩ : Bk) = mkB (k + 21 * (j : Nat)) by rw [← hM]; rfl, mix_set j k bs hjb] at OB
      simp only [hma] at c0 c1 tp
      rw [hb4] at c0 tp
      have hM0 : 0 ≤ M := by omega
      have hM1 : M ≤ 1000 := by omega
      generalize G[j]'(by omega) = gj at *
      have HC := hide (markPageS_any gj pc 4 M wr hM0 hM1 (by omega) tp)
      have TR := oj.room
      have hfit := oj.fit
      generalize psC (mkPs 4 M) = cs at *
      have C1 : (wr.setCells gj 0 cs).cell? ⟨g, j * 2 + 1, none⟩ = some (.int .i64 bs[j].wn) := by rw [cell_setCells_ne (.inl hne)]; exact c1
      have F1 : (wr.setCells gj 0 cs).frozen? ⟨g, j * 2 + 1, none⟩ = false := by
        have := (World.there_setCells TR gj 0 cs (j * 2 + 1) (by omega)).2
        rwa [Nat.zero_add] at this
      have B1 := below_setCells gj hpl cs 0 wr bj
      have S1 : (wr.setCells gj 0 cs).heap.size = w.heap.size := by rw [size_setCells]; exact sj
      have HM := hide hM
      clear hM oj bj sj c1 tp hma hml hj' hlen TR
      generalize wr.setCells gj 0 cs = w1 at *
      go_wp2_with (go_at_call 56; refine (unhide HC).mono ?_; rintro e w' ⟨rfl, rfl⟩; rw [show M + 5 * ((4 : Nat) : Int) = M + 20 by omega])
      go_roundw
      case rel =>
        refine ⟨j + 1, M + 21, by omega, by first | rfl | go_num, by first | rfl | go_num, by have := unhide HM; omega, unhide OB, B1.setCell hgl _, ?_⟩
        rw [World.size_setCell]; exact S1
      case measure => simp [intOf]; omega
end Go.Proofs.YtcmklcfedeeahaaGreat.MarkB
